package terse_test

import (
	"encoding/json"
	"regexp"
	"slices"
	"strconv"
	"strings"
	"unicode/utf8"

	"postern/api"
)

// The model reads P2.4 another way than the program: tokens by expressions, and what may stand by a stack of open marks.

var (
	tokenForm = regexp.MustCompile(`(?s)^(?:[\[\]{},:]|"(?:[^"\\]|\\.)*(?:"|\\?$)|[^\[\]{},:"\t\n\r ]+)`)
	textForm  = regexp.MustCompile(`^"(?:[^"\\\x00-\x1f]|\\["\\/bfnrt]|\\u[0-9a-fA-F]{4})*"\z`)
	pointForm = regexp.MustCompile(`(?s)\\u[0-9a-fA-F]{4}|\\.|.`)
	floatForm = regexp.MustCompile(`^-?(?:0|[1-9][0-9]*)(?:\.[0-9]+)?(?:[eE][+-]?[0-9]+)?\z`)
	wholeForm = regexp.MustCompile(`^-?(?:0|[1-9][0-9]*)\z`)
)

type token struct {
	text string
	at   int
}

func tokensOf(s string) []token {
	var l []token
	shape := shapeOf(s)
	for at := 0; at < len(s); {
		if strings.IndexByte("\t\n\r ", s[at]) >= 0 {
			at++
			continue
		}
		n := len(tokenForm.FindString(shape[at:]))
		l = append(l, token{s[at : at+n], at})
		at += n
	}
	return l
}

// shapeOf tells s with a letter for each byte beyond ASCII: where tokens end hangs on none of them, good UTF-8 or not.
func shapeOf(s string) string {
	b := []byte(s)
	for i, c := range b {
		if c >= utf8.RuneSelf {
			b[i] = 'x'
		}
	}
	return string(b)
}

// goodText tells what a token says as a text, if it may be one.
func goodText(s string) (string, bool) {
	if !utf8.ValidString(s) || !textForm.MatchString(s) {
		return "", false
	}
	high := false
	for _, p := range pointForm.FindAllString(s, -1) {
		n := uint64(0)
		if len(p) == 6 {
			n, _ = strconv.ParseUint(p[2:], 16, 16)
		}
		low := n>>10 == 0xdc00>>10
		if high != low {
			return "", false
		}
		high = n>>10 == 0xd800>>10
	}
	var out string
	if err := json.Unmarshal([]byte(s), &out); err != nil {
		return "", false
	}
	return out, true
}

// state of the model: what is wanted behind the tokens so far.
const (
	wantItem   = "item"
	wantFirst  = "item or ]"
	wantKey    = "key"
	wantEither = "key or }"
	wantColon  = ":"
	wantMore   = ", or end"
	wantNone   = "nothing"
)

type model struct {
	want  string
	open  []string
	keys  [][]string
	depth int
}

func (m *model) behindItem() {
	m.want = wantMore
	if len(m.open) == 0 {
		m.want = wantNone
	}
}

func (m *model) openOne(mark string) {
	m.open, m.keys = append(m.open, mark), append(m.keys, nil)
	m.want = map[string]string{"[": wantFirst, "{": wantEither}[mark]
}

func (m *model) closeOne(mark string) api.Errno {
	if len(m.open) == 0 || m.open[len(m.open)-1]+mark != "[]" && m.open[len(m.open)-1]+mark != "{}" {
		return api.ErrTerseText
	}
	m.open, m.keys = m.open[:len(m.open)-1], m.keys[:len(m.keys)-1]
	m.behindItem()
	return api.OK
}

func (m *model) item(t string) api.Errno {
	_, isText := goodText(t)
	switch {
	case t == "[" || t == "{":
		if len(m.open) >= m.depth {
			return api.ErrTerseDeep
		}
		m.openOne(t)
		return api.OK
	case t == "]" && m.want == wantFirst:
		return m.closeOne(t)
	case floatForm.MatchString(t):
		if _, err := strconv.ParseInt(t, 10, 64); err != nil || t == "-0" || !wholeForm.MatchString(t) {
			return api.ErrTerseNumber
		}
	case !isText && t != "null" && t != "false" && t != "true":
		return api.ErrTerseText
	}
	m.behindItem()
	return api.OK
}

func (m *model) key(t string) api.Errno {
	if t == "}" && m.want == wantEither {
		return m.closeOne(t)
	}
	key, isText := goodText(t)
	if !isText {
		return api.ErrTerseText
	}
	last := len(m.keys) - 1
	if slices.Contains(m.keys[last], key) {
		return api.ErrTerseKey
	}
	m.keys[last] = append(m.keys[last], key)
	m.want = wantColon
	return api.OK
}

func (m *model) step(t string) api.Errno {
	switch m.want {
	case wantItem, wantFirst:
		return m.item(t)
	case wantKey, wantEither:
		return m.key(t)
	case wantNone:
		return api.ErrTerseLeft
	}
	if m.want == wantColon {
		m.want = wantItem
		if t != ":" {
			return api.ErrTerseText
		}
		return api.OK
	}
	if t == "," {
		m.want = map[string]string{"[": wantItem, "{": wantKey}[m.open[len(m.open)-1]]
		return api.OK
	}
	return m.closeOne(t)
}

// wantedFault says by P2.4's words what Parse has to answer.
func wantedFault(s string, depth int) api.Fault {
	if depth < 0 || depth > 32 {
		return api.Fault{Code: api.ErrTerseDepth}
	}
	m := model{want: wantItem, depth: depth}
	for _, t := range tokensOf(s) {
		if e := m.step(t.text); e != api.OK {
			return api.Fault{Code: e, At: t.at}
		}
	}
	if m.want != wantNone {
		return api.Fault{Code: api.ErrTerseText, At: len(s)}
	}
	return api.Fault{}
}

// wantedValue is what the library reads in a text that Parse takes.
func wantedValue(s string) api.Value {
	d := json.NewDecoder(strings.NewReader(s))
	d.UseNumber()
	return nextValue(d)
}

func nextValue(d *json.Decoder) api.Value {
	t, err := d.Token()
	if err != nil {
		return api.Value{}
	}
	switch x := t.(type) {
	case bool:
		return yes(x)
	case json.Number:
		n, _ := x.Int64()
		return whole(n)
	case string:
		return text(x)
	case json.Delim:
		return nextNest(d, x)
	}
	return null()
}

func nextNest(d *json.Decoder, mark json.Delim) api.Value {
	v := list()
	if mark == '{' {
		v = pairs()
	}
	for d.More() {
		if mark == '{' {
			key, _ := d.Token()
			v.Keys = append(v.Keys, key.(string))
		}
		v.Items = append(v.Items, nextValue(d))
	}
	d.Token()
	return v
}

// printForm: a token in the form that Print tells.
var printForm = regexp.MustCompile(`^(?:[^"]+|"(?:[^"\\\x00-\x1f]|\\["\\nrt]|\\u00(?:0[0-8bcef]|1[0-9a-f]))*")\z`)

// inPrintForm tells whether a text that Parse takes is written in Print's one form.
func inPrintForm(s string) bool {
	at := 0
	for _, t := range tokensOf(s) {
		if t.at != at || !printForm.MatchString(t.text) {
			return false
		}
		at += len(t.text)
	}
	return at == len(s)
}
