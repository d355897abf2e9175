package ledger

import (
	"postern/api"
	"postern/record"
)

// maxText is how many bytes a row's text has at most, whatever it is.
const maxText = 256

// The widths of numbers in a form.
const (
	width1 = 1
	width2 = 2
	width8 = 8
)

// field is a part of a row: how it is laid into a form, and how it is taken from one, in the place of what the row had; that tells whether a row may have it.
type field struct {
	lay  func(w *record.Writer)
	take func(r *record.Reader) bool
}

// fields are some of them one behind the other, as one.
func fields(l ...field) field {
	return field{
		lay: func(w *record.Writer) {
			for _, f := range l {
				f.lay(w)
			}
		},
		take: func(r *record.Reader) bool {
			for _, f := range l {
				if !f.take(r) {
					return false
				}
			}
			return true
		},
	}
}

// lay tells the form of fields. One that is refused leaves no bytes, and these are no row's form and no key.
func lay(l ...field) []byte {
	var w record.Writer
	fields(l...).lay(&w)
	form, _ := w.Done()
	return form
}

// take reads fields from a form, and tells whether it is just theirs.
func take(form []byte, l ...field) bool {
	r := record.From(form)
	return fields(l...).take(r) && r.End() == api.OK
}

func number(n *uint64, width int) field {
	return field{
		lay:  func(w *record.Writer) { w.Num(*n, width) },
		take: func(r *record.Reader) bool { *n = r.Num(width); return true },
	}
}

// small is a number of one byte; one below 0 is as a uint64 too great for that, too.
func small(n *int) field {
	return field{
		lay:  func(w *record.Writer) { w.Num(uint64(*n), width1) },
		take: func(r *record.Reader) bool { *n = int(r.Num(width1)); return true },
	}
}

func integer[N int | int64](n *N) field {
	return field{
		lay:  func(w *record.Writer) { w.Int(int64(*n)) },
		take: func(r *record.Reader) bool { *n = N(r.Int()); return true },
	}
}

func flag(b *bool) field {
	return field{
		lay:  func(w *record.Writer) { w.Flag(*b) },
		take: func(r *record.Reader) bool { *b = r.Flag(); return true },
	}
}

func id(d *api.ID) field {
	return field{
		lay:  func(w *record.Writer) { w.ID(*d) },
		take: func(r *record.Reader) bool { *d = r.ID(); return true },
	}
}

func text(s *string) field {
	return field{
		lay:  func(w *record.Writer) { w.Text(*s) },
		take: func(r *record.Reader) bool { *s = r.Text(); return len(*s) <= maxText },
	}
}

// block is a digest or a secret: Bytes that are always as many.
func block(b *[32]byte) field {
	return field{
		lay: func(w *record.Writer) { w.Bytes(b[:]) },
		take: func(r *record.Reader) bool {
			got := r.Bytes()
			copy(b[:], got)
			return len(got) == len(b)
		},
	}
}

// each is a list: how many there are, in so many bytes, and the fields of each. More than most there may not be.
func each[E any](l *[]E, width, most int, of func(*E) field) field {
	var e E
	one := of(&e)
	return field{
		lay: func(w *record.Writer) {
			w.Num(uint64(len(*l)), width)
			for _, e = range *l {
				one.lay(w)
			}
		},
		take: func(r *record.Reader) bool {
			count := int(r.Num(width))
			// Each of them has a byte at least: a count of more than are left is not worth the room.
			if count > most || count > r.Left() {
				return false
			}
			*l = nil
			for range count {
				if !one.take(r) {
					return false
				}
				*l = append(*l, e)
			}
			return true
		},
	}
}

func scopes(l *[]string) field    { return each(l, width1, api.MaxScopes, text) }
func redirects(l *[]string) field { return each(l, width1, api.MaxRedirects, text) }
