package shift

import "postern/api"

// course is how far a migration has come.
type course api.Shift

// takes tells whether a grant is one of those that have still to go.
func (c course) takes(g api.Grant) bool {
	return g.Live && g.Engine == c.From && g.N > c.Cursor
}

// turned tells what becomes of a grant that goes.
func (c course) turned(g api.Grant) api.Grant {
	g.Engine = c.To
	return g
}

func (c course) begun(to int) course {
	c.On, c.To, c.Cursor = true, to, 0
	return c
}

// behind tells the course once the grants up to a number have gone.
func (c course) behind(last uint64) course {
	c.Cursor = last
	return c
}

func (c course) ended() course {
	return course{From: c.To, To: api.EngineNone, Epoch: c.Epoch + 1}
}
