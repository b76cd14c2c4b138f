package redo

import (
	"math"

	"puncheon/api"
	"puncheon/tape"
)

// say answers the parts of r, which may be.
func say(r api.Redo) []api.Part {
	l := []api.Part{tape.Number(uint64(r.Kind)), tape.Text(r.Item.Path)}
	switch r.Kind {
	case api.RePut:
		l = append(l, tape.Number(uint64(r.Item.Kind)), tape.Text(r.Item.Data))
	case api.ReMove:
		l = append(l, tape.Text(r.To))
	}
	return l
}

// read answers the redos of which s is the row, and whether it is one.
func read(s string) ([]api.Redo, bool) {
	is := true
	take := func(isText bool) api.Part {
		p, rest, e := tape.Take(s)
		is = is && e == api.OK && p.IsText == isText
		s = rest
		return p
	}
	text := func() string { return take(true).Text }
	// However great a number is, it becomes no Kind if it is none.
	kind := func() int { return int(min(take(false).Number, math.MaxInt32)) }
	var l []api.Redo
	for is && s != "" {
		r := api.Redo{Kind: kind(), Item: api.Item{Path: text()}}
		switch r.Kind {
		case api.RePut:
			r.Item.Kind, r.Item.Data = kind(), text()
		case api.ReMove:
			r.To = text()
		}
		is = is && valid(r) && len(l) < api.MaxRedos
		l = append(l, r)
	}
	if !is {
		return nil, false
	}
	return l, true
}
