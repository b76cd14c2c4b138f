package span

import (
	"strings"

	"puncheon/api"
	"puncheon/version"
)

// What stands in a span's text.
const (
	betweenRows   = "||"
	betweenBounds = ","
	noBounds      = "*"
)

// frame is what stands in a bound's text ahead of its version's, and behind it.
type frame struct {
	ahead, behind string
}

// frames are those of the kinds of bounds, each at the place of its number.
var frames = [...]frame{
	api.BdIs:    {"=", ""},
	api.BdNot:   {"!=", ""},
	api.BdFrom:  {">=", ""},
	api.BdOver:  {">", ""},
	api.BdUpto:  {"<=", ""},
	api.BdBelow: {"<", ""},
	api.BdLike:  {"", ".*"},
}

// say answers the text of a span that is known to be such as may be.
func say(s api.Span) string {
	var rows []string
	for _, row := range s.Rows {
		rows = append(rows, sayRow(row))
	}
	return strings.Join(rows, betweenRows)
}

// sayRow answers a row's text.
func sayRow(row []api.Bound) string {
	if len(row) == 0 {
		return noBounds
	}
	var bounds []string
	for _, b := range row {
		text, _ := version.Text(b.Version)
		bounds = append(bounds, frames[b.Kind].ahead+text+frames[b.Kind].behind)
	}
	return strings.Join(bounds, betweenBounds)
}

// readRows reads the rows of a span that may be. It ends at the first that is one too many, however long the text is.
func readRows(text string) ([][]api.Bound, bool) {
	var rows [][]api.Bound
	for piece := range strings.SplitSeq(text, betweenRows) {
		row, is := readRow(piece)
		if !is || len(rows) == api.MaxChoices {
			return nil, false
		}
		rows = append(rows, row)
	}
	return rows, true
}

// readRow reads the bounds of a row.
func readRow(text string) ([]api.Bound, bool) {
	if text == noBounds {
		return nil, true
	}
	var row []api.Bound
	for piece := range strings.SplitSeq(text, betweenBounds) {
		b, is := readBound(piece)
		if !is || len(row) == api.MaxBounds {
			return nil, false
		}
		row = append(row, b)
	}
	return row, true
}

// readBound reads a bound. Each kind is tried: a sign may begin with another one, but a version's text with none, so no more than one kind can do.
func readBound(text string) (api.Bound, bool) {
	for kind := api.BdIs; kind <= api.BdLike; kind++ {
		v, is := readWithin(text, frames[kind])
		b := api.Bound{Kind: kind, Version: v}
		if is && validBound(b) {
			return b, true
		}
	}
	return api.Bound{}, false
}

// readWithin reads the version whose text stands in that frame.
func readWithin(text string, f frame) (api.Version, bool) {
	rest, isAhead := strings.CutPrefix(text, f.ahead)
	rest, isBehind := strings.CutSuffix(rest, f.behind)
	if !isAhead || !isBehind {
		return api.Version{}, false
	}
	v, e := version.Read(rest)
	return v, e == api.OK
}
