package span

import (
	"slices"

	"puncheon/api"
	"puncheon/version"
)

// bound is an api.Bound whose methods tell, kind by kind, whether a version that may be meets it.
type bound api.Bound

func (b bound) is(v api.Version) bool    { return v == b.Version }
func (b bound) not(v api.Version) bool   { return v != b.Version }
func (b bound) from(v api.Version) bool  { return version.Compare(v, b.Version) >= 0 }
func (b bound) over(v api.Version) bool  { return version.Compare(v, b.Version) > 0 }
func (b bound) upto(v api.Version) bool  { return version.Compare(v, b.Version) <= 0 }
func (b bound) below(v api.Version) bool { return version.Compare(v, b.Version) < 0 }
func (b bound) like(v api.Version) bool  { return version.Begins(v, b.Version) }

// meets tells whether v meets b, both known to be such as may be.
func meets(v api.Version, b api.Bound) bool {
	kinds := [...]func(bound, api.Version) bool{
		api.BdIs:    bound.is,
		api.BdNot:   bound.not,
		api.BdFrom:  bound.from,
		api.BdOver:  bound.over,
		api.BdUpto:  bound.upto,
		api.BdBelow: bound.below,
		api.BdLike:  bound.like,
	}
	return kinds[b.Kind](bound(b), v)
}

// has is Has of a span, and a version, that are known to be such as may be.
func has(s api.Span, v api.Version) bool {
	return slices.ContainsFunc(s.Rows, func(row []api.Bound) bool { return meetsAll(v, row) })
}

// meetsAll tells whether v meets all bounds of a row.
func meetsAll(v api.Version, row []api.Bound) bool {
	for _, b := range row {
		if !meets(v, b) {
			return false
		}
	}
	return true
}

// valid tells whether s may be.
func valid(s api.Span) bool {
	if len(s.Rows) == 0 || !fits(s.Rows) {
		return false
	}
	for _, row := range s.Rows {
		for _, b := range row {
			if !validBound(b) {
				return false
			}
		}
	}
	return true
}

// validBound tells whether b may stand in a span.
func validBound(b api.Bound) bool {
	if b.Kind < api.BdIs || b.Kind > api.BdLike || version.Check(b.Version) != api.OK {
		return false
	}
	return b.Kind != api.BdLike || b.Version.Tag == ""
}

// fits tells whether there are no more rows, and no more bounds in one, than a span has at most.
func fits(rows [][]api.Bound) bool {
	if len(rows) > api.MaxChoices {
		return false
	}
	for _, row := range rows {
		if len(row) > api.MaxBounds {
			return false
		}
	}
	return true
}

// limited answers the span of these rows, if they fit.
func limited(rows [][]api.Bound) (api.Span, api.Errno) {
	if !fits(rows) {
		return api.Span{}, api.ErrLong
	}
	return api.Span{Rows: rows}, api.OK
}

// together answers the one list, and the other one behind it. The room behind the first one's end is not ours, so it is cut off; and with nothing behind it that list itself would be left, so it is a copy.
func together[T any](ahead, behind []T) []T {
	return slices.Clone(append(ahead[:len(ahead):len(ahead)], behind...))
}
