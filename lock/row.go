package lock

import (
	"slices"
	"strings"

	"puncheon/api"
	"puncheon/pack"
)

// together answers the lock of these rows; or by which error there is none.
func together(rows ...api.Lock) ([]api.Lock, api.Errno) {
	switch {
	case slices.ContainsFunc(rows, wrong):
		return nil, api.ErrLock
	case len(named(rows...)) < len(rows):
		return nil, api.ErrThere
	case len(rows) > api.MaxLocks:
		return nil, api.ErrFull
	}
	l := slices.Clone(rows)
	slices.SortFunc(l, func(a, b api.Lock) int {
		return strings.Compare(a.Ref.Name, b.Ref.Name)
	})
	return l, api.OK
}

// wrong tells whether a row may not be.
func wrong(row api.Lock) bool {
	return pack.CheckRef(row.Ref) != api.OK
}

// valid tells whether l may be: whether it is the lock of its own rows.
func valid(l []api.Lock) bool {
	of, e := together(l...)
	return e == api.OK && slices.Equal(of, l)
}

// known answers l; if it may not be, no row.
func known(l []api.Lock) []api.Lock {
	if !valid(l) {
		return nil
	}
	return l
}

// named answers rows by their names, of each name the last one.
func named(rows ...api.Lock) map[string]api.Lock {
	by := make(map[string]api.Lock, len(rows))
	for _, row := range rows {
		by[row.Ref.Name] = row
	}
	return by
}

// apart answers the names, rising and each once, of which locks that may be have not the same row; what is in no map is no row that may be.
func apart(a, b []api.Lock) []string {
	ofA, ofB := named(a...), named(b...)
	var names []string
	for _, row := range slices.Concat(a, b) {
		if name := row.Ref.Name; ofA[name] != ofB[name] {
			names = append(names, name)
		}
	}
	slices.Sort(names)
	return slices.Compact(names)
}
