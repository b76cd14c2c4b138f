package pack

import (
	"puncheon/api"
	"puncheon/sha"
	"puncheon/span"
	"puncheon/tape"
	"puncheon/version"
)

// sumBytes is how many bytes the text of a sum has, which stands ahead of the row.
const sumBytes = 64

// What a leaf's part says of whether it is a directory.
const (
	isFile = iota
	isDir
)

// sumOf answers the text of the sum of a row.
func sumOf(row string) string {
	return sha.Text(sha.Sum([]byte(row)))
}

// writer puts parts together, one behind the other.
type writer struct {
	parts []api.Part
}

// rowOf answers the row of a pack that is known to be such as may be.
func rowOf(p api.Pack) string {
	var w writer
	w.ref(p.Ref)
	putAll(&w, p.Needs, w.need)
	putAll(&w, p.Leaves, w.leaf)
	row, _ := tape.Put(w.parts...)
	return row
}

// putAll puts how many there are in l, and each.
func putAll[T any](w *writer, l []T, put func(T)) {
	w.put(tape.Number(uint64(len(l))))
	for _, one := range l {
		put(one)
	}
}

func (w *writer) put(l ...api.Part) {
	w.parts = append(w.parts, l...)
}

func (w *writer) ref(r api.Ref) {
	text, _ := version.Text(r.Version)
	w.put(tape.Text(r.Name), tape.Text(text))
}

func (w *writer) need(n api.Need) {
	text, _ := span.Text(n.Span)
	w.put(tape.Text(n.Name), tape.Text(text))
}

func (w *writer) leaf(leaf api.Leaf) {
	sort := uint64(isFile)
	if leaf.Dir {
		sort = isDir
	}
	w.put(tape.Text(leaf.Path), tape.Number(sort), tape.Text(leaf.Data))
}

// reader takes a row apart, part by part; it leaves by a panic if what is to be taken does not stand there.
type reader struct {
	rest string
}

// readRow answers the pack whose row that is.
func readRow(row string) (p api.Pack, e api.Errno) {
	defer func() {
		if recover() != nil {
			p, e = api.Pack{}, api.ErrPack
		}
	}()
	r := reader{row}
	p.Ref = r.ref()
	p.Needs = takeAll(&r, api.MaxNeeds, r.need)
	p.Leaves = takeAll(&r, api.MaxLeaves, r.leaf)
	demand(r.rest == "" && valid(p))
	return p, api.OK
}

// takeAll takes how many there are, no more than most, and each.
func takeAll[T any](r *reader, most uint64, take func() T) []T {
	var l []T
	for range r.number(most) {
		l = append(l, take())
	}
	return l
}

// demand leaves the reading if it is not so.
func demand(is bool) {
	if !is {
		panic(api.ErrPack)
	}
}

func (r *reader) part() api.Part {
	p, rest, e := tape.Take(r.rest)
	demand(e == api.OK)
	r.rest = rest
	return p
}

func (r *reader) text() string {
	p := r.part()
	demand(p.IsText)
	return p.Text
}

// number takes a number of at most this: a greater one would be gone through for long, or not be an int.
func (r *reader) number(most uint64) int {
	p := r.part()
	demand(!p.IsText && p.Number <= most)
	return int(p.Number)
}

func (r *reader) ref() api.Ref {
	name := r.text()
	v, e := version.Read(r.text())
	demand(e == api.OK)
	return api.Ref{Name: name, Version: v}
}

func (r *reader) need() api.Need {
	name := r.text()
	s, e := span.Read(r.text())
	demand(e == api.OK)
	return api.Need{Name: name, Span: s}
}

func (r *reader) leaf() api.Leaf {
	p := r.text()
	sort := r.number(isDir)
	data := r.text()
	return api.Leaf{Path: p, Dir: sort == isDir, Data: data}
}
