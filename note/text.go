package note

import (
	"iter"
	"strings"

	"puncheon/api"
	"puncheon/sha"
	"puncheon/span"
	"puncheon/version"
)

// What stands behind a line, and between two of its words.
const (
	feed  = "\n"
	blank = " "
)

// The words with which lines begin.
const (
	kegWord  = "keg"
	fromWord = "from"
	needWord = "needs"
	dirWord  = "dir"
	fileWord = "file"
)

// maxWords is how many words a line has at most.
const maxWords = 3

// The numbers of the lines that each text has.
const (
	kegLine  = 1
	fromLine = 2
)

// writer puts lines together, one behind the other.
type writer struct {
	text strings.Builder
}

// say answers the text of a receipt that is known to be such as may be.
func say(r api.Receipt) string {
	var w writer
	v, _ := version.Text(r.Ref.Version)
	w.line(kegWord, r.Ref.Name, v)
	w.line(fromWord, sha.Text(r.Digest))
	for _, n := range r.Needs {
		s, _ := span.Text(n.Span)
		w.line(needWord, n.Name, s)
	}
	for _, m := range r.Marks {
		w.mark(m)
	}
	return w.text.String()
}

func (w *writer) line(words ...string) {
	w.text.WriteString(strings.Join(words, blank))
	w.text.WriteString(feed)
}

func (w *writer) mark(m api.Mark) {
	if m.Dir {
		w.line(dirWord, m.Path)
		return
	}
	w.line(fileWord, sha.Text(m.Sum), m.Path)
}

// reader is the receipt that the lines so far say, and how many they are.
type reader struct {
	receipt api.Receipt
	line    int
}

// read answers the receipt of which s is the text, and 0; or the number of the first line by which it is none's.
func read(s string) (api.Receipt, int) {
	var r reader
	wrong := 0
	kinds := r.kinds()
reading:
	for words, ended := range lines(s) {
		r.line++
		take, is := kinds[words[0]]
		// With whatever lines a receipt's text begins, what they say may be by itself: so that is asked behind each line.
		if !ended || !is || !take(words[1:]) || !valid(r.receipt) {
			wrong = r.line
			break reading
		}
	}
	if wrong == 0 && r.line < fromLine {
		wrong = r.line + 1
	}
	return r.receipt, wrong
}

// lines tells the lines of s, each cut into its words, and whether a line feed stands behind it. Of a line of too many words the last one that is told is all the rest, however many these are.
func lines(s string) iter.Seq2[[]string, bool] {
	return func(yield func([]string, bool) bool) {
		for rest := s; rest != ""; {
			line, behind, ended := strings.Cut(rest, feed)
			if !yield(strings.SplitN(line, blank, maxWords+1), ended) {
				return
			}
			rest = behind
		}
	}
}

// kinds answers what each kind of line does: it is handed the words behind the first one, and tells whether it says something, and stands where its kind may; whether the receipt may be is not asked.
func (r *reader) kinds() map[string]func(words []string) bool {
	return map[string]func([]string) bool{
		kegWord:  r.keg,
		fromWord: r.from,
		needWord: r.need,
		dirWord:  r.dir,
		fileWord: r.file,
	}
}

func (r *reader) keg(words []string) bool {
	if r.line != kegLine || len(words) != 2 {
		return false
	}
	v, e := version.Read(words[1])
	r.receipt.Ref = api.Ref{Name: words[0], Version: v}
	return e == api.OK
}

func (r *reader) from(words []string) bool {
	if r.line != fromLine || len(words) != 1 {
		return false
	}
	d, e := sha.Read(words[0])
	r.receipt.Digest = d
	return e == api.OK
}

func (r *reader) need(words []string) bool {
	if r.line <= fromLine || len(words) != 2 || len(r.receipt.Marks) > 0 {
		return false
	}
	s, e := span.Read(words[1])
	r.receipt.Needs = append(r.receipt.Needs, api.Need{Name: words[0], Span: s})
	return e == api.OK
}

func (r *reader) dir(words []string) bool {
	if r.line <= fromLine || len(words) != 1 {
		return false
	}
	r.mark(api.Mark{Path: words[0], Dir: true})
	return true
}

func (r *reader) file(words []string) bool {
	if r.line <= fromLine || len(words) != 2 {
		return false
	}
	d, e := sha.Read(words[0])
	r.mark(api.Mark{Path: words[1], Sum: d})
	return e == api.OK
}

func (r *reader) mark(m api.Mark) {
	r.receipt.Marks = append(r.receipt.Marks, m)
}
