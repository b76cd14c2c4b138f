package lock

import (
	"iter"
	"strings"

	"puncheon/api"
	"puncheon/sha"
	"puncheon/version"
)

// What stands behind a line, and between two of its words.
const (
	feed  = "\n"
	blank = " "
)

// head is each text's first line.
const head = "lock 1"

// rowWords is how many words a row's line has.
const rowWords = 3

// say answers the text of a lock that is known to be such as may be.
func say(l []api.Lock) string {
	var text strings.Builder
	text.WriteString(line(head))
	for _, row := range l {
		v, _ := version.Text(row.Ref.Version)
		text.WriteString(line(row.Ref.Name, v, sha.Text(row.Digest)))
	}
	return text.String()
}

// line answers the line of these words.
func line(words ...string) string {
	return strings.Join(words, blank) + feed
}

// read answers the lock of which s is the text, and whether it is one's.
func read(s string) ([]api.Lock, bool) {
	var l []api.Lock
	headed, is := false, false
reading:
	for said, ended := range lines(s) {
		switch {
		case !ended:
			is = false
		case !headed:
			headed = true
			is = said == head
		default:
			var row api.Lock
			row, is = readRow(said)
			l = append(l, row)
			// The first rows of a lock are one, too: so that is asked behind each line, and no text is too long.
			is = is && valid(l)
		}
		if !is {
			break reading
		}
	}
	return l, is
}

// lines tells the lines of s, and whether a line feed stands behind each.
func lines(s string) iter.Seq2[string, bool] {
	return func(yield func(string, bool) bool) {
		for rest := s; rest != ""; {
			said, behind, ended := strings.Cut(rest, feed)
			if !yield(said, ended) {
				return
			}
			rest = behind
		}
	}
}

// readRow answers the row that a line says, and whether it says one; whether the row may be is not asked.
func readRow(said string) (api.Lock, bool) {
	words := strings.SplitN(said, blank, rowWords)
	if len(words) != rowWords {
		return api.Lock{}, false
	}
	v, e := version.Read(words[1])
	d, f := sha.Read(words[2])
	return api.Lock{Ref: api.Ref{Name: words[0], Version: v}, Digest: d}, e == api.OK && f == api.OK
}
