package journal

import (
	"puncheon/api"
	"puncheon/redo"
)

// What a mark has ahead of the text of a body's sum, and behind it.
const (
	commit = "commit "
	feed   = "\n"
)

// markBytes is how many bytes each mark has, as the text of a sum has two digits for each of its bytes.
const markBytes = len(commit) + 2*len(api.Digest{}) + len(feed)

// read answers the redos of which data has the body, and its mark behind it, and whether it has those of any.
func read(data string) ([]api.Redo, bool) {
	at := len(data) - markBytes
	if at < 0 || data[at:] != Mark(data[:at]) {
		return nil, false
	}
	l, e := redo.Decode(data[:at])
	return l, e == api.OK
}
