package version

import (
	"strconv"
	"strings"

	"puncheon/api"
)

// What stands between the parts of a version's text.
const (
	betweenNumbers = "."
	aheadOfTag     = "-"
)

// say answers the text of a version that is known to be such as may be.
func say(v api.Version) string {
	var text strings.Builder
	for n, x := range v.Numbers[:v.Many] {
		if n > 0 {
			text.WriteString(betweenNumbers)
		}
		text.WriteString(strconv.Itoa(x))
	}
	if v.Tag != "" {
		text.WriteString(aheadOfTag)
		text.WriteString(v.Tag)
	}
	if v.Step != 0 {
		text.WriteString(strconv.Itoa(v.Step))
	}
	return text.String()
}

// read answers the version of which s is the text; what it answers with false is nothing.
func read(s string) (api.Version, bool) {
	ahead, behind, tagged := strings.Cut(s, aheadOfTag)
	numbers, many, is := readNumbers(ahead)
	v := api.Version{Numbers: numbers, Many: many}
	if is && tagged {
		v.Tag, v.Step, is = readTag(behind)
	}
	return v, is
}

// readNumbers reads numbers with a dot between each two, and tells how many they are.
func readNumbers(s string) ([api.MaxNumbers]int, int, bool) {
	var numbers [api.MaxNumbers]int
	many := 0
	for digits := range strings.SplitSeq(s, betweenNumbers) {
		x, is := number(digits, api.MaxNumber)
		if !is || many == len(numbers) {
			return numbers, many, false
		}
		numbers[many] = x
		many++
	}
	return numbers, many, true
}

// readTag reads a Tag, and the Step behind it, if there is one.
func readTag(s string) (string, int, bool) {
	tag, digits := cutLetters(s)
	if !validTag(tag) {
		return "", 0, false
	}
	if digits == "" {
		return tag, 0, true
	}
	step, is := number(digits, api.MaxStep)
	// A Step of 0 is none, and has no digits.
	return tag, step, is && step != 0
}

// number reads digits that say a number of at most this, without a nought ahead.
func number(digits string, most int) (int, bool) {
	n := 0
	for at, r := range digits {
		nought := at > 0 && n == 0
		if nought || r < '0' || '9' < r {
			return 0, false
		}
		n = 10*n + int(r-'0')
		if n > most {
			return 0, false
		}
	}
	return n, digits != ""
}

// cutLetters answers the small letters with which s begins, and the rest.
func cutLetters(s string) (letters, rest string) {
	for at, r := range s {
		if r < 'a' || 'z' < r {
			return s[:at], s[at:]
		}
	}
	return s, ""
}
