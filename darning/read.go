package darning

import (
	"strconv"
	"strings"

	"darning/api"
)

// reader is what was read of a patch's text so far.
type reader struct {
	hunks []api.Hunk
	seat  seat
	left  rest // of the last hunk
}

// ended tells whether the text may end here.
func (r *reader) ended() bool {
	return len(r.hunks) == 0 || r.left.done()
}

// line reads the next line, and tells whether it may stand there. Where the
// hunk still has lines to come, a header is a line of no kind.
func (r *reader) line(line string) bool {
	if r.left.full() {
		return r.ended() && r.header(line)
	}
	if line == "" || !r.left.take(line[0]) {
		return false
	}
	h := &r.hunks[len(r.hunks)-1]
	h.Lines = append(h.Lines, api.Line{Kind: line[0], Text: strings.Clone(line[1:])})
	return true
}

// header reads a line that must be the header of the next hunk.
func (r *reader) header(line string) bool {
	h, ok := readHeader(line)
	if !ok || !r.seat.take(h) {
		return false
	}
	r.hunks = append(r.hunks, h)
	r.left = restOf(h)
	return true
}

// readHeader tells a hunk's numbers, as far as the line is a header.
func readHeader(line string) (api.Hunk, bool) {
	numbers, begins := strings.CutPrefix(line, headBegin)
	numbers, ends := strings.CutSuffix(numbers, headEnd)
	old, fresh, both := strings.Cut(numbers, headMiddle)
	from, fromCount, isOld := readSpan(old)
	to, toCount, isFresh := readSpan(fresh)
	h := api.Hunk{From: from, FromCount: fromCount, To: to, ToCount: toCount}
	return h, begins && ends && both && isOld && isFresh
}

// readSpan tells the two numbers of a span.
func readSpan(text string) (first, count int, ok bool) {
	a, b, both := strings.Cut(text, headComma)
	first, isFirst := readNumber(a)
	count, isCount := readNumber(b)
	return first, count, both && isFirst && isCount
}

// readNumber tells a number that is written as it must be: Atoi alone would
// take signs and noughts ahead of it.
func readNumber(digits string) (int, bool) {
	n, err := strconv.Atoi(digits)
	return n, err == nil && n >= 0 && strconv.Itoa(n) == digits
}
