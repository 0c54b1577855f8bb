package darning

import (
	"strings"

	"darning/api"
)

// maxNumber is the greatest number that a hunk may have.
const maxNumber = 100000

// isRight tells whether a patch is a right one. Each hunk's numbers are looked
// at ahead of its lines: they bound how many lines there are to look at.
func isRight(p api.Patch) bool {
	var s seat
	for _, h := range p.Hunks {
		if !s.take(h) || !linesMatch(h) {
			return false
		}
	}
	return true
}

// linesMatch tells whether a hunk's lines are what its counts say.
func linesMatch(h api.Hunk) bool {
	left := restOf(h)
	for _, l := range h.Lines {
		if !left.take(l.Kind) || strings.Contains(l.Text, "\n") {
			return false
		}
	}
	return left.done()
}

// seat is where the next hunk may stand.
type seat struct {
	end   int // of the hunk ahead, in the old text
	grown int // by how many lines all hunks ahead make the text longer
}

// take tells whether a hunk's numbers and places are as they must be, and goes
// on behind it.
func (s *seat) take(h api.Hunk) bool {
	if !mayStand(h.From, h.FromCount) || !mayStand(h.To, h.ToCount) {
		return false
	}
	place := placeOf(h.From, h.FromCount)
	if place < s.end || placeOf(h.To, h.ToCount) != place+s.grown {
		return false
	}
	s.end = place + h.FromCount
	s.grown += h.ToCount - h.FromCount
	return true
}

// mayStand tells whether a first line and a count are numbers of a right patch.
func mayStand(first, count int) bool {
	if count < 0 || count > maxNumber || first > maxNumber {
		return false
	}
	return first >= min(count, 1)
}

// placeOf a hunk: how many lines stand ahead of it.
func placeOf(first, count int) int {
	if count == 0 {
		return first
	}
	return first - 1
}

// rest is what a hunk still has to come.
type rest struct {
	from, to int
	changes  bool // a line that is not kept has come
}

// restOf a hunk of which no line has come yet.
func restOf(h api.Hunk) rest {
	return rest{from: h.FromCount, to: h.ToCount}
}

// take tells whether a line of that kind was still to come, and counts it.
func (r *rest) take(kind byte) bool {
	switch kind {
	case api.Keep:
		r.from--
		r.to--
	case api.Drop:
		r.from--
	case api.Add:
		r.to--
	default:
		return false
	}
	r.changes = r.changes || kind != api.Keep
	return r.from >= 0 && r.to >= 0
}

// full tells whether no line is to come.
func (r rest) full() bool { return r.from == 0 && r.to == 0 }

// done tells whether the hunk may end here.
func (r rest) done() bool { return r.full() && r.changes }
