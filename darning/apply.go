package darning

import (
	"iter"
	"slices"
	"strings"

	"darning/api"
)

// checkApply tells the first error that applies to what Apply is given.
func checkApply(text string, p api.Patch, fuzz int) api.Errno {
	switch {
	case !isText(text):
		return api.ErrText
	case tooLarge(text):
		return api.ErrLarge
	case !isRight(p):
		return api.ErrPatch
	case fuzz < 0 || fuzz > api.MaxFuzz:
		return api.ErrNumber
	}
	return api.OK
}

// sewing is a text into which hunks are being sewn.
type sewing struct {
	lines []string        // of the text as it was handed in
	fresh strings.Builder // what has become of those ahead of end
	end   int             // where the last hunk that was sewn in ends
	moved int             // how far that hunk was moved
}

// sew puts a hunk in at the first place at which it can stand. More is left out
// only where no place will do with less; f stops where there is no more to leave
// out, as all beyond would be the same again.
func (s *sewing) sew(h api.Hunk, fuzz int) api.Seam {
	own := placeOf(h.From, h.FromCount)
	whole := pieceOf(h.Lines)
	first, last := keepsAtEnds(h.Lines)
	for f := range min(fuzz, max(first, last)) + 1 {
		ahead := min(f, first)
		p := whole.without(ahead, min(f, last))
		for place := range around(own+s.moved, len(s.lines)) {
			if s.canStand(p, place+ahead) {
				s.put(p, place+ahead)
				s.moved = place - own
				return api.Seam{Done: true, At: s.moved, Fuzz: f}
			}
		}
	}
	return api.Seam{}
}

// canStand tells whether a piece fits on the text's lines from a place on.
func (s *sewing) canStand(p piece, at int) bool {
	if at < s.end || at+len(p.old) > len(s.lines) {
		return false
	}
	return slices.Equal(s.lines[at:at+len(p.old)], p.old)
}

// put a piece in at a place at which it can stand.
func (s *sewing) put(p piece, at int) {
	s.write(s.lines[s.end:at])
	s.write(p.fresh)
	s.end = at + len(p.old)
}

// write lines behind what was written.
func (s *sewing) write(lines []string) {
	for _, l := range lines {
		s.fresh.WriteString(l)
		s.fresh.WriteByte('\n')
	}
}

// text that has come out, with all behind the last hunk as it was.
func (s *sewing) text() string {
	s.write(s.lines[s.end:])
	return s.fresh.String()
}

// piece of a hunk: its lines of both texts.
type piece struct {
	old, fresh []string
}

// pieceOf all lines of a hunk.
func pieceOf(lines []api.Line) piece {
	var p piece
	for _, l := range lines {
		if l.Kind != api.Add {
			p.old = append(p.old, l.Text)
		}
		if l.Kind != api.Drop {
			p.fresh = append(p.fresh, l.Text)
		}
	}
	return p
}

// without so many keeps at either end. A keep is a line of both texts, so both
// lose it.
func (p piece) without(first, last int) piece {
	return piece{
		old:   p.old[first : len(p.old)-last],
		fresh: p.fresh[first : len(p.fresh)-last],
	}
}

// keepsAtEnds tells how many keeps stand at the beginning of a hunk's lines, and
// how many at their end.
func keepsAtEnds(lines []api.Line) (first, last int) {
	changed := false
	for _, l := range lines {
		switch {
		case l.Kind != api.Keep:
			changed = true
			last = 0
		case changed:
			last++
		default:
			first++
		}
	}
	return first, last
}

// around a place: itself, then at each distance the place behind it and the one
// ahead of it.
func around(place, farthest int) iter.Seq[int] {
	return func(yield func(int) bool) {
		if !yield(place) {
			return
		}
		for d := 1; d <= farthest; d++ {
			if !yield(place+d) || !yield(place-d) {
				return
			}
		}
	}
}
