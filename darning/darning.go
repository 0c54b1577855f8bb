// Package darning: what has changed, written down, and sewn into another text: see DOC.md.
package darning

import (
	"strings"

	"darning/api"
	"darning/way"
)

// Diff tells what has changed (P2).
func Diff(old string, fresh string, context int) (api.Patch, api.Errno) {
	if e := checkDiff(old, fresh, context); e != api.OK {
		return api.Patch{}, e
	}
	steps := way.Find(linesOf(old), linesOf(fresh))
	return api.Patch{Hunks: hunksOf(steps, context)}, api.OK
}

// Write writes a patch (P4).
func Write(p api.Patch) (string, api.Errno) {
	if !isRight(p) {
		return "", api.ErrPatch
	}
	text, fits := written(p)
	if !fits {
		return "", api.ErrLarge
	}
	return text, api.OK
}

// Read reads a patch (P4); of one that is wrong it tells the line.
func Read(text string) (api.Patch, int, api.Errno) {
	if len(text) > api.MaxPatch {
		return api.Patch{}, 0, api.ErrLarge
	}
	var r reader
	at := 0
	for ; text != ""; at++ {
		line, behind, whole := strings.Cut(text, "\n")
		if !whole || !r.line(line) {
			return api.Patch{}, at, api.ErrPatch
		}
		text = behind
	}
	if !r.ended() {
		return api.Patch{}, at, api.ErrPatch
	}
	return api.Patch{Hunks: r.hunks}, 0, api.OK
}

// Reverse turns a patch round (P5).
func Reverse(p api.Patch) (api.Patch, api.Errno) {
	if !isRight(p) {
		return api.Patch{}, api.ErrPatch
	}
	var hunks []api.Hunk
	for _, h := range p.Hunks {
		hunks = append(hunks, reversed(h))
	}
	return api.Patch{Hunks: hunks}, api.OK
}

// Apply sews a patch into a text (P6).
func Apply(text string, p api.Patch, fuzz int) (string, []api.Seam, api.Errno) {
	if e := checkApply(text, p, fuzz); e != api.OK {
		return "", nil, e
	}
	s := sewing{lines: linesOf(text)}
	var seams []api.Seam
	for _, h := range p.Hunks {
		seams = append(seams, s.sew(h, fuzz))
	}
	return s.text(), seams, api.OK
}

// Inline tells by letters what has changed (P3).
func Inline(old string, fresh string) ([]api.Run, api.Errno) {
	if e := checkInline(old, fresh); e != api.OK {
		return nil, e
	}
	return runsOf(way.Find(lettersOf(old), lettersOf(fresh))), api.OK
}
