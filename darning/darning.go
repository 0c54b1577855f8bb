// Package darning: what has changed, written down, and sewn into another text: see DOC.md.
package darning

import (
	"darning/api"
	"darning/way"
)

// Diff tells what has changed (P2).
func Diff(old string, fresh string, context int) (api.Patch, api.Errno) {
	if e := checkDiff(old, fresh, context); e != api.OK {
		return api.Patch{}, e
	}
	steps := way.Find(linesOf(old), linesOf(fresh))
	return api.Patch{Hunks: hunksOf(steps, context)}, api.OK
}

// Write writes a patch (P4).
func Write(p api.Patch) (string, api.Errno) { return "", api.OK }

// Read reads a patch (P4).
func Read(text string) (api.Patch, int, api.Errno) { return api.Patch{}, 0, api.OK }

// Reverse turns a patch round (P5).
func Reverse(p api.Patch) (api.Patch, api.Errno) { return api.Patch{}, api.OK }

// Apply sews a patch into a text (P6).
func Apply(text string, p api.Patch, fuzz int) (string, []api.Seam, api.Errno) {
	return "", nil, api.OK
}

// Inline tells by letters what has changed (P3).
func Inline(old string, fresh string) ([]api.Run, api.Errno) {
	if e := checkInline(old, fresh); e != api.OK {
		return nil, e
	}
	return runsOf(way.Find(lettersOf(old), lettersOf(fresh))), api.OK
}
