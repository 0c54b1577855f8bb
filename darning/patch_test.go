package darning

import (
	"fmt"
	"strings"
	"testing"

	"darning/api"
)

// untell a patch as tell tells it, whatever its numbers: it may be a wrong one.
func untell(bars string) api.Patch {
	var p api.Patch
	for _, line := range linesOf(textOf(bars)) {
		var h api.Hunk
		if n, _ := fmt.Sscanf(line, "@@ -%d,%d +%d,%d @@", &h.From, &h.FromCount, &h.To, &h.ToCount); n == 4 {
			p.Hunks = append(p.Hunks, h)
			continue
		}
		last := &p.Hunks[len(p.Hunks)-1]
		last.Lines = append(last.Lines, api.Line{Kind: line[0], Text: line[1:]})
	}
	return p
}

// addsPatch: one hunk of so many empty lines that are added.
func addsPatch(lines int) api.Patch {
	h := api.Hunk{To: 1, ToCount: lines, Lines: make([]api.Line, lines)}
	for i := range h.Lines {
		h.Lines[i].Kind = api.Add
	}
	return api.Patch{Hunks: []api.Hunk{h}}
}

type namedPatch struct {
	name string
	p    api.Patch
}

// wrongPatches: each is wrong by one thing alone.
func wrongPatches() []namedPatch {
	var wrong []namedPatch
	for _, c := range []struct{ name, told string }{
		{"no line", "@@ -0,0 +0,0 @@|"},
		{"keeps alone", "@@ -1,1 +1,1 @@| a|"},
		{"keeps alone behind a right hunk", "@@ -1,1 +0,0 @@|-a|@@ -2,1 +1,1 @@| a|"},
		{"keeps alone ahead of a right hunk", "@@ -1,1 +1,1 @@| a|@@ -2,1 +1,0 @@|-a|"},
		{"no such kind, counted for nothing", "@@ -1,1 +1,1 @@|-a|+b|xc|"},
		{"no such kind, counted for both", "@@ -1,2 +1,2 @@|-a|+b|xc|"},
		{"no such kind alone", "@@ -1,1 +1,1 @@|xc|"},
		{"the kind 0", "@@ -1,2 +1,2 @@|-a|+b|\x00|"},
		{"FromCount too great", "@@ -1,2 +1,1 @@|-a|+b|"},
		{"FromCount too small", "@@ -1,1 +1,1 @@|-a|-a|+b|"},
		{"FromCount 0, but a drop", "@@ -0,0 +0,0 @@|-a|"},
		{"ToCount too great", "@@ -1,1 +1,2 @@|-a|+b|"},
		{"ToCount too small", "@@ -1,1 +1,1 @@|-a|+b|+b|"},
		{"ToCount 0, but an add", "@@ -0,0 +0,0 @@|+a|"},
		{"both counts too small by a keep", "@@ -1,1 +1,1 @@|-a|+b| c|"},
		{"the counts change places", "@@ -1,1 +1,2 @@|-a|-b|+c|"},
		{"a count below 0", "@@ -0,-1 +0,0 @@|-a|"},
		{"From 0, but a count", "@@ -0,1 +0,1 @@|-a|+b|"},
		{"From 0, but a count, at a place of its own", "@@ -0,1 +0,0 @@|-a|"},
		{"To 0, but a count", "@@ -0,0 +0,1 @@|+a|"},
		{"From below 0", "@@ --1,0 +0,1 @@|+a|"},
		{"From and To below 0", "@@ --1,0 +-1,1 @@|+a|"},
		{"To below 0", "@@ -1,1 +-1,0 @@|-a|"},
		{"From and To too great", "@@ -100001,1 +100001,1 @@|-a|+b|"},
		{"From too great", "@@ -100001,1 +100000,0 @@|-a|"},
		{"To too great", "@@ -100000,0 +100001,1 @@|+a|"},
		{"as great as can be", "@@ -9223372036854775807,1 +9223372036854775807,1 @@|-a|+b|"},
		{"as small as can be", "@@ --9223372036854775808,1 +-9223372036854775808,1 @@|-a|+b|"},
		{"counts as great as can be", "@@ -1,9223372036854775807 +1,9223372036854775807 @@|-a|+b|"},
		{"counts as small as can be", "@@ -1,-9223372036854775808 +1,-9223372036854775808 @@|-a|+b|"},
		{"the first hunk's new place is too far on", "@@ -1,1 +2,1 @@|-a|+b|"},
		{"the first hunk's new place is not far enough", "@@ -2,1 +1,1 @@|-a|+b|"},
		{"To as if there were a count", "@@ -1,1 +1,0 @@|-a|"},
		{"From as if there were a count", "@@ -1,0 +1,1 @@|+a|"},
		{"within the hunk ahead", "@@ -1,2 +1,1 @@| a|-b|@@ -2,1 +1,0 @@|-c|"},
		{"within the hunk ahead, without a line", "@@ -1,2 +1,2 @@| a|-b|+c|@@ -1,0 +2,1 @@|+d|"},
		{"ahead of the hunk ahead", "@@ -5,1 +4,0 @@|-a|@@ -2,1 +0,0 @@|-b|"},
		{"the new place without what stands ahead", "@@ -1,1 +0,0 @@|-a|@@ -3,1 +3,1 @@|-c|+d|"},
		{"the new place by the last hunk alone", "@@ -1,1 +0,0 @@|-a|@@ -3,1 +1,0 @@|-c|@@ -5,1 +3,0 @@|-e|"},
		{"To too great by what stands ahead", "@@ -0,0 +1,1 @@|+a|@@ -100000,1 +100001,1 @@|-a|+b|"},
	} {
		wrong = append(wrong, namedPatch{c.name, untell(c.told)})
	}
	newline := untell("@@ -1,2 +1,2 @@| k|-a|+b|")
	for i, l := range newline.Hunks[0].Lines {
		p := untell(tell(newline))
		p.Hunks[0].Lines[i].Text = l.Text + "\n"
		wrong = append(wrong, namedPatch{"a newline in line " + fmt.Sprint(i), p})
	}
	wrong = append(wrong, namedPatch{"a newline alone", api.Patch{Hunks: []api.Hunk{{To: 1, ToCount: 1,
		Lines: []api.Line{{Kind: api.Add, Text: "\n"}}}}}})
	return append(wrong, namedPatch{"more lines than there are numbers", addsPatch(100001)})
}

// rightPatches at the edges of what is right, as tell tells them.
var rightPatches = []struct{ name, told string }{
	{"nothing", ""},
	{"example, context 1", "@@ -1,3 +1,3 @@| a|-b|+x| c|"},
	{"example, context 0", "@@ -2,1 +2,1 @@|-b|+x|"},
	{"example, from nothing", "@@ -0,0 +1,1 @@|+x|"},
	{"to nothing", "@@ -1,1 +0,0 @@|-x|"},
	{"empty lines", "@@ -1,2 +1,2 @@| |-|+|"},
	{"adds ahead of drops", "@@ -2,2 +2,2 @@|+b|-a|+d|-c|"},
	{"lines like headers", "@@ -1,2 +1,2 @@| @@ -1,1 +1,1 @@|-@@ -1,1 +0,0 @@|+@@|"},
	{"lines like lines", "@@ -1,2 +1,2 @@|  a|--a|++a|"},
	{"lines are bytes", "@@ -1,1 +1,1 @@|-\xff\r|+\x00é\u2028|"},
	{"the greatest numbers", "@@ -100000,1 +100000,1 @@|-a|+b|"},
	{"the greatest numbers, nothing dropped", "@@ -99999,0 +100000,1 @@|+b|"},
	{"the greatest numbers, nothing added", "@@ -100000,1 +99999,0 @@|-a|"},
	{"behind the greatest line", "@@ -100000,2 +100000,1 @@|-a| k|"},
	{"a hunk right behind the one ahead", "@@ -1,1 +0,0 @@|-a|@@ -2,1 +0,0 @@|-b|"},
	{"a hunk without old lines right behind", "@@ -1,1 +0,0 @@|-a|@@ -1,0 +1,1 @@|+b|"},
	{"two hunks at one place", "@@ -0,0 +1,1 @@|+a|@@ -0,0 +2,1 @@|+b|"},
	{"new places by all hunks ahead", "@@ -1,0 +2,2 @@|+a|+b|@@ -4,1 +5,0 @@|-c|@@ -9,1 +10,1 @@|-d|+e|"},
	{"far between", "@@ -1,1 +0,0 @@|-a|@@ -100000,1 +99999,1 @@|-b|+c|"},
}

func TestWrongPatchesAreRefused(t *testing.T) {
	for _, c := range wrongPatches() {
		if s, e := Write(c.p); s != "" || e != api.ErrPatch {
			t.Errorf("%s: Write = %.80q, %d, want ErrPatch", c.name, s, e)
		}
		if r, e := Reverse(c.p); r.Hunks != nil || e != api.ErrPatch {
			t.Errorf("%s: Reverse = %.80q, %d, want ErrPatch", c.name, tell(r), e)
		}
	}
}

// TestManyLinesAreNotGoneThrough: hunks that share one long list are more lines than could be looked at.
func TestManyLinesAreNotGoneThrough(t *testing.T) {
	long := addsPatch(100000).Hunks[0]
	p := api.Patch{Hunks: make([]api.Hunk, 100000)}
	for i := range p.Hunks {
		p.Hunks[i] = long
		p.Hunks[i].To = 1 + i%100000
		p.Hunks[i].ToCount = 1 + i%2
	}
	if _, e := Write(p); e != api.ErrPatch {
		t.Errorf("Write = %d, want ErrPatch", e)
	}
	if _, e := Reverse(p); e != api.ErrPatch {
		t.Errorf("Reverse = %d, want ErrPatch", e)
	}
}

// checkOwnMemory: whether a patch's lists and texts are its own, beside those of another one.
func checkOwnMemory(t *testing.T, p api.Patch, whole ...string) {
	t.Helper()
	before := tell(p)
	for _, h := range p.Hunks {
		spare := h.Lines[len(h.Lines):cap(h.Lines)]
		for i := range spare {
			spare[i] = api.Line{Kind: '?', Text: "?"}
		}
		for _, l := range h.Lines {
			for _, w := range whole {
				if within(l.Text, w) {
					t.Errorf("the line %q is a piece of what was handed in", l.Text)
				}
			}
		}
	}
	if tell(p) != before {
		t.Errorf("hunks share their spare room: %q, was %q", tell(p), before)
	}
}

// longPatch: hunks of a Diff between two texts of one seed.
func longPatch(t *testing.T, seed uint32, context int) (old, fresh string, p api.Patch) {
	t.Helper()
	old = mixedText(int(seed)*2, 4+int(seed), seed)
	lines := linesOf(old)
	for i := 0; i < len(lines); i += 7 + int(seed)%9 {
		lines[i] = strings.Repeat("new\n", int(seed)%3) + "x"
	}
	fresh = textOf(strings.Join(append(lines, "end", ""), "|"))
	p, e := Diff(old, fresh, context)
	if e != api.OK {
		t.Fatalf("seed %d, context %d: Diff = %d", seed, context, e)
	}
	return old, fresh, p
}
