package darning

import (
	"strings"
	"testing"

	"darning/api"
)

func TestWriteTellsTheText(t *testing.T) {
	for _, c := range rightPatches {
		if s, e := Write(untell(c.told)); s != textOf(c.told) || e != api.OK {
			t.Errorf("%s: Write = %q, %d, want %q", c.name, s, e, textOf(c.told))
		}
	}
}

// sizedPatch: one hunk, of which the text has so many bytes.
func sizedPatch(bytes int) api.Patch {
	text := strings.Repeat("x", bytes-len("@@ -0,0 +1,2 @@\n+\n+y\n"))
	return untell("@@ -0,0 +1,2 @@|+" + text + "|+y|")
}

func TestWriteStopsAtTheLimit(t *testing.T) {
	if s, e := Write(sizedPatch(api.MaxPatch)); len(s) != api.MaxPatch || e != api.OK {
		t.Errorf("Write of MaxPatch bytes = %d bytes, %d", len(s), e)
	}
	huge := addsPatch(100000)
	for i := range huge.Hunks[0].Lines {
		huge.Hunks[0].Lines[i].Text = strings.Repeat("x", 100)
	}
	short := untell("@@ -0,0 +1,1 @@|+a|")
	long := untell("@@ -0,0 +2,1 @@|+" + strings.Repeat("x", api.MaxPatch-len("@@ -0,0 +1,1 @@\n+a\n@@ -0,0 +2,1 @@\n+")) + "|")
	for _, c := range []namedPatch{
		{"one byte more", sizedPatch(api.MaxPatch + 1)},
		{"two bytes more", sizedPatch(api.MaxPatch + 2)},
		{"three bytes more", sizedPatch(api.MaxPatch + 3)},
		{"four bytes more", sizedPatch(api.MaxPatch + 4)},
		{"many bytes more", sizedPatch(10 * api.MaxPatch)},
		{"the last newline is too much", api.Patch{Hunks: append(short.Hunks, long.Hunks...)}},
		{"as many lines as there are numbers", addsPatch(100000)},
		{"far beyond the limit", huge},
	} {
		if s, e := Write(c.p); s != "" || e != api.ErrLarge {
			t.Errorf("%s: Write = %d bytes, %d, want ErrLarge", c.name, len(s), e)
		}
	}
}

func TestWriteAnswersTheFirstErrorThatApplies(t *testing.T) {
	wrong := sizedPatch(api.MaxPatch + 1)
	wrong.Hunks = append(wrong.Hunks, api.Hunk{})
	if s, e := Write(wrong); s != "" || e != api.ErrPatch {
		t.Errorf("Write of a patch that is wrong and too large = %d bytes, %d, want ErrPatch", len(s), e)
	}
}

func TestWriteChangesNothing(t *testing.T) {
	told := "@@ -1,2 +1,2 @@|+b|-a| k|@@ -5,1 +4,0 @@|-c|"
	p := untell(told + "@@ -7,1 +7,0 @@|-d|")
	behind := p.Hunks
	p.Hunks = p.Hunks[:2]
	if _, e := Write(p); e != api.OK {
		t.Errorf("Write = %d", e)
	}
	if tell(p) != told || behind[2].From != 7 || behind[2].Lines[0].Text != "d" {
		t.Errorf("what was handed in is %q, and behind it %v", tell(p), behind[2])
	}
}
