package darning

import (
	"fmt"
	"math"
	"math/rand"
	"reflect"
	"slices"
	"strings"
	"testing"

	"darning/api"
)

// tellSeams: of each one how far it was moved and its fuzz, or that it is left over.
func tellSeams(seams []api.Seam) string {
	var told []string
	for _, s := range seams {
		switch {
		case s.Done:
			told = append(told, fmt.Sprintf("%d/%d", s.At, s.Fuzz))
		case s == api.Seam{}:
			told = append(told, "left")
		default:
			told = append(told, fmt.Sprintf("left, but %v", s))
		}
	}
	return strings.Join(told, " ")
}

// example: the document's first patch.
const example = "@@ -1,3 +1,3 @@| a|-b|+x| c|"

type applyCase struct {
	name, text, told string
	fuzz             int
	want, seams      string
}

func checkApplies(t *testing.T, cases []applyCase) {
	t.Helper()
	for _, c := range cases {
		p := untell(c.told)
		if !isRight(p) {
			t.Errorf("%s: the patch is no right one", c.name)
		}
		got, seams, e := Apply(textOf(c.text), p, c.fuzz)
		if e != api.OK || got != textOf(c.want) || tellSeams(seams) != c.seams {
			t.Errorf("%s: Apply = %q, %q, %d, want %q, %q", c.name, got, tellSeams(seams), e, textOf(c.want), c.seams)
		}
	}
}

func TestApplySewsHunksIn(t *testing.T) {
	checkApplies(t, []applyCase{
		{"example, at its own place", "a|b|c|d|", example, 0, "a|x|c|d|", "0/0"},
		{"example, moved", "n|a|b|c|d|", example, 0, "n|a|x|c|d|", "1/0"},
		{"example, left over", "q|b|c|", example, 0, "q|b|c|", "left"},
		{"example, with fuzz", "q|b|c|", example, 1, "q|x|c|", "0/1"},
		{"example, without context", "a|b|c|d|", "@@ -2,1 +2,1 @@|-b|+x|", 0, "a|x|c|d|", "0/0"},
		{"example, from nothing", "", "@@ -0,0 +1,1 @@|+x|", 0, "x|", "0/0"},
		{"no hunk", "a|b|", "", api.MaxFuzz, "a|b|", ""},
		{"no hunk, no text", "", "", 0, "", ""},
		{"to nothing", "x|y|", "@@ -1,2 +0,0 @@|-x|-y|", 0, "", "0/0"},
		{"nothing to drop from", "", "@@ -1,1 +0,0 @@|-x|", api.MaxFuzz, "", "left"},
		{"empty lines", "||", "@@ -1,2 +1,2 @@| |-|+x|", 0, "|x|", "0/0"},
		{"adds ahead of drops", "a|c|k|", "@@ -1,3 +1,3 @@|+b|-a|+d|-c| k|", 0, "b|d|k|", "0/0"},
		{"lines are bytes", "\xff\r|\x00|", "@@ -1,2 +1,2 @@|-\xff\r|+\xfe\r| \x00|", 0, "\xfe\r|\x00|", "0/0"},
		{"a piece of a line is not the line", "ab|", "@@ -1,1 +1,1 @@|-a|+x|", 0, "ab|", "left"},
		{"all lines count, not the first alone", "a|b|d|", example, 0, "a|b|d|", "left"},
		{"two hunks moved as one", "n|a|k|k|b|", "@@ -1,1 +1,1 @@|-a|+x|@@ -4,1 +4,1 @@|-b|+y|", 0, "n|x|k|k|y|", "1/0 1/0"},
		{"two hunks, the lines between are left as they are", "a|1|2|b|3|", "@@ -1,1 +0,0 @@|-a|@@ -4,1 +2,0 @@|-b|", 0, "1|2|3|", "0/0 0/0"},
		{"hunks beside one another", "a|b|", "@@ -1,1 +1,1 @@|-a|+x|@@ -2,1 +2,1 @@|-b|+y|", 0, "x|y|", "0/0 0/0"},
		{"adds beside a drop", "a|b|", "@@ -1,1 +0,0 @@|-a|@@ -1,0 +1,1 @@|+y|", 0, "y|b|", "0/0 0/0"},
		{"two hunks at one place", "a|", "@@ -0,0 +1,1 @@|+x|@@ -0,0 +2,1 @@|+y|", 0, "x|y|a|", "0/0 0/0"},
	})
}

func TestApplyLooksForThePlaceInOrder(t *testing.T) {
	drop := "@@ -4,1 +3,0 @@|-b|"
	checkApplies(t, []applyCase{
		{"its own place first", "k|k|b|b|b|", drop, 0, "k|k|b|b|", "0/0"},
		{"behind first, at one distance", "k|k|b1|k|b|k|", drop, 0, "k|k|b1|k|k|", "1/0"},
		{"behind ahead of ahead, distance 1", "k|2|b|k|b|4|", drop, 0, "k|2|b|k|4|", "1/0"},
		{"behind ahead of ahead, distance 2", "k|b|2|k|3|b|", drop, 0, "k|b|2|k|3|", "2/0"},
		{"one ahead goes ahead of two behind", "k|2|b|k|3|b|", drop, 0, "k|2|k|3|b|", "-1/0"},
		{"one behind goes ahead of two ahead", "k|b|2|k|b|3|", drop, 0, "k|b|2|k|3|", "1/0"},
		{"two ahead goes ahead of three behind", "k|b|2|k|3|4|b|", drop, 0, "k|2|k|3|4|b|", "-2/0"},
		{"less fuzz goes ahead of a nearer place", "q|b|c|a|b|c|", example, 1, "q|b|c|a|x|c|", "3/0"},
		{"less fuzz goes ahead, of two with fuzz", "q|r|b|c|d|k|k|q|a|b|c|q|", "@@ -1,5 +1,5 @@| p| a|-b|+x| c| d|", 9, "q|r|b|c|d|k|k|q|a|x|c|q|", "7/1"},
		{"with fuzz the own place is first again", "q|b|q|b|q|", "@@ -3,3 +3,3 @@| a|-b|+x| c|", 1, "q|b|q|x|q|", "0/1"},
		{"the second by the first one's move", "n|n|a|b|k|b|", "@@ -1,1 +1,1 @@|-a|+x|@@ -2,1 +2,1 @@|-b|+y|", 0, "n|n|x|y|k|b|", "2/0 2/0"},
		{"the second, around where the first one's move leads", "n|n|a|k|b|b|", "@@ -1,1 +1,1 @@|-a|+x|@@ -2,1 +2,1 @@|-b|+y|", 0, "n|n|x|k|y|b|", "2/0 3/0"},
		{"the third by the second one's move", "a|n|b|n|c|c|", "@@ -1,1 +1,1 @@|-a|+x|@@ -2,1 +2,1 @@|-b|+y|@@ -4,1 +4,1 @@|-c|+z|", 0, "x|n|y|n|z|c|", "0/0 1/0 1/0"},
		{"moved ahead, and the second as far", "a|1|b|2|b|", "@@ -3,1 +3,1 @@|-a|+x|@@ -5,1 +5,1 @@|-b|+y|", 0, "x|1|y|2|b|", "-2/0 -2/0"},
		{"what the first made is not looked at", "a|k|", "@@ -1,1 +1,2 @@|-a|+b|+b|@@ -2,1 +3,1 @@|-b|+y|", 0, "b|b|k|", "0/0 left"},
		{"how far is told of the text as handed in", "a|k|b|", "@@ -1,1 +1,3 @@|-a|+1|+2|+3|@@ -3,1 +5,1 @@|-b|+y|", 0, "1|2|3|k|y|", "0/0 0/0"},
	})
}

func TestApplyLeavesOver(t *testing.T) {
	two := "@@ -1,1 +1,1 @@|-a|+x|@@ -3,1 +3,1 @@|-b|+y|"
	checkApplies(t, []applyCase{
		{"the first is left over, the second not", "q|k|b|", two, 0, "q|k|y|", "left 0/0"},
		{"the second is left over", "a|k|q|", two, 0, "x|k|q|", "0/0 left"},
		{"both", "q|k|q|", two, api.MaxFuzz, "q|k|q|", "left left"},
		{"not ahead of the one sewn in", "b|k|a|", two, 0, "b|k|x|", "2/0 left"},
		{"one left over is no bound", "b|k|q|", two, 0, "y|k|q|", "left -2/0"},
		{"one left over moves nothing", "n|a|n|q|k|c|c|",
			"@@ -1,1 +1,1 @@|-a|+x|@@ -3,1 +3,1 @@|-b|+y|@@ -5,1 +5,1 @@|-c|+z|", 0, "n|x|n|q|k|z|c|", "1/0 left 1/0"},
		{"not within the one sewn in", "a|b|c|", "@@ -1,3 +1,3 @@| a|-b|+x| c|@@ -4,1 +4,1 @@|-c|+y|", 0, "a|x|c|", "0/0 left"},
		{"the next is nearer within the one sewn in", "a|b|c|c|c|", "@@ -1,3 +1,3 @@| a|-b|+x| c|@@ -4,1 +4,1 @@|-c|+y|", 0, "a|x|c|y|c|", "0/0 0/0"},
		{"the next begins on a line that was left out", "q|b|c|", "@@ -1,3 +1,3 @@| a|-b|+x| k|@@ -4,1 +4,1 @@|-c|+y|", 1, "q|x|y|", "0/1 -1/0"},
		{"the next leaves out what was sewn in", "a|b|c|d|", "@@ -1,3 +1,3 @@| a|-b|+x| c|@@ -4,2 +4,2 @@| c|-d|+y|", 1, "a|x|c|y|", "0/0 -1/1"},
		{"the next, without fuzz", "a|b|c|d|", "@@ -1,3 +1,3 @@| a|-b|+x| c|@@ -4,2 +4,2 @@| c|-d|+y|", 0, "a|x|c|d|", "0/0 left"},
	})
}

func TestApplyAddsAlone(t *testing.T) {
	checkApplies(t, []applyCase{
		{"at the beginning", "a|b|", "@@ -0,0 +1,1 @@|+x|", 0, "x|a|b|", "0/0"},
		{"in the middle", "a|b|", "@@ -1,0 +2,1 @@|+x|", 0, "a|x|b|", "0/0"},
		{"at the end", "a|b|", "@@ -2,0 +3,2 @@|+x|+y|", 0, "a|b|x|y|", "0/0"},
		{"one behind the end", "a|b|", "@@ -3,0 +4,1 @@|+x|", 0, "a|b|x|", "-1/0"},
		{"as far behind the end as there are lines", "a|b|", "@@ -4,0 +5,1 @@|+x|", 0, "a|b|x|", "-2/0"},
		{"farther behind the end", "a|b|", "@@ -5,0 +6,1 @@|+x|", api.MaxFuzz, "a|b|", "left"},
		{"behind the end of nothing", "", "@@ -1,0 +2,1 @@|+x|", 0, "", "left"},
		{"with the greatest number", "a|b|", "@@ -99999,0 +100000,1 @@|+x|", api.MaxFuzz, "a|b|", "left"},
		{"fuzz leaves all old lines out", "q|r|", "@@ -1,2 +1,3 @@| a|+x| b|", 1, "q|x|r|", "0/1"},
		{"all old lines left out, at the end", "q|", "@@ -1,2 +1,3 @@| a|+x| b|", 1, "q|x|", "0/1"},
		{"all old lines left out, one behind the end", "q|", "@@ -2,2 +2,3 @@| a|+x| b|", 1, "q|x|", "-1/1"},
		{"all old lines left out, too far behind the end", "q|", "@@ -3,2 +3,3 @@| a|+x| b|", 1, "q|", "left"},
		{"behind the one sewn in", "k|k|a|", "@@ -1,1 +1,1 @@|-a|+x|@@ -1,0 +2,1 @@|+y|", 0, "k|k|x|y|", "2/0 2/0"},
	})
}

func TestApplyLeavesOutLines(t *testing.T) {
	keeps := func(from, to int) string {
		var b strings.Builder
		for i := from; i <= to; i++ {
			fmt.Fprintf(&b, " %d|", i)
		}
		return b.String()
	}
	twelve := "@@ -1,25 +1,25 @@|" + keeps(1, 12) + "-b|+x|" + keeps(13, 24)
	lines := func(told string) string { return strings.ReplaceAll(told, " ", "") }
	ten := strings.Repeat("q|", 10)
	inner := lines(keeps(11, 12)) + "b|" + lines(keeps(13, 14))
	sewnInner := lines(keeps(11, 12)) + "x|" + lines(keeps(13, 14))
	checkApplies(t, []applyCase{
		{"the first and the last", "q|b|r|", example, 1, "q|x|r|", "0/1"},
		{"more fuzz than is needed", "q|b|r|", example, api.MaxFuzz, "q|x|r|", "0/1"},
		{"more fuzz than is needed, and none is told", "a|b|c|", example, api.MaxFuzz, "a|x|c|", "0/0"},
		{"only those at the beginning that are kept", "q|k|c|d|", "@@ -1,4 +1,2 @@|-a| k| c|-d|", api.MaxFuzz, "q|k|c|d|", "left"},
		{"the beginning has fewer than the end", "a|b|c|q|r|", "@@ -1,5 +1,5 @@| a|-b|+x| c| d| e|", 2, "a|x|c|q|r|", "0/2"},
		{"the end has fewer than the beginning", "q|r|c|b|e|", "@@ -1,5 +1,5 @@| a| d| c|-b|+x| e|", 2, "q|r|c|x|e|", "0/2"},
		{"none at the beginning", "b|q|", "@@ -1,2 +1,2 @@|-b|+x| c|", 1, "x|q|", "0/1"},
		{"none at the end", "q|b|", "@@ -1,2 +1,2 @@| a|-b|+x|", 1, "q|x|", "0/1"},
		{"keeps between stay", "q|b|r|d|", "@@ -1,4 +1,4 @@| a|-b|+x| c|-d|+y|", api.MaxFuzz, "q|b|r|d|", "left"},
		{"keeps ahead of an add alone", "q|b|", "@@ -1,2 +1,3 @@| a|+x| b|", 1, "q|x|b|", "0/1"},
		{"ahead of the beginning of the text", "b|c|", example, 1, "x|c|", "-1/1"},
		{"behind the end of the text", "a|b|", example, 1, "a|x|", "0/1"},
		{"both", "b|", example, 1, "x|", "-1/1"},
		{"two ahead of the beginning, and one line", "b|", "@@ -1,3 +1,3 @@| a| c|-b|+x|", api.MaxFuzz, "b|", "left"},
		{"two ahead of the beginning, and two lines", "b|k|", "@@ -1,3 +1,3 @@| a| c|-b|+x|", api.MaxFuzz, "x|k|", "-2/2"},
		{"the greatest fuzz", ten + inner + ten, twelve, api.MaxFuzz, ten + sewnInner + ten, "0/10"},
		{"one less than is needed", ten + inner + ten, twelve, api.MaxFuzz - 1, ten + inner + ten, "left"},
		{"one more than may be", ten + "q|12|b|13|q|" + ten, twelve, api.MaxFuzz, ten + "q|12|b|13|q|" + ten, "left"},
		{"the first one's fuzz is its own", "q|b|c|k|d|", "@@ -1,2 +1,2 @@| a|-b|+x|@@ -5,1 +5,1 @@|-d|+y|", 3, "q|x|c|k|y|", "0/1 0/0"},
		{"moved and left out", "n|n|q|b|q|k|d|", "@@ -1,3 +1,3 @@| a|-b|+x| c|@@ -5,1 +5,1 @@|-d|+y|", 3, "n|n|q|x|q|k|y|", "2/1 2/0"},
	})
}

func TestApplyGoesNoFartherThanThereAreLines(t *testing.T) {
	full := strings.Repeat("k|", api.MaxLines-1)
	checkApplies(t, []applyCase{
		{"as far ahead as may be", "b|k|k|", "@@ -4,1 +3,0 @@|-b|", 0, "k|k|", "-3/0"},
		{"one farther", "b|k|k|", "@@ -5,1 +4,0 @@|-b|", api.MaxFuzz, "b|k|k|", "left"},
		{"the last line", "k|k|b|", "@@ -6,1 +5,0 @@|-b|", 0, "k|k|", "-3/0"},
		{"the last line, one farther", "k|k|b|", "@@ -7,1 +6,0 @@|-b|", api.MaxFuzz, "k|k|b|", "left"},
		{"the last line from the beginning", "k|k|b|", "@@ -1,1 +0,0 @@|-b|", 0, "k|k|", "2/0"},
		{"in the greatest text, ahead", "b|" + full, "@@ -201,1 +200,0 @@|-b|", 0, full, "-200/0"},
		{"in the greatest text, one farther", "b|" + full, "@@ -202,1 +201,0 @@|-b|", 0, "b|" + full, "left"},
		{"in the greatest text, behind", full + "b|", "@@ -1,1 +0,0 @@|-b|", 0, full, "199/0"},
		{"the greatest numbers", "b|", "@@ -100000,1 +99999,0 @@|-b|", api.MaxFuzz, "b|", "left"},
		{"from where the first one's move leads", "a|b|k|k|k|", "@@ -6,1 +6,1 @@|-a|+x|@@ -12,1 +12,1 @@|-b|+y|", 0, "x|y|k|k|k|", "-5/0 -10/0"},
		{"from there one farther", "a|b|k|k|k|", "@@ -6,1 +6,1 @@|-a|+x|@@ -13,1 +13,1 @@|-b|+y|", 0, "x|b|k|k|k|", "-5/0 left"},
		{"lines that were added make it no farther", "b|k|", "@@ -0,0 +1,3 @@|+1|+2|+3|@@ -4,1 +7,1 @@|-b|+y|", 0, "1|2|3|b|k|", "0/0 left"},
		{"lines that were dropped make it no nearer", "1|2|3|b|", "@@ -1,3 +0,0 @@|-1|-2|-3|@@ -8,1 +5,1 @@|-b|+y|", 0, "y|", "0/0 -4/0"},
	})
}

func TestApplyAnswersTheFirstErrorThatApplies(t *testing.T) {
	right := untell(example)
	wrong := untell("@@ -1,2 +1,1 @@|-a|+b|")
	manyLines := strings.Repeat("\n", api.MaxLines)
	longLine := strings.Repeat("x", api.MaxText-1) + "\n"
	for _, c := range []struct {
		name, text string
		p          api.Patch
		fuzz       int
		want       api.Errno
	}{
		{"no text", "a", right, 0, api.ErrText},
		{"no text behind a line", "a\nb", api.Patch{}, 0, api.ErrText},
		{"no text, too many bytes", longLine + "x", right, 0, api.ErrText},
		{"no text, and all else", manyLines + "\nx", wrong, -1, api.ErrText},
		{"too many lines", manyLines + "\n", right, 0, api.ErrLarge},
		{"too many bytes", "x" + longLine, api.Patch{}, 0, api.ErrLarge},
		{"too large, and all else", manyLines + "\n", wrong, 11, api.ErrLarge},
		{"no right patch", "a\n", wrong, 0, api.ErrPatch},
		{"no right patch, and a wrong number", "a\n", wrong, 11, api.ErrPatch},
		{"a wrong hunk behind one that can be sewn in", "a\n", untell("@@ -1,1 +0,0 @@|-a|@@ -1,1 +0,0 @@|-b|"), 0, api.ErrPatch},
		{"fuzz is too small", "a\n", right, -1, api.ErrNumber},
		{"fuzz is too great", "a\n", right, api.MaxFuzz + 1, api.ErrNumber},
		{"fuzz is too great for nothing", "", api.Patch{}, api.MaxFuzz + 1, api.ErrNumber},
		{"fuzz is the least number", "a\n", right, math.MinInt, api.ErrNumber},
		{"fuzz is the greatest number", "a\n", right, math.MaxInt, api.ErrNumber},
		{"as many lines as there may be", manyLines, right, api.MaxFuzz, api.OK},
		{"as many bytes as there may be", longLine, right, 0, api.OK},
	} {
		s, seams, e := Apply(c.text, c.p, c.fuzz)
		if e != c.want {
			t.Errorf("%s: Apply = %d, want %d", c.name, e, c.want)
		}
		if e != api.OK && (s != "" || seams != nil) {
			t.Errorf("%s: Apply tells %q, %v with an error", c.name, s, seams)
		}
	}
	for _, c := range wrongPatches() {
		if s, seams, e := Apply("a\nb\n", c.p, api.MaxFuzz+1); s != "" || seams != nil || e != api.ErrPatch {
			t.Errorf("%s: Apply = %q, %v, %d, want ErrPatch", c.name, s, seams, e)
		}
	}
	for _, c := range rightPatches {
		p := untell(c.told)
		if _, seams, e := Apply("", p, 0); e != api.OK || len(seams) != len(p.Hunks) {
			t.Errorf("%s: Apply = %v, %d", c.name, seams, e)
		}
	}
}

// TestWhatComesOutMayBeLarge: the limits are those of what is handed in.
func TestWhatComesOutMayBeLarge(t *testing.T) {
	full := strings.Repeat(strings.Repeat("k", api.MaxText/api.MaxLines-1)+"\n", api.MaxLines)
	got, seams, e := Apply(full, addsPatch(100000), 0)
	if e != api.OK || tellSeams(seams) != "0/0" || got != strings.Repeat("\n", 100000)+full {
		t.Errorf("Apply of 100000 lines = %d bytes, %v, %d", len(got), seams, e)
	}
}

// TestManyHunksAreLeftOver: as many hunks as there may be, none of which fits, take no time worth telling.
func TestManyHunksAreLeftOver(t *testing.T) {
	p := api.Patch{Hunks: make([]api.Hunk, 100000)}
	drop := []api.Line{{Kind: api.Drop, Text: "b"}}
	for i := range p.Hunks {
		p.Hunks[i] = api.Hunk{From: i + 1, FromCount: 1, Lines: drop}
	}
	full := strings.Repeat("a\n", api.MaxLines)
	got, seams, e := Apply(full, p, api.MaxFuzz)
	if e != api.OK || got != full || len(seams) != 100000 || slices.ContainsFunc(seams, func(s api.Seam) bool { return s != api.Seam{} }) {
		t.Errorf("Apply of 100000 hunks = %d bytes, %d seams, %d", len(got), len(seams), e)
	}
}

func TestApplyAnswersNewMemory(t *testing.T) {
	told := "@@ -1,2 +1,3 @@| long line|-a|+first|+second|@@ -4,1 +5,1 @@|-d|+third|"
	p := untell(told + "@@ -9,1 +9,0 @@|-behind|")
	p.Hunks[0].Lines = append(p.Hunks[0].Lines, api.Line{Kind: '?', Text: "spare"})[:4]
	behind := p.Hunks
	p.Hunks = p.Hunks[:2]
	text := textOf("long line|a|k|d|")
	want := textOf("long line|first|second|k|third|")
	got, seams, e := Apply(text, p, 1)
	if e != api.OK || got != want || tellSeams(seams) != "0/0 0/0" {
		t.Fatalf("Apply = %q, %v, %d", got, seams, e)
	}
	for _, s := range append(textsOf(behind), text) {
		if within(got, s) || within(s, got) {
			t.Errorf("%q is a piece of what was handed in", got)
		}
	}
	clear(seams[:cap(seams)])
	if tell(p) != told || behind[2].From != 9 || behind[2].Lines[0].Text != "behind" || p.Hunks[0].Lines[:5][4].Text != "spare" {
		t.Errorf("what was handed in is %q, and behind it %v", tell(p), behind[2])
	}
	if again, seams, _ := Apply(text, p, 1); again != want || tellSeams(seams) != "0/0 0/0" {
		t.Errorf("a second Apply = %q, %v", again, seams)
	}
	for _, c := range []struct {
		text string
		p    api.Patch
	}{{text, api.Patch{}}, {text, untell("@@ -1,1 +0,0 @@|-none|")}, {"a\n", untell("@@ -1,2 +0,0 @@|-a|-b|")}} {
		if got, _, _ := Apply(c.text, c.p, 0); got != c.text || within(got, c.text) {
			t.Errorf("Apply = %q, a piece of what was handed in, or not the same", got)
		}
	}
}

// sewnByTheWord: P6 word by word, each hunk tried by its lines at each place; slow, but plain.
func sewnByTheWord(text []string, p api.Patch, fuzz int) ([]string, []api.Seam) {
	var fresh []string
	var seams []api.Seam
	end, moved := 0, 0
	for _, h := range p.Hunks {
		own := h.From
		if h.FromCount > 0 {
			own--
		}
		var seam api.Seam
	looking:
		for f := 0; f <= fuzz; f++ {
			for d := 0; d <= len(text); d++ {
				for _, at := range []int{own + moved + d, own + moved - d} {
					stands, made, over, ok := triedByTheWord(text, h.Lines, at, f, end)
					if ok {
						fresh = append(append(fresh, text[end:stands]...), made...)
						end, moved = over, at-own
						seam = api.Seam{Done: true, At: at - own, Fuzz: f}
						break looking
					}
				}
			}
		}
		seams = append(seams, seam)
	}
	return append(fresh, text[end:]...), seams
}

// triedByTheWord: where a hunk stands if it is tried, what it makes, and where it is over.
func triedByTheWord(text []string, lines []api.Line, at, f, end int) (stands int, made []string, over int, ok bool) {
	stands = at
	for n := 0; n < f && lines[0].Kind == ' '; n++ {
		lines = lines[1:]
		stands++
	}
	for n := 0; n < f && lines[len(lines)-1].Kind == ' '; n++ {
		lines = lines[:len(lines)-1]
	}
	if stands < end || stands > len(text) {
		return 0, nil, 0, false
	}
	over = stands
	for _, l := range lines {
		if l.Kind != '+' {
			if over >= len(text) || text[over] != l.Text {
				return 0, nil, 0, false
			}
			over++
		}
		if l.Kind != '-' {
			made = append(made, l.Text)
		}
	}
	return stands, made, over, true
}

// drawnPatch: a right patch of hunks of any shape.
func drawnPatch(r *rand.Rand, letters int) api.Patch {
	var p api.Patch
	place, grown := 0, 0
	for range r.Intn(5) {
		place += r.Intn(6) * r.Intn(2)
		var h api.Hunk
		kinds := strings.Repeat(" ", r.Intn(4)) + "-+"[r.Intn(2):][:1]
		for range r.Intn(4) {
			kinds += " -+"[r.Intn(3):][:1]
		}
		for _, kind := range []byte(kinds + strings.Repeat(" ", r.Intn(4))) {
			h.Lines = append(h.Lines, api.Line{Kind: kind, Text: string(rune('a' + r.Intn(letters)))})
			if kind != '+' {
				h.FromCount++
			}
			if kind != '-' {
				h.ToCount++
			}
		}
		h.From, h.To = place+min(h.FromCount, 1), place+grown+min(h.ToCount, 1)
		place += h.FromCount
		grown += h.ToCount - h.FromCount
		p.Hunks = append(p.Hunks, h)
	}
	return p
}

func TestApplyDoesAsTheWordsSay(t *testing.T) {
	r := rand.New(rand.NewSource(7))
	moved, fuzzed, left := 0, 0, 0
	for range 20000 {
		letters := 1 + r.Intn(3)
		text := make([]string, r.Intn(20))
		for i := range text {
			text[i] = string(rune('a' + r.Intn(letters)))
		}
		p, fuzz := drawnPatch(r, letters), r.Intn(5)
		want, wantSeams := sewnByTheWord(text, p, fuzz)
		got, seams, e := Apply(joined(text), p, fuzz)
		if e != api.OK || got != joined(want) || !slices.Equal(seams, wantSeams) {
			t.Fatalf("Apply(%q, %q, %d) = %q, %q, %d, want %q, %q", text, tell(p), fuzz, got, tellSeams(seams), e, want, tellSeams(wantSeams))
		}
		for _, s := range seams {
			switch {
			case !s.Done:
				left++
			case s.Fuzz > 0:
				fuzzed++
			case s.At != 0:
				moved++
			}
		}
	}
	if min(moved, fuzzed, left) < 1000 {
		t.Errorf("too few are moved (%d), fuzzed (%d) or left over (%d) for this to tell much", moved, fuzzed, left)
	}
}

// joined lines, each with its newline.
func joined(lines []string) string {
	var b strings.Builder
	for _, l := range lines {
		b.WriteString(l + "\n")
	}
	return b.String()
}

// checkOwnPlaces: whether each hunk was sewn in at its own place, moved by so many.
func checkOwnPlaces(t *testing.T, seams []api.Seam, hunks, moved int) {
	t.Helper()
	if len(seams) != hunks {
		t.Fatalf("%d seams of %d hunks", len(seams), hunks)
	}
	for i, s := range seams {
		if s != (api.Seam{Done: true, At: moved}) {
			t.Fatalf("seam %d is %v, want one moved by %d", i, s, moved)
		}
	}
}

// TestWhatDiffTellsLeadsThereAndBack: P7, also for what is written and read.
func TestWhatDiffTellsLeadsThereAndBack(t *testing.T) {
	for seed := range uint32(60) {
		for context := range api.MaxContext + 1 {
			old, fresh, p := longPatch(t, seed, context)
			there, seams, e := Apply(old, p, context)
			if e != api.OK || there != fresh {
				t.Fatalf("seed %d, context %d: Apply = %q, %d, want %q", seed, context, there, e, fresh)
			}
			checkOwnPlaces(t, seams, len(p.Hunks), 0)
			r, _ := Reverse(p)
			back, seams, e := Apply(fresh, r, context)
			if e != api.OK || back != old {
				t.Fatalf("seed %d, context %d: back = %q, %d, want %q", seed, context, back, e, old)
			}
			checkOwnPlaces(t, seams, len(p.Hunks), 0)
			text, e := Write(p)
			if e != api.OK {
				t.Fatalf("seed %d, context %d: Write = %d", seed, context, e)
			}
			if again, line, e := Read(text); e != api.OK || line != 0 || !reflect.DeepEqual(again, p) {
				t.Fatalf("seed %d, context %d: Read = %q, %d, %d", seed, context, tell(again), line, e)
			}
		}
	}
}

// TestLinesAheadMoveAllHunks: P7. Each line stands once, and each hunk has a line of the old text.
func TestLinesAheadMoveAllHunks(t *testing.T) {
	for seed := range 30 {
		ahead, lines := 10+seed, 40
		var kept, changed []string
		for i := range lines {
			kept = append(kept, fmt.Sprint("line ", i))
			if i%(5+seed%7) == 2 {
				changed = append(changed, fmt.Sprint("other ", i))
			} else if i%(4+seed%5) != 1 {
				changed = append(changed, kept[i])
			}
		}
		first := make([]string, ahead)
		for i := range first {
			first[i] = fmt.Sprint("ahead ", i)
		}
		for context := range api.MaxContext + 1 {
			p, e := Diff(joined(append(slices.Clone(first), kept...)), joined(append(slices.Clone(first), changed...)), context)
			if e != api.OK {
				t.Fatalf("Diff = %d", e)
			}
			gone := min(ahead, placeOf(p.Hunks[0].From, p.Hunks[0].FromCount))
			for moved := -gone; moved <= 50; moved += 1 + seed%4 {
				now := append(slices.Clone(first[max(-moved, 0):]), kept...)
				want := append(slices.Clone(first[max(-moved, 0):]), changed...)
				for i := range max(moved, 0) {
					now = slices.Insert(now, 0, fmt.Sprint("put in ", i))
					want = slices.Insert(want, 0, fmt.Sprint("put in ", i))
				}
				got, seams, e := Apply(joined(now), p, seed%3)
				if e != api.OK || got != joined(want) {
					t.Fatalf("seed %d, context %d, moved %d: Apply = %q, %d, want %q", seed, context, moved, got, e, want)
				}
				checkOwnPlaces(t, seams, len(p.Hunks), moved)
			}
		}
	}
}
