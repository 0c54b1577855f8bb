package darning

import (
	"fmt"
	"math"
	"reflect"
	"strings"
	"testing"
	"unsafe"

	"darning/api"
)

// textOf lines, told with a bar behind each one.
func textOf(bars string) string { return strings.ReplaceAll(bars, "|", "\n") }

// tell a patch: of each hunk its numbers, and its lines with a bar behind each one.
func tell(p api.Patch) string {
	var b strings.Builder
	for _, h := range p.Hunks {
		fmt.Fprintf(&b, "@@ -%d,%d +%d,%d @@|", h.From, h.FromCount, h.To, h.ToCount)
		for _, l := range h.Lines {
			b.WriteString(string(rune(l.Kind)) + l.Text + "|")
		}
	}
	return b.String()
}

func TestDiffTellsThePatch(t *testing.T) {
	for _, c := range []struct {
		name, old, fresh string
		context          int
		want             string
	}{
		{"example, context 1", "a|b|c|d|", "a|x|c|d|", 1, "@@ -1,3 +1,3 @@| a|-b|+x| c|"},
		{"example, context 0", "a|b|c|d|", "a|x|c|d|", 0, "@@ -2,1 +2,1 @@|-b|+x|"},
		{"example, from nothing", "", "x|", 0, "@@ -0,0 +1,1 @@|+x|"},
		{"from nothing, greatest context", "", "x|y|", api.MaxContext, "@@ -0,0 +1,2 @@|+x|+y|"},
		{"to nothing", "x|y|", "", 3, "@@ -1,2 +0,0 @@|-x|-y|"},
		{"nothing to nothing", "", "", 3, ""},
		{"the same", "a|b|", "a|b|", api.MaxContext, ""},
		{"empty lines", "|", "||", 0, "@@ -1,0 +2,1 @@|+|"},
		{"an empty line is not nothing", "", "|", 0, "@@ -0,0 +1,1 @@|+|"},
		{"drops ahead of adds", "p|q|", "r|s|", 0, "@@ -1,2 +1,2 @@|-p|-q|+r|+s|"},
		{"the first of equals is kept", "x|x|", "x|", 0, "@@ -2,1 +1,0 @@|-x|"},
		{"drop rather than add", "a|b|", "b|a|", 9, "@@ -1,2 +1,2 @@|-a| b|+a|"},
		{"drop at the beginning", "a|b|c|", "b|c|", 1, "@@ -1,2 +1,1 @@|-a| b|"},
		{"drop at the end", "a|b|c|", "a|b|", 1, "@@ -2,2 +2,1 @@| b|-c|"},
		{"add in the middle", "a|c|", "a|b|c|", 0, "@@ -1,0 +2,1 @@|+b|"},
		{"drop in the middle", "a|b|c|", "a|c|", 0, "@@ -2,1 +1,0 @@|-b|"},
		{"greatest context", "1|2|3|4|5|6|7|8|9|10|11|12|x|", "1|2|3|4|5|6|7|8|9|10|11|12|", 10,
			"@@ -3,11 +3,10 @@| 3| 4| 5| 6| 7| 8| 9| 10| 11| 12|-x|"},
		{"a keep between that belongs to neither, context 0", "a|k|b|", "x|k|y|", 0,
			"@@ -1,1 +1,1 @@|-a|+x|@@ -3,1 +3,1 @@|-b|+y|"},
		{"a keep between that belongs to both", "a|k|b|", "x|k|y|", 1, "@@ -1,3 +1,3 @@|-a|+x| k|-b|+y|"},
		{"two keeps between, one of each", "a|k|l|b|", "x|k|l|y|", 1, "@@ -1,4 +1,4 @@|-a|+x| k| l|-b|+y|"},
		{"three keeps between", "a|k|l|m|b|", "x|k|l|m|y|", 1,
			"@@ -1,2 +1,2 @@|-a|+x| k|@@ -4,2 +4,2 @@| m|-b|+y|"},
		{"numbers behind a hunk that made the text longer", "a|k|l|m|b|", "a|1|2|k|l|m|", 0,
			"@@ -1,0 +2,2 @@|+1|+2|@@ -5,1 +6,0 @@|-b|"},
		{"lines are bytes", "\xff\r|\x00|", "\xfe\r|\x00|", 1, "@@ -1,2 +1,2 @@|-\xff\r|+\xfe\r| \x00|"},
	} {
		p, e := Diff(textOf(c.old), textOf(c.fresh), c.context)
		if got := tell(p); e != api.OK || got != c.want {
			t.Errorf("%s: Diff = %q, %d, want %q", c.name, got, e, c.want)
		}
	}
}

func TestDiffAnswersTheFirstErrorThatApplies(t *testing.T) {
	manyLines := strings.Repeat("\n", api.MaxLines)
	longLine := strings.Repeat("x", api.MaxText-1) + "\n"
	for _, c := range []struct {
		name, old, fresh string
		context          int
		want             api.Errno
	}{
		{"old is no text", "a", "", 0, api.ErrText},
		{"fresh is no text", "", "a\nb", 0, api.ErrText},
		{"no text ahead of large and number", "x" + longLine, "b", -1, api.ErrText},
		{"no text and large at once", longLine + "x", "", 0, api.ErrText},
		{"old has too many lines", manyLines + "\n", "", 0, api.ErrLarge},
		{"fresh has too many lines", "", manyLines + "\n", 0, api.ErrLarge},
		{"old has too many bytes", "x" + longLine, "", 0, api.ErrLarge},
		{"fresh has too many bytes", "", "x" + longLine, 0, api.ErrLarge},
		{"large ahead of number", "", manyLines + "\n", 11, api.ErrLarge},
		{"context is too small", "", "", -1, api.ErrNumber},
		{"context is too great", "", "", api.MaxContext + 1, api.ErrNumber},
		{"context is the least number", "a\n", "b\n", math.MinInt, api.ErrNumber},
		{"context is the greatest number", "a\n", "b\n", math.MaxInt, api.ErrNumber},
		{"as many lines as there may be", manyLines, "", api.MaxContext, api.OK},
		{"as many bytes as there may be", "", longLine, 0, api.OK},
	} {
		p, e := Diff(c.old, c.fresh, c.context)
		if e != c.want {
			t.Errorf("%s: Diff = %d, want %d", c.name, e, c.want)
		}
		if e != api.OK && p.Hunks != nil {
			t.Errorf("%s: Diff tells hunks with an error", c.name)
		}
	}
}

// mixedText: lines, each one of kinds many, always the same for one seed.
func mixedText(lines, kinds int, seed uint32) string {
	var b strings.Builder
	for range lines {
		seed = seed*1664525 + 1013904223
		fmt.Fprintf(&b, "%d\n", int(seed>>16)%kinds)
	}
	return b.String()
}

// sewn: what the hunks make of old's lines, each at its own place; it is an error if a place or a line is wrong.
func sewn(old []string, p api.Patch) ([]string, error) {
	var fresh []string
	gone := 0
	for _, h := range p.Hunks {
		place, newPlace := h.From, h.To
		if h.FromCount > 0 {
			place--
		}
		if h.ToCount > 0 {
			newPlace--
		}
		if place < gone || place > len(old) {
			return nil, fmt.Errorf("a hunk stands at %d", place)
		}
		fresh = append(fresh, old[gone:place]...)
		if gone = place; newPlace != len(fresh) {
			return nil, fmt.Errorf("a hunk's new place is %d, not %d", newPlace, len(fresh))
		}
		for _, l := range h.Lines {
			if l.Kind != api.Add {
				if gone == len(old) || old[gone] != l.Text {
					return nil, fmt.Errorf("line %d is not %q", gone, l.Text)
				}
				gone++
			}
			if l.Kind != api.Drop {
				fresh = append(fresh, l.Text)
			}
		}
		if gone != place+h.FromCount || len(fresh) != newPlace+h.ToCount {
			return nil, fmt.Errorf("a hunk's counts are %d and %d", h.FromCount, h.ToCount)
		}
	}
	return append(fresh, old[gone:]...), nil
}

// longestKeeps: the most keeps ahead of, between and behind the changes of a hunk.
func longestKeeps(h api.Hunk) (ahead, between, behind int) {
	run, changed := 0, false
	for _, l := range h.Lines {
		if l.Kind == api.Keep {
			run++
			continue
		}
		if changed {
			between = max(between, run)
		} else {
			ahead = run
		}
		run, changed = 0, true
	}
	return ahead, between, run
}

func TestDiffOfManyTexts(t *testing.T) {
	for seed := range uint32(60) {
		old := mixedText(int(seed)*3, 4+int(seed), seed)
		fresh := mixedText(int(seed)*2+9, 4+int(seed), seed+1)
		if seed%2 == 0 {
			lines := linesOf(old)
			for i := 0; i < len(lines); i += 7 + int(seed)%9 {
				lines[i] = "new"
			}
			fresh = textOf(strings.Join(append(lines, ""), "|"))
		}
		for context := range api.MaxContext + 1 {
			p, e := Diff(old, fresh, context)
			got, err := sewn(linesOf(old), p)
			if e != api.OK || err != nil || strings.Join(got, "\n") != strings.Join(linesOf(fresh), "\n") {
				t.Fatalf("seed %d, context %d: error %d, %v: %s", seed, context, e, err, tell(p))
			}
			checkContext(t, p, len(linesOf(old)), context)
		}
	}
}

// checkContext: whether each hunk has as many keeps as it must, and no two ought to be one.
func checkContext(t *testing.T, p api.Patch, lines, context int) {
	t.Helper()
	end := 0
	for i, h := range p.Hunks {
		place := h.From
		if h.FromCount > 0 {
			place--
		}
		ahead, between, behind := longestKeeps(h)
		if ahead != min(context, place+ahead) || between > 2*context || behind != min(context, lines-place-h.FromCount+behind) {
			t.Errorf("context %d: hunk %d has %d keeps ahead, %d between, %d behind: %s", context, i, ahead, between, behind, tell(p))
		}
		if i > 0 && place <= end {
			t.Errorf("context %d: hunks %d and %d are one: %s", context, i-1, i, tell(p))
		}
		end = place + h.FromCount
	}
}

func TestDiffAnswersNewMemory(t *testing.T) {
	old, fresh := "a\nk\nb\nk\nc\n", "x\nk\ny\nk\nz\n"
	p, _ := Diff(old, fresh, 0)
	before := tell(p)
	if len(p.Hunks) != 3 {
		t.Fatalf("Diff = %q, want three hunks", before)
	}
	for _, h := range p.Hunks {
		spare := h.Lines[len(h.Lines):cap(h.Lines)]
		for i := range spare {
			spare[i] = api.Line{Kind: '?', Text: "?"}
		}
	}
	if tell(p) != before {
		t.Errorf("hunks share their spare room: %q, was %q", tell(p), before)
	}
	for _, h := range p.Hunks {
		for i, l := range h.Lines {
			if within(l.Text, old) || within(l.Text, fresh) {
				t.Errorf("the line %q is a piece of what was handed in", l.Text)
			}
			h.Lines[i] = api.Line{}
		}
	}
	if q, _ := Diff(old, fresh, 0); tell(q) != before {
		t.Errorf("a second Diff = %q, want %q", tell(q), before)
	}
}

// within: whether a piece lies in the memory of the whole.
func within(piece, whole string) bool {
	at := uintptr(unsafe.Pointer(unsafe.StringData(piece)))
	begin := uintptr(unsafe.Pointer(unsafe.StringData(whole)))
	return piece != "" && at >= begin && at < begin+uintptr(len(whole))
}

func TestDiffHangsOnItsArgumentsAlone(t *testing.T) {
	old, fresh := mixedText(150, 5, 1), mixedText(150, 5, 2)
	want, _ := Diff(old, fresh, 2)
	answers := make(chan api.Patch)
	for range 8 {
		go func() {
			p, _ := Diff(old, fresh, 2)
			answers <- p
		}()
	}
	for range 8 {
		if got := <-answers; !reflect.DeepEqual(got, want) {
			t.Error("Diff tells two patches of the same texts")
		}
	}
}
