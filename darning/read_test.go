package darning

import (
	"reflect"
	"strings"
	"testing"

	"darning/api"
)

func TestReadTellsThePatch(t *testing.T) {
	for _, c := range rightPatches {
		p, at, e := Read(textOf(c.told))
		if e != api.OK || at != 0 || !reflect.DeepEqual(p, untell(c.told)) {
			t.Errorf("%s: Read = %q, %d, %d, want %q", c.name, tell(p), at, e, c.told)
		}
	}
}

func TestReadTellsTheLine(t *testing.T) {
	for _, c := range []struct {
		name, told string
		at         int
	}{
		{"a line ahead of all hunks", "-a|@@ -1,1 +0,0 @@|-a|", 0},
		{"an empty line ahead of all hunks", "|@@ -1,1 +0,0 @@|-a|", 0},
		{"an empty line behind a hunk", "@@ -1,1 +0,0 @@|-a||", 2},
		{"an empty line within a hunk", "@@ -1,1 +0,0 @@||-a|", 1},
		{"a line of no kind", "@@ -1,1 +0,0 @@|a|", 1},
		{"a line of another kind", "@@ -1,1 +0,0 @@|\\a|", 1},
		{"an add too much", "@@ -1,1 +1,1 @@|+b|+b|-a|", 2},
		{"a drop too much", "@@ -1,1 +1,1 @@|-a|-a|+b|", 2},
		{"an add in a hunk of drops", "@@ -1,1 +0,0 @@|+a|", 1},
		{"a drop in a hunk of adds", "@@ -0,0 +1,1 @@|-a|", 1},
		{"a keep in a hunk of drops", "@@ -1,1 +0,0 @@| a|", 1},
		{"a keep in a hunk of adds", "@@ -0,0 +1,1 @@| a|", 1},
		{"a keep where only an old line is to come", "@@ -1,3 +1,2 @@| a| b| c|", 3},
		{"a keep where only a new line is to come", "@@ -1,2 +1,3 @@| a| b| c|", 3},
		{"a drop where none of the old is to come", "@@ -1,1 +1,2 @@| a|-a|", 2},
		{"an add where none of the new is to come", "@@ -1,2 +1,1 @@| a|+a|", 2},
		{"a line behind a full hunk", "@@ -1,1 +0,0 @@|-a|-a|", 2},
		{"a keep behind a full hunk", "@@ -1,1 +0,0 @@|-a| a|", 2},
		{"a header behind a hunk that is not full", "@@ -1,2 +0,0 @@|-a|@@ -5,1 +3,0 @@|-b|", 2},
		{"a header behind a header", "@@ -1,1 +0,0 @@|@@ -1,1 +0,0 @@|-a|", 1},
		{"a header behind keeps alone", "@@ -1,2 +1,2 @@| a| b|@@ -5,1 +4,0 @@|-b|", 3},
		{"a header behind a hunk of nothing", "@@ -0,0 +0,0 @@|@@ -1,1 +0,0 @@|-a|", 1},
		{"a line behind keeps alone", "@@ -1,1 +1,1 @@| a|-b|", 2},
		{"keeps alone at the end", "@@ -1,2 +1,2 @@| a| b|", 3},
		{"keeps alone at the end, behind a right hunk", "@@ -1,1 +0,0 @@|-a|@@ -3,1 +2,1 @@| b|", 4},
		{"nothing at the end", "@@ -0,0 +0,0 @@|", 1},
		{"nothing at the end, behind a right hunk", "@@ -1,1 +0,0 @@|-a|@@ -1,0 +0,0 @@|", 3},
		{"all lines are missing", "@@ -1,1 +1,1 @@|", 1},
		{"an old line is missing", "@@ -1,2 +1,1 @@|-a|+b|", 3},
		{"a new line is missing", "@@ -1,1 +1,2 @@|-a|+b|", 3},
		{"the most lines that can be are missing", "@@ -1,100000 +1,100000 @@|-a|", 2},
		{"the first of two wrong lines", "@@ -1,1 +0,0 @@|-a|x|y|", 2},
		{"a wrong line ahead of a missing one", "@@ -1,3 +0,0 @@|-a|x|", 2},
		{"a second hunk within the first", "@@ -1,2 +1,1 @@| a|-b|@@ -2,1 +1,0 @@|-c|", 3},
		{"a second hunk ahead of the first", "@@ -5,1 +4,0 @@|-a|@@ -2,1 +0,0 @@|-b|", 2},
		{"the new place of the second hunk", "@@ -1,1 +0,0 @@|-a|@@ -3,1 +2,0 @@|-c|", 2},
		{"the new place of the third hunk", "@@ -1,1 +0,0 @@|-a|@@ -3,1 +1,0 @@|-c|@@ -5,1 +3,0 @@|-e|", 4},
		{"numbers ahead of what stands in the hunk", "@@ -0,1 +0,0 @@|x|", 0},
	} {
		if p, at, e := Read(textOf(c.told)); p.Hunks != nil || at != c.at || e != api.ErrPatch {
			t.Errorf("%s: Read(%q) = %q, %d, %d, want ErrPatch at line %d", c.name, c.told, tell(p), at, e, c.at)
		}
	}
}

func TestReadIsStrictWithHeaders(t *testing.T) {
	ahead, behind := "@@ -1,1 +1,1 @@\n-a\n+b\n", "\n-a\n+b\n"
	if _, at, e := Read(ahead + "@@ -5,1 +5,1 @@" + behind); at != 0 || e != api.OK {
		t.Fatalf("Read of a right header = %d, %d", at, e)
	}
	for _, header := range []string{
		"", "@", "@@", "@@ ", "@@ -", "@@ @@", "@@ -5", "@@ -5,1", "@@ -5,1 +", "@@ -5,1 +5,1", "@@ -5,1 +5,1 ",
		"@@ -5,1 +5,1 @", "@@ -5,1 +5,1 @@ ", "@@ -5,1 +5,1 @@@", "@@ -5,1 +5,1 @@ f()", "@@ -5,1 +5,1 @@\r",
		"5,1 +5,1 @@", "-5,1 +5,1 @@", "@ -5,1 +5,1 @@", "5,1 +5,1",
		" @@ -5,1 +5,1 @@", "@@@ -5,1 +5,1 @@", "@@-5,1 +5,1 @@", "@@  -5,1 +5,1 @@", "@@ 5,1 +5,1 @@",
		"@@ -5,1  +5,1 @@", "@@ -5,1 5,1 @@", "@@ -5,1+5,1 @@", "@@ -5,1 -5,1 @@", "@@ +5,1 -5,1 @@",
		"@@ -5,1 +5,1@@", "@@ -5,1 +5,1  @@", "@@ - 5,1 +5,1 @@", "@@ -5 ,1 +5,1 @@", "@@ -5, 1 +5,1 @@",
		"@@ -5,1 + 5,1 @@", "@@\t-5,1 +5,1 @@", "@@ -5,1\t+5,1 @@", "@@ -5 +5 @@", "@@ -5,1 +5 @@", "@@ -5 +5,1 @@",
		"@@ -5,1,1 +5,1 @@", "@@ -5,1 +5,1,1 @@", "@@ -5,1 +5,1 +5,1 @@", "@@ -5,1 +5,1 @@ @@", "@@ -,1 +5,1 @@",
		"@@ -5, +5,1 @@", "@@ -5,1 +,1 @@", "@@ -5,1 +5, @@", "@@ -, +, @@", "@@ -05,1 +5,1 @@", "@@ -5,01 +5,1 @@",
		"@@ -5,1 +05,1 @@", "@@ -5,1 +5,01 @@", "@@ --5,1 +5,1 @@", "@@ -+5,1 +5,1 @@", "@@ -5,+1 +5,1 @@",
		"@@ -5,1 ++5,1 @@", "@@ -5,1 +5,-1 @@", "@@ -5,1 +5,+1 @@", "@@ -5,-1 +5,1 @@", "@@ -5,1 +-5,1 @@",
		"@@ -0x5,1 +5,1 @@", "@@ -5.0,1 +5,1 @@", "@@ -5e0,1 +5,1 @@", "@@ -1_0,1 +10,1 @@", "@@ -٥,1 +5,1 @@",
		"@@ -5,1 +5,1\x00 @@", "@@ -five,1 +five,1 @@",
		"@@ -0,1 +0,1 @@", "@@ -0,1 +5,1 @@", "@@ -5,1 +0,1 @@", "@@ -5,1 +6,1 @@", "@@ -6,1 +5,1 @@", "@@ -1,1 +1,1 @@",
		"@@ -4,0 +4,1 @@", "@@ -5,1 +5,0 @@", "@@ -00,0 +5,1 @@", "@@ -4,00 +5,1 @@", "@@ -5,1 +4,00 @@", "@@ -4,-0 +5,1 @@",
		"@@ -5,100001 +5,1 @@", "@@ -5,1 +5,100001 @@", "@@ -100001,1 +100001,1 @@", "@@ -100001,0 +100002,1 @@",
		"@@ -100000,0 +100001,1 @@", "@@ -100001,1 +100000,0 @@", "@@ -9223372036854775808,1 +9223372036854775808,1 @@",
		"@@ -18446744073709551621,1 +18446744073709551621,1 @@", "@@ -5,18446744073709551617 +5,18446744073709551617 @@",
		"@@ -4294967301,1 +4294967301,1 @@",
	} {
		if p, at, e := Read(ahead + header + behind); p.Hunks != nil || at != 3 || e != api.ErrPatch {
			t.Errorf("Read with the header %q = %q, %d, %d, want ErrPatch at line 3", header, tell(p), at, e)
		}
	}
}

// TestReadOfATextCutOff: at each byte; it is right only where a hunk is full.
func TestReadOfATextCutOff(t *testing.T) {
	told := "@@ -1,1 +1,2 @@|-a|+b|+|@@ -4,2 +5,1 @@| k|-é|@@ -9,1 +8,0 @@|--|"
	text := textOf(told)
	for cut := range len(text) {
		whole := strings.Count(text[:cut], "\n")
		p, at, e := Read(text[:cut])
		ends := cut == 0 || strings.HasPrefix(text[cut:], "@@ -") && text[cut-1] == '\n'
		if ends && (e != api.OK || at != 0 || tell(p) != told[:cut]) {
			t.Errorf("Read(%q) = %q, %d, %d, want a patch", text[:cut], tell(p), at, e)
		}
		if !ends && (e != api.ErrPatch || at != whole || p.Hunks != nil) {
			t.Errorf("Read(%q) = %q, %d, %d, want ErrPatch at line %d", text[:cut], tell(p), at, e, whole)
		}
	}
}

func TestReadOfALastLineWithoutANewline(t *testing.T) {
	for _, c := range []struct {
		told string
		at   int
	}{
		{"x", 0}, {"@@ -1,1 +0,0 @@", 0}, {"@@ -1,1 +0,0 @@|-a", 1}, {"@@ -1,1 +0,0 @@|x", 1},
		{"@@ -1,1 +0,0 @@|-a|x", 2}, {"@@ -1,1 +0,0 @@|-a|@@ -3,1 +1,0 @@", 2},
		{"@@ -1,1 +1,1 @@| a|x", 2}, {"@@ -1,1 +0,0 @@|x|-a", 1}, {"x|x", 0},
	} {
		if p, at, e := Read(textOf(c.told)); p.Hunks != nil || at != c.at || e != api.ErrPatch {
			t.Errorf("Read(%q) = %q, %d, %d, want ErrPatch at line %d", c.told, tell(p), at, e, c.at)
		}
	}
}

func TestReadStopsAtTheLimit(t *testing.T) {
	longest, _ := Write(sizedPatch(api.MaxPatch))
	longer := strings.Replace(longest, "+x", "+xx", 1)
	if p, at, e := Read(longest); e != api.OK || at != 0 || len(p.Hunks) != 1 {
		t.Errorf("Read of MaxPatch bytes = %d hunks, %d, %d", len(p.Hunks), at, e)
	}
	for _, s := range []string{longer, longest + "x", longest + "\n", strings.Repeat("\n", api.MaxPatch+1)} {
		if p, at, e := Read(s); e != api.ErrLarge || at != 0 || p.Hunks != nil {
			t.Errorf("Read of %d bytes = %d hunks, %d, %d, want ErrLarge", len(s), len(p.Hunks), at, e)
		}
	}
	wrong := longest[:api.MaxPatch-2] + "\n\n"
	if p, at, e := Read(wrong); e != api.ErrPatch || at != 3 || p.Hunks != nil {
		t.Errorf("Read of MaxPatch bytes that are wrong at the end = %d, %d, want ErrPatch at line 3", at, e)
	}
}

func TestReadAnswersNewMemory(t *testing.T) {
	text := textOf("@@ -1,1 +1,2 @@|-a|+b|+c|@@ -4,2 +5,1 @@| k|-d|@@ -9,1 +8,0 @@|-e|")
	p, _, e := Read(text)
	before := tell(p)
	if e != api.OK || textOf(before) != text {
		t.Fatalf("Read = %q, %d", before, e)
	}
	checkOwnMemory(t, p, text)
	for i := range p.Hunks {
		p.Hunks[i].Lines[0] = api.Line{}
	}
	if q, _, _ := Read(text); tell(q) != before {
		t.Errorf("a second Read = %q, want %q", tell(q), before)
	}
}

// TestWhatIsWrittenIsReadAgain: of what Diff tells.
func TestWhatIsWrittenIsReadAgain(t *testing.T) {
	for seed := range uint32(60) {
		for context := range api.MaxContext + 1 {
			_, _, p := longPatch(t, seed, context)
			text, e := Write(p)
			if e != api.OK || text != textOf(tell(p)) {
				t.Fatalf("seed %d, context %d: Write = %q, %d", seed, context, text, e)
			}
			if got, at, e := Read(text); e != api.OK || at != 0 || !reflect.DeepEqual(got, p) {
				t.Fatalf("seed %d, context %d: Read = %q, %d, %d, want %q", seed, context, tell(got), at, e, tell(p))
			}
		}
	}
}

// FuzzRead: what is read is written the same; a wrong line hangs on nothing behind it.
func FuzzRead(f *testing.F) {
	for _, c := range rightPatches {
		f.Add(textOf(c.told))
	}
	f.Add("@@ -1,2 +1,2 @@\n a\n b\n@@ -5,1 +4,0 @@\n-b\n")
	f.Add("@@ -0,0 +0,0 @@\n")
	f.Fuzz(func(t *testing.T, text string) {
		p, at, e := Read(text)
		switch e {
		case api.OK:
			if again, e := Write(p); again != text || e != api.OK || at != 0 {
				t.Errorf("Read(%q), %d, written is %q, %d", text, at, again, e)
			}
		case api.ErrLarge:
			if len(text) <= api.MaxPatch || at != 0 || p.Hunks != nil {
				t.Errorf("Read of %d bytes = %d, %d", len(text), at, e)
			}
		default:
			checkWrongLine(t, text, at)
			if p.Hunks != nil || e != api.ErrPatch {
				t.Errorf("Read(%q) = %q, %d, %d", text, tell(p), at, e)
			}
		}
	})
}

// checkWrongLine: the lines ahead of it are right or too few, and with it they are wrong, whatever stands behind.
func checkWrongLine(t *testing.T, text string, at int) {
	lines := strings.SplitAfter(text, "\n")
	if at > strings.Count(text, "\n") {
		t.Fatalf("Read(%q): there is no line %d", text, at)
	}
	ahead := strings.Join(lines[:at], "")
	if _, where, e := Read(ahead); e != api.OK && where != at {
		t.Errorf("Read(%q) = %d, %d, but with more lines %d", ahead, where, e, at)
	}
	if _, where, e := Read(ahead + lines[at]); e != api.ErrPatch || where != at {
		t.Errorf("Read(%q) = %d, %d, but with more lines %d", ahead+lines[at], where, e, at)
	}
}
