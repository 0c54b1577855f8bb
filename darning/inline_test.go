package darning

import (
	"strings"
	"testing"

	"darning/api"
)

// tellRuns: each run's kind and text, with a bar behind it.
func tellRuns(runs []api.Run) string {
	var b strings.Builder
	for _, r := range runs {
		b.WriteString(string(rune(r.Kind)) + r.Text + "|")
	}
	return b.String()
}

func TestInlineTellsRuns(t *testing.T) {
	for _, c := range []struct{ name, old, fresh, want string }{
		{"example", "café", "cafe!", " caf|-é|+e!|"},
		{"nothing", "", "", ""},
		{"from nothing", "", "né", "+né|"},
		{"to nothing", "né", "", "-né|"},
		{"the same", "été", "été", " été|"},
		{"nothing is the same", "ab", "cd", "-ab|+cd|"},
		{"drop rather than add", "ab", "ba", "-a| b|+a|"},
		{"the first of equals is kept", "aa", "a", " a|-a|"},
		{"many runs", "kitten", "sitting", "-k|+s| itt|-e|+i| n|+g|"},
		{"runes that share their first byte", "é", "è", "-é|+è|"},
		{"runes that share their last byte", "é", "ĩ", "-é|+ĩ|"},
		{"runes of four bytes", "a😀b", "a😁b", " a|-😀|+😁| b|"},
		{"a mark is a letter of its own", "e\u0301", "e", " e|-\u0301|"},
		{"bytes of no rune are letters", "\xff\xfe", "\xfe", "-\xff| \xfe|"},
		{"two bytes of no rune are not the same", "\xff", "\xfe", "-\xff|+\xfe|"},
		{"a byte of no rune is not U+FFFD", "\xff", "\ufffd", "-\xff|+\ufffd|"},
		{"U+FFFD is one letter", "\ufffd", "\xef\xbf", "-\ufffd|+\xef\xbf|"},
		{"a rune cut off", "a\xe8\xaa", "a\xaa", " a|-\xe8| \xaa|"},
		{"a rune cut off is not a piece of a whole one", "\xc3", "é", "-\xc3|+é|"},
		{"half a pair", "\xed\xa0\x80", "\xed\x80", " \xed|-\xa0| \x80|"},
		{"more bytes than needed", "\xc0\x80", "\x80", "-\xc0| \x80|"},
		{"beyond the last rune", "\xf4\x90\x80\x80", "\x90", "-\xf4| \x90|-\x80\x80|"},
		{"other ends of lines", "a\r", "a\x00", " a|-\r|+\x00|"},
	} {
		runs, e := Inline(c.old, c.fresh)
		if got := tellRuns(runs); e != api.OK || got != c.want {
			t.Errorf("%s: Inline(%q, %q) = %q, %d, want %q", c.name, c.old, c.fresh, got, e, c.want)
		}
	}
}

func TestInlineAnswersTheFirstErrorThatApplies(t *testing.T) {
	longest := strings.Repeat("x", api.MaxLine)
	for _, c := range []struct {
		name, old, fresh string
		want             api.Errno
	}{
		{"old is too long", longest + "x", "", api.ErrLarge},
		{"fresh is too long", "", longest + "x", api.ErrLarge},
		{"bytes count, not letters", strings.Repeat("é", api.MaxLine/2) + "x", "", api.ErrLarge},
		{"large ahead of newline", "\n", longest + "x", api.ErrLarge},
		{"large and newline at once", longest + "\n", "", api.ErrLarge},
		{"old has a newline", "a\n", "", api.ErrText},
		{"fresh has a newline", "", "\na", api.ErrText},
		{"as long as it may be, with a newline", longest[1:] + "\n", "", api.ErrText},
		{"as long as they may be", longest, strings.Repeat("y", api.MaxLine), api.OK},
	} {
		runs, e := Inline(c.old, c.fresh)
		if e != c.want {
			t.Errorf("%s: Inline = %d, want %d", c.name, e, c.want)
		}
		if e != api.OK && runs != nil {
			t.Errorf("%s: Inline tells runs with an error", c.name)
		}
	}
}

func TestInlineOfTheLongestLines(t *testing.T) {
	old, fresh := strings.Repeat("ab", api.MaxLine/2), strings.Repeat("ba", api.MaxLine/2)
	want := "-a| " + old[1:] + "|+a|"
	if runs, e := Inline(old, fresh); e != api.OK || tellRuns(runs) != want {
		t.Errorf("Inline = %q, %d, want %q", tellRuns(runs), e, want)
	}
}

func TestInlineAnswersNewMemory(t *testing.T) {
	old, fresh := "abc", "axc"
	runs, _ := Inline(old, fresh)
	before := tellRuns(runs)
	for i, r := range runs {
		if within(r.Text, old) || within(r.Text, fresh) {
			t.Errorf("the run %q is a piece of what was handed in", r.Text)
		}
		runs[i] = api.Run{}
	}
	if again, _ := Inline(old, fresh); tellRuns(again) != before {
		t.Errorf("a second Inline = %q, want %q", tellRuns(again), before)
	}
}

// FuzzInline: the runs, put together, are both lines again, and no two beside one another are of one kind.
func FuzzInline(f *testing.F) {
	f.Add("café", "cafe!")
	f.Add("\xc3x\xa9", "\xc3\xa8")
	f.Add("\xed\xa0\x80", "\ufffd")
	f.Fuzz(func(t *testing.T, old, fresh string) {
		runs, e := Inline(old, fresh)
		if e != api.OK {
			return
		}
		a, b := "", ""
		for i, r := range runs {
			if r.Kind != api.Add {
				a += r.Text
			}
			if r.Kind != api.Drop {
				b += r.Text
			}
			if r.Text == "" || i > 0 && runs[i-1].Kind == r.Kind {
				t.Errorf("Inline(%q, %q) = %q", old, fresh, tellRuns(runs))
			}
		}
		if a != old || b != fresh {
			t.Errorf("Inline(%q, %q) goes from %q to %q", old, fresh, a, b)
		}
	})
}
