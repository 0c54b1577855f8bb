package darning

import (
	"reflect"
	"strings"
	"testing"

	"darning/api"
)

func TestReverseTurnsThePatchRound(t *testing.T) {
	for _, c := range []struct{ name, told, want string }{
		{"nothing", "", ""},
		{"example, context 1", "@@ -1,3 +1,3 @@| a|-b|+x| c|", "@@ -1,3 +1,3 @@| a|-x|+b| c|"},
		{"example, from nothing", "@@ -0,0 +1,1 @@|+x|", "@@ -1,1 +0,0 @@|-x|"},
		{"to nothing", "@@ -1,2 +0,0 @@|-x|-y|", "@@ -0,0 +1,2 @@|+x|+y|"},
		{"drops and adds keep their order", "@@ -1,2 +1,3 @@|-a|-b|+c|+d|+e|", "@@ -1,3 +1,2 @@|-c|-d|-e|+a|+b|"},
		{"mixed drops and adds", "@@ -2,4 +2,4 @@|+1|-2|+3|-4| 5|-6|+7|", "@@ -2,4 +2,4 @@|-1|-3|+2|+4| 5|-7|+6|"},
		{"adds ahead of drops", "@@ -2,2 +2,2 @@|+a|-b| k|", "@@ -2,2 +2,2 @@|-a|+b| k|"},
		{"a keep parts them", "@@ -1,3 +1,2 @@|-a| k|-b|+c|", "@@ -1,2 +1,3 @@|+a| k|-c|+b|"},
		{"two keeps part them", "@@ -1,4 +1,4 @@|-a| k| l|+b|-c|+d|", "@@ -1,4 +1,4 @@|+a| k| l|-b|-d|+c|"},
		{"keeps at both ends", "@@ -1,2 +1,3 @@| k|+a| l|", "@@ -1,3 +1,2 @@| k|-a| l|"},
		{"hunks stay in their order", "@@ -1,1 +0,0 @@|-a|@@ -3,1 +2,2 @@|-c|+d|+e|", "@@ -0,0 +1,1 @@|+a|@@ -2,2 +3,1 @@|-d|-e|+c|"},
		{"hunks beside one another stay two", "@@ -1,1 +0,0 @@|-a|@@ -1,0 +1,1 @@|+b|", "@@ -0,0 +1,1 @@|+a|@@ -1,1 +1,0 @@|-b|"},
		{"empty lines", "@@ -1,2 +1,2 @@| |-|+x|", "@@ -1,2 +1,2 @@| |-x|+|"},
		{"the greatest numbers", "@@ -99999,0 +100000,1 @@|+b|", "@@ -100000,1 +99999,0 @@|-b|"},
	} {
		r, e := Reverse(untell(c.told))
		if e != api.OK || !reflect.DeepEqual(r, untell(c.want)) {
			t.Errorf("%s: Reverse(%q) = %q, %d, want %q", c.name, c.told, tell(r), e, c.want)
		}
	}
}

func TestWhatIsReversedIsRight(t *testing.T) {
	for _, c := range rightPatches {
		r, e := Reverse(untell(c.told))
		if _, wrong := Write(r); e != api.OK || wrong != api.OK {
			t.Errorf("%s: Reverse = %q, %d, and it is written with %d", c.name, tell(r), e, wrong)
		}
	}
}

func TestReverseHasNoLimitOfBytes(t *testing.T) {
	r, e := Reverse(addsPatch(100000))
	if e != api.OK || r.Hunks[0].FromCount != 100000 || len(r.Hunks[0].Lines) != 100000 {
		t.Errorf("Reverse of 100000 lines = %d", e)
	}
	if r, e := Reverse(sizedPatch(2 * api.MaxPatch)); e != api.OK || len(r.Hunks) != 1 {
		t.Errorf("Reverse of a long line = %d", e)
	}
}

// TestReverseLeadsBack: what Diff tells, reversed, makes the old text of the new one, and reversed again is the same.
func TestReverseLeadsBack(t *testing.T) {
	for seed := range uint32(60) {
		for context := range api.MaxContext + 1 {
			old, fresh, p := longPatch(t, seed, context)
			r, e := Reverse(p)
			got, err := sewn(linesOf(fresh), r)
			if e != api.OK || err != nil || strings.Join(got, "\n") != strings.Join(linesOf(old), "\n") {
				t.Fatalf("seed %d, context %d: error %d, %v: %s", seed, context, e, err, tell(r))
			}
			if again, e := Reverse(r); e != api.OK || !reflect.DeepEqual(again, p) {
				t.Fatalf("seed %d, context %d: reversed twice = %q, %d, want %q", seed, context, tell(again), e, tell(p))
			}
		}
	}
}

func TestReverseAnswersNewMemory(t *testing.T) {
	told := "@@ -1,2 +1,3 @@|+first| k|+b|-a|@@ -4,2 +5,1 @@| k|-d|"
	p := untell(told + "@@ -9,1 +9,0 @@|-behind|")
	behind := p.Hunks
	p.Hunks = p.Hunks[:2]
	r, e := Reverse(p)
	want := "@@ -1,3 +1,2 @@|-first| k|-b|+a|@@ -5,1 +4,2 @@| k|+d|"
	if e != api.OK || tell(r) != want {
		t.Fatalf("Reverse = %q, %d, want %q", tell(r), e, want)
	}
	checkOwnMemory(t, r, textsOf(behind)...)
	_ = append(r.Hunks, api.Hunk{From: 77})
	for i := range r.Hunks {
		clear(r.Hunks[i].Lines)
		r.Hunks[i].From = 77
	}
	if tell(p) != told || behind[2].From != 9 || behind[2].Lines[0].Text != "behind" {
		t.Errorf("what was handed in is %q, and behind it %v", tell(p), behind[2])
	}
	if r, _ := Reverse(p); tell(r) != want {
		t.Errorf("a second Reverse = %q, want %q", tell(r), want)
	}
}

// textsOf all lines of hunks.
func textsOf(hunks []api.Hunk) []string {
	var texts []string
	for _, h := range hunks {
		for _, l := range h.Lines {
			texts = append(texts, l.Text)
		}
	}
	return texts
}
