package way

import (
	"slices"
	"strings"
	"testing"
)

// rank: how the document orders kinds at the first step in which ways differ.
const rank = " -+"

// kinds of a way's steps, as one text.
func kinds(steps []Step) string {
	var b strings.Builder
	for _, s := range steps {
		b.WriteByte(s.Kind)
	}
	return b.String()
}

// changes: the drops and adds of a way.
func changes(way string) int { return len(way) - strings.Count(way, " ") }

// better: whether the document prefers way a to way b.
func better(a, b string) bool {
	if changes(a) != changes(b) {
		return changes(a) < changes(b)
	}
	for i := 0; i < len(a) && i < len(b); i++ {
		if a[i] != b[i] {
			return strings.IndexByte(rank, a[i]) < strings.IndexByte(rank, b[i])
		}
	}
	return false
}

// all ways from one row to another, by trying every step.
func all(old, fresh []string, ahead string, tell func(string)) {
	if len(old) == 0 && len(fresh) == 0 {
		tell(ahead)
		return
	}
	if len(old) > 0 && len(fresh) > 0 && old[0] == fresh[0] {
		all(old[1:], fresh[1:], ahead+" ", tell)
	}
	if len(old) > 0 {
		all(old[1:], fresh, ahead+"-", tell)
	}
	if len(fresh) > 0 {
		all(old, fresh[1:], ahead+"+", tell)
	}
}

// best of all ways.
func best(old, fresh []string) string {
	found, first := "", true
	all(old, fresh, "", func(w string) {
		if first || better(w, found) {
			found, first = w, false
		}
	})
	return found
}

// rows of up to most of the given letters.
func rows(letters string, most int) [][]string {
	list := [][]string{nil}
	for from := 0; most > 0; most-- {
		to := len(list)
		for ; from < to; from++ {
			for _, l := range letters {
				list = append(list, append(slices.Clone(list[from]), string(l)))
			}
		}
	}
	return list
}

// goesThrough: whether the steps go through both rows from the first to the last.
func goesThrough(steps []Step, old, fresh []string) bool {
	var a, b []string
	for _, s := range steps {
		if s.Kind != '+' {
			a = append(a, s.Text)
		}
		if s.Kind != '-' {
			b = append(b, s.Text)
		}
	}
	return slices.Equal(a, old) && slices.Equal(b, fresh)
}

func TestFindIsTheBestOfAllWays(t *testing.T) {
	for _, list := range [][][]string{rows("ab", 5), rows("abc", 4)} {
		for _, old := range list {
			for _, fresh := range list {
				got, want := Find(old, fresh), best(old, fresh)
				if kinds(got) != want || !goesThrough(got, old, fresh) {
					t.Fatalf("Find(%q, %q) = %q, want %q", old, fresh, got, want)
				}
			}
		}
	}
}

// slow finds the way by a table of the distances to the end.
func slow(old, fresh []string) string {
	left := make([][]int, len(old)+1)
	for x := len(old); x >= 0; x-- {
		left[x] = make([]int, len(fresh)+1)
		for y := len(fresh); y >= 0; y-- {
			switch {
			case x == len(old):
				left[x][y] = len(fresh) - y
			case y == len(fresh):
				left[x][y] = len(old) - x
			default:
				left[x][y] = 1 + min(left[x+1][y], left[x][y+1])
				if old[x] == fresh[y] {
					left[x][y] = min(left[x][y], left[x+1][y+1])
				}
			}
		}
	}
	var b strings.Builder
	for x, y := 0, 0; x < len(old) || y < len(fresh); {
		switch {
		case x < len(old) && y < len(fresh) && old[x] == fresh[y] && left[x][y] == left[x+1][y+1]:
			b.WriteByte(' ')
			x, y = x+1, y+1
		case x < len(old) && left[x][y] == left[x+1][y]+1:
			b.WriteByte('-')
			x++
		default:
			b.WriteByte('+')
			y++
		}
	}
	return b.String()
}

// mixed: a row of things, each one of kinds many, always the same for one seed.
func mixed(length, kinds int, seed uint32) []string {
	row := make([]string, length)
	for i := range row {
		seed = seed*1664525 + 1013904223
		row[i] = string(rune('a' + int(seed>>16)%kinds))
	}
	return row
}

func TestFindOfLongRows(t *testing.T) {
	for _, lengths := range [][2]int{{200, 200}, {200, 30}, {1, 200}, {200, 0}, {0, 200}, {57, 61}} {
		for seed, many := range []int{1, 2, 3, 5, 20, 1000} {
			old := mixed(lengths[0], many, uint32(seed))
			fresh := mixed(lengths[1], many, uint32(seed)+77)
			got, want := Find(old, fresh), slow(old, fresh)
			if kinds(got) != want || !goesThrough(got, old, fresh) {
				t.Errorf("Find of %d and %d of %d kinds = %q, want %q", lengths[0], lengths[1], many, kinds(got), want)
			}
		}
	}
}

func TestFindLeavesTheRowsAsTheyWere(t *testing.T) {
	old, fresh := mixed(40, 3, 1), mixed(40, 3, 2)
	oldCopy, freshCopy := slices.Clone(old), slices.Clone(fresh)
	Find(old, fresh)
	if !slices.Equal(old, oldCopy) || !slices.Equal(fresh, freshCopy) {
		t.Error("Find changed a row")
	}
}

func BenchmarkFindNothingKept(b *testing.B) {
	old, fresh := slices.Repeat([]string{"a"}, 200), slices.Repeat([]string{"b"}, 200)
	for b.Loop() {
		Find(old, fresh)
	}
}
