package darning

import (
	"strings"

	"darning/api"
	"darning/way"
)

// checkInline tells the first error that applies to what Inline is given.
func checkInline(old, fresh string) api.Errno {
	switch {
	case len(old) > api.MaxLine || len(fresh) > api.MaxLine:
		return api.ErrLarge
	case strings.Contains(old, "\n") || strings.Contains(fresh, "\n"):
		return api.ErrText
	}
	return api.OK
}

// lettersOf a line. Each is cut out from where it begins to where the next one
// does: the rune itself would not tell a byte that is no part of one from U+FFFD,
// nor two such bytes from one another.
func lettersOf(line string) []string {
	var letters []string
	begin := 0
	for at := range line {
		if at > begin {
			letters = append(letters, line[begin:at])
			begin = at
		}
	}
	if begin < len(line) {
		letters = append(letters, line[begin:])
	}
	return letters
}

// runsOf a way between letters.
func runsOf(steps []way.Step) []api.Run {
	var runs []api.Run
	for begin := 0; begin < len(steps); {
		var text strings.Builder
		kind, end := steps[begin].Kind, begin
		for end < len(steps) && steps[end].Kind == kind {
			text.WriteString(steps[end].Text)
			end++
		}
		runs = append(runs, api.Run{Kind: kind, Text: text.String()})
		begin = end
	}
	return runs
}
