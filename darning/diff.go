package darning

import (
	"strings"

	"darning/api"
	"darning/way"
)

// checkDiff tells the first error that applies to what Diff is given.
func checkDiff(old, fresh string, context int) api.Errno {
	switch {
	case !isText(old) || !isText(fresh):
		return api.ErrText
	case tooLarge(old) || tooLarge(fresh):
		return api.ErrLarge
	case context < 0 || context > api.MaxContext:
		return api.ErrNumber
	}
	return api.OK
}

// hunksOf a way between lines.
func hunksOf(steps []way.Step, context int) []api.Hunk {
	var hunks []api.Hunk
	near := nearChange(steps, context)
	oldGone, freshGone := 0, 0
	for at, step := range steps {
		if near[at] {
			if at == 0 || !near[at-1] {
				hunks = append(hunks, api.Hunk{From: oldGone, To: freshGone})
			}
			addLine(&hunks[len(hunks)-1], step)
		}
		if step.Kind != api.Add {
			oldGone++
		}
		if step.Kind != api.Drop {
			freshGone++
		}
	}
	for i := range hunks {
		numberLines(&hunks[i])
	}
	return hunks
}

// nearChange tells of each step whether it belongs to a hunk.
func nearChange(steps []way.Step, context int) []bool {
	near := make([]bool, len(steps))
	for at, step := range steps {
		if step.Kind == api.Keep {
			continue
		}
		for i := max(at-context, 0); i <= at+context && i < len(steps); i++ {
			near[i] = true
		}
	}
	return near
}

// addLine puts a step at the end of a hunk. Its text is copied, so that the
// patch does not hold on to the texts it came from.
func addLine(h *api.Hunk, step way.Step) {
	h.Lines = append(h.Lines, api.Line{Kind: step.Kind, Text: strings.Clone(step.Text)})
	if step.Kind != api.Add {
		h.FromCount++
	}
	if step.Kind != api.Drop {
		h.ToCount++
	}
}

// numberLines turns a hunk's places into the numbers of its first lines; where
// it has none, the place already is the number of the line ahead of it.
func numberLines(h *api.Hunk) {
	if h.FromCount > 0 {
		h.From++
	}
	if h.ToCount > 0 {
		h.To++
	}
}
