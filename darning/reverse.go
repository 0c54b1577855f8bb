package darning

import (
	"strings"

	"darning/api"
)

// reversed hunk: from the new text to the old one.
func reversed(h api.Hunk) api.Hunk {
	return api.Hunk{
		From: h.To, FromCount: h.ToCount,
		To: h.From, ToCount: h.FromCount,
		Lines: reversedLines(h.Lines),
	}
}

// reversedLines of a hunk. Adds wait for the next keep, so that the drops beside
// them stand ahead of them.
func reversedLines(lines []api.Line) []api.Line {
	turned := make([]api.Line, 0, len(lines))
	var adds []api.Line
	for _, l := range lines {
		text := strings.Clone(l.Text)
		switch l.Kind {
		case api.Drop:
			adds = append(adds, api.Line{Kind: api.Add, Text: text})
		case api.Add:
			turned = append(turned, api.Line{Kind: api.Drop, Text: text})
		default:
			turned = append(turned, adds...)
			adds = adds[:0]
			turned = append(turned, api.Line{Kind: api.Keep, Text: text})
		}
	}
	return append(turned, adds...)
}
