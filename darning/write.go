package darning

import (
	"strconv"
	"strings"

	"darning/api"
)

// Marks of a hunk's header, shared by what writes and what reads it.
const (
	headBegin  = "@@ -"
	headMiddle = " +"
	headEnd    = " @@"
	headComma  = ","
)

// written tells the text of a right patch, or that it is too large. It stops at
// the limit, so that a patch far beyond it costs no more than one beside it.
func written(p api.Patch) (string, bool) {
	var b strings.Builder
	for _, h := range p.Hunks {
		b.WriteString(header(h))
		for _, l := range h.Lines {
			if b.Len()+len(l.Text) > api.MaxPatch {
				return "", false
			}
			b.WriteByte(l.Kind)
			b.WriteString(l.Text)
			b.WriteByte('\n')
		}
	}
	return b.String(), b.Len() <= api.MaxPatch
}

// header of a hunk, with its newline.
func header(h api.Hunk) string {
	return headBegin + span(h.From, h.FromCount) + headMiddle + span(h.To, h.ToCount) + headEnd + "\n"
}

// span of lines, as a header tells it.
func span(first, count int) string {
	return strconv.Itoa(first) + headComma + strconv.Itoa(count)
}
