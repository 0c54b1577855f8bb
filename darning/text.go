package darning

import (
	"strings"

	"darning/api"
)

// isText tells whether each line has a newline behind it.
func isText(s string) bool {
	return s == "" || strings.HasSuffix(s, "\n")
}

// tooLarge tells whether a text is beyond a limit.
func tooLarge(text string) bool {
	return len(text) > api.MaxText || strings.Count(text, "\n") > api.MaxLines
}

// linesOf a text, without their newlines.
func linesOf(text string) []string {
	if text == "" {
		return nil
	}
	return strings.Split(strings.TrimSuffix(text, "\n"), "\n")
}
