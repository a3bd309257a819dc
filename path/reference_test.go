package path

import (
	"fmt"
	"regexp"
	"slices"
	"strings"
)

// The chapter's words a second time, in other means: patterns, and a walk from the last segment to the first.

var (
	refDot     = regexp.MustCompile(`^(\.|%2[eE])$`)
	refTwo     = regexp.MustCompile(`^(\.|%2[eE]){2}$`)
	refOne     = regexp.MustCompile(`/`)
	refBoth    = regexp.MustCompile(`[/\\]`)
	refWritten = regexp.MustCompile(`[\x00-\x20"#<>?^\x60{}\x7F]`)
)

func refEncode(segment string) string {
	var b strings.Builder
	for i := range len(segment) {
		x := segment[i : i+1]
		if x[0] > 126 || refWritten.MatchString(x) {
			fmt.Fprintf(&b, "%%%02X", x[0])
		} else {
			b.WriteString(x)
		}
	}
	return b.String()
}

// refParse goes from behind: each Double takes away the next segment ahead of it that is still to have.
func refParse(s string, special bool, base []string) []string {
	strokes := refOne
	if special {
		strokes = refBoth
	}
	cut := strokes.Split(s, -1)
	var out []string
	if last := cut[len(cut)-1]; refDot.MatchString(last) || refTwo.MatchString(last) {
		out = append(out, "")
	}
	owed := 0
	take := func(segment string) {
		if owed > 0 {
			owed--
		} else {
			out = append(out, segment)
		}
	}
	for _, segment := range slices.Backward(cut) {
		switch {
		case refTwo.MatchString(segment):
			owed++
		case !refDot.MatchString(segment):
			take(refEncode(segment))
		}
	}
	for _, segment := range slices.Backward(base) {
		take(segment)
	}
	slices.Reverse(out)
	return out
}

func refShow(l []string) string {
	return strings.Join(append([]string{""}, l...), "/")
}
