package rules

import (
	"slices"
	"strings"

	"shortcut/api"
	"shortcut/query"
)

// The chapter's words a second time, in other means: letters replaced one by one, and the library's own looking.

var refSmall = strings.NewReplacer("A", "a", "B", "b", "C", "c", "D", "d", "E", "e", "F", "f", "G", "g", "H", "h", "I", "i", "J", "j", "K", "k", "L", "l", "M", "m", "N", "n", "O", "o", "P", "p", "Q", "q", "R", "r", "S", "s", "T", "t", "U", "u", "V", "v", "W", "w", "X", "x", "Y", "y", "Z", "z")

func refOut(name string, rules []api.Rule) bool {
	name = refSmall.Replace(name)
	return slices.ContainsFunc(rules, func(r api.Rule) bool {
		own := refSmall.Replace(r.Name)
		switch {
		case own == "":
			return false
		case r.Front:
			return strings.HasPrefix(name, own)
		}
		return name == own
	})
}

func refStrip(l []api.Pair, rules []api.Rule) []api.Pair {
	return slices.DeleteFunc(slices.Clone(l), func(p api.Pair) bool { return refOut(p.Name, rules) })
}

func refText(s string, rules []api.Rule) string {
	return query.Show(refStrip(query.Parse(s), rules)...)
}
