package query

import (
	"net/url"
	"regexp"
	"strconv"
	"strings"

	"shortcut/api"
)

// The chapter's words a second time, in other means: fields, patterns, Go's own runes, and Go's own questions.

var refByte = regexp.MustCompile(`%[0-9a-fA-F]{2}`)

func refRead(s string) string {
	s = strings.Join(strings.Split(s, "+"), " ")
	s = refByte.ReplaceAllStringFunc(s, func(sign string) string {
		x, err := strconv.ParseUint(sign[1:], 16, 8)
		if err != nil {
			panic(err)
		}
		return string([]byte{byte(x)})
	})
	return string([]rune(s))
}

func refParse(s string) []api.Pair {
	var out []api.Pair
	for _, piece := range strings.FieldsFunc(s, func(r rune) bool { return r == '&' }) {
		halves := append(strings.SplitN(piece, "=", 2), "")
		out = append(out, api.Pair{Name: refRead(halves[0]), Value: refRead(halves[1])})
	}
	return out[:min(len(out), 40)]
}

// refOdd: Go writes these two the other way round.
var refOdd = strings.NewReplacer("%2A", "*", "~", "%7E")

func refShow(l []api.Pair) string {
	var pieces []string
	for _, p := range l {
		pieces = append(pieces, refOdd.Replace(url.QueryEscape(p.Name)+"="+url.QueryEscape(p.Value)))
	}
	return strings.Join(pieces, "&")
}

// refAsItWas: what of l is parsed again when it is shown: bytes that are no UTF-8 are lost.
func refAsItWas(l []api.Pair) []api.Pair {
	var out []api.Pair
	for _, p := range l[:min(len(l), 40)] {
		out = append(out, api.Pair{Name: string([]rune(p.Name)), Value: string([]rune(p.Value))})
	}
	return out
}
