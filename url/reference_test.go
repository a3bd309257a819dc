package url

import (
	"fmt"
	"regexp"
	"strings"

	"shortcut/api"
	"shortcut/host"
	"shortcut/path"
)

// The chapter's words a second time, in other means: patterns, and a text that is made whole ahead of being read.

var (
	refEnds   = regexp.MustCompile(`^[\x00-\x20]+|[\x00-\x20]+$`)
	refLines  = regexp.MustCompile(`[\t\n\r]`)
	refScheme = regexp.MustCompile(`(?s)^([a-zA-Z][a-zA-Z0-9.+-]*):(.*)$`)
	refTail   = regexp.MustCompile(`(?s)^([^?#]*)(\?[^#]*)?(#.*)?$`)
	refPlace  = regexp.MustCompile(`(?s)^//([^/]*)(/.*)?$`)
	refPair   = regexp.MustCompile(`\[[^]]*]`)
	refPort   = regexp.MustCompile(`^0*([0-9]{1,5})$`)
	refPorts  = map[string]int{"http": 80, "https": 443, "ws": 80, "wss": 443, "ftp": 21}
)

const (
	refControl  = ""
	refFragment = " \"<>`"
	refQuery    = " \"#<>"
	refSpecial  = " \"#<>'"
)

// refEncode writes what is below 32, above 126 or one of more behind per cent signs.
func refEncode(s, more string) string {
	var b strings.Builder
	for _, x := range []byte(s) {
		if x < 32 || x > 126 || strings.Contains(more, string(rune(x))) {
			fmt.Fprintf(&b, "%%%02X", x)
		} else {
			b.WriteByte(x)
		}
	}
	return b.String()
}

// refUnder tells base's address with the parts that every relative address takes over, and those of more.
func refUnder(base *api.URL, more string) api.URL {
	u := api.URL{Scheme: base.Scheme, Host: base.Host, Has: base.Has, Port: base.Port}
	if strings.Contains(more, "path") {
		u.Path = base.Path
	}
	if strings.Contains(more, "query") {
		u.Query, u.Asks = base.Query, base.Asks
	}
	return u
}

func refParse(s string, base *api.URL) (api.URL, api.Errno) {
	if len(s) > 400 {
		return api.URL{}, api.ErrLong
	}
	s = refLines.ReplaceAllLiteralString(refEnds.ReplaceAllLiteralString(s, ""), "")
	scheme, r, own := "", s, false
	if m := refScheme.FindStringSubmatch(s); m != nil {
		scheme, r, own = strings.ToLower(m[1]), m[2], true
	} else if base == nil {
		return api.URL{}, api.ErrForm
	} else {
		scheme = base.Scheme
	}
	if !own && base.Opaque && !strings.HasPrefix(s, "#") {
		return api.URL{}, api.ErrForm
	}
	tail := refTail.FindStringSubmatch(r)
	r = tail[1]
	u, e := refBody(scheme, r, own, tail[2] != "", base)
	if e != api.OK {
		return api.URL{}, e
	}
	set := refQuery
	if refPorts[scheme] > 0 {
		set = refSpecial
	}
	if tail[2] != "" {
		u.Query, u.Asks = refEncode(tail[2][1:], set), true
	}
	if u.Fragment, u.Marks = "", tail[3] != ""; u.Marks {
		u.Fragment = refEncode(tail[3][1:], refFragment)
	}
	return u, api.OK
}

// refBody tells all of an address but its query and fragment. Of a special scheme it turns all strokes into one kind.
func refBody(scheme, r string, own, asks bool, base *api.URL) (api.URL, api.Errno) {
	special := refPorts[scheme] > 0
	if special {
		r = strings.ReplaceAll(r, `\`, "/")
	}
	two, one := strings.HasPrefix(r, "//"), strings.HasPrefix(r, "/")
	switch relative := !own || special && base != nil && base.Scheme == scheme && !two; {
	case relative && !own && base.Opaque:
		u := *base
		return u, api.OK
	case !relative && special:
		return refHost(scheme, "//"+strings.TrimLeft(r, "/"))
	case two:
		return refHost(scheme, r)
	case !relative && !one:
		return api.URL{Scheme: scheme, Port: -1, Opaque: true, Path: []string{refEncode(r, refControl)}}, api.OK
	case !relative:
		return api.URL{Scheme: scheme, Port: -1, Path: path.Parse(r[1:], special, nil)}, api.OK
	case one:
		u := refUnder(base, "")
		u.Path = path.Parse(r[1:], special, nil)
		return u, api.OK
	case r == "" && asks:
		return refUnder(base, "path"), api.OK
	case r == "":
		return refUnder(base, "path, query"), api.OK
	}
	u := refUnder(base, "")
	front := base.Path
	if len(front) > 0 {
		front = front[:len(front)-1]
	}
	u.Path = path.Parse(r, special, front)
	return u, api.OK
}

// refHost reads two strokes, an authority, and a path.
func refHost(scheme, r string) (api.URL, api.Errno) {
	m := refPlace.FindStringSubmatch(r)
	authority, way := m[1], m[2]
	if strings.Contains(authority, "@") {
		return api.URL{}, api.ErrHost
	}
	// What stands between brackets is hidden, so that no colon of it is found.
	hidden := refPair.ReplaceAllStringFunc(authority, func(pair string) string { return strings.Repeat(".", len(pair)) })
	name, port := authority, ""
	at := strings.LastIndex(hidden, ":")
	if at >= 0 {
		name, port = authority[:at], authority[at+1:]
	}
	u := api.URL{Scheme: scheme, Has: true, Port: -1}
	if port != "" {
		m := refPort.FindStringSubmatch(port)
		if m == nil {
			return api.URL{}, api.ErrPort
		}
		for _, digit := range m[1] {
			u.Port = max(u.Port, 0)*10 + int(digit-'0')
		}
		if u.Port > 65535 {
			return api.URL{}, api.ErrPort
		}
		if u.Port == refPorts[scheme] && refPorts[scheme] > 0 {
			u.Port = -1
		}
	}
	special := refPorts[scheme] > 0
	var e api.Errno
	u.Host, e = host.Parse(name, special)
	if e != api.OK || name == "" && (special || at >= 0) {
		return api.URL{}, api.ErrHost
	}
	if way != "" {
		u.Path = path.Parse(way[1:], special, nil)
	} else if special {
		u.Path = []string{""}
	}
	return u, api.OK
}

func refShow(u api.URL) string {
	var front, way, ask, mark string
	if u.Has {
		front = "//" + u.Host
		if u.Port != -1 {
			front = fmt.Sprintf("//%s:%d", u.Host, u.Port)
		}
	} else if !u.Opaque && len(u.Path) > 1 && u.Path[0] == "" {
		front = "/."
	}
	for _, segment := range u.Path {
		if !u.Opaque {
			way += "/"
		}
		way += segment
	}
	if u.Asks {
		ask = "?" + u.Query
	}
	if u.Marks {
		mark = "#" + u.Fragment
	}
	return fmt.Sprintf("%s:%s%s%s%s", u.Scheme, front, way, ask, mark)
}
