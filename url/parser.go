package url

import (
	"strconv"
	"strings"

	"shortcut/api"
	"shortcut/host"
	"shortcut/path"
	"shortcut/pct"
)

const (
	behindUser = "@"
	opening    = '['
	closing    = ']'
	tens       = 10
	portBits   = 16
)

// parser builds an address of what its cursor reads.
type parser struct {
	cursor
	base *api.URL // nil: there is none
	out  api.URL
}

func (p *parser) parse() api.Errno {
	p.clean()
	scheme, own := p.takeScheme()
	if !own && p.base == nil {
		return api.ErrForm
	}
	if !own {
		scheme = p.base.Scheme
	}
	p.out.Scheme, p.special = scheme, Special(scheme)
	p.readTail()
	switch {
	case !own && p.base.Opaque:
		return p.readFragmentAlone()
	case !own:
		return p.readRelative()
	case p.special:
		return p.readSpecial()
	}
	return p.readOther()
}

// readTail reads the fragment and the query, from the end on.
func (p *parser) readTail() {
	fragment, marks := p.cutBehind(marking)
	query, asks := p.cutBehind(asking)
	set := api.SetQuery
	if p.special {
		set = api.SetSpecial
	}
	p.out.Fragment, p.out.Marks = pct.Encode(api.SetFragment, []byte(fragment)), marks
	p.out.Query, p.out.Asks = pct.Encode(set, []byte(query)), asks
}

// readFragmentAlone: to a base that is Opaque nothing else is relative.
func (p *parser) readFragmentAlone() api.Errno {
	if p.left != "" || p.out.Asks || !p.out.Marks {
		return api.ErrForm
	}
	fragment := p.out.Fragment
	p.out = *p.base
	p.out.Fragment, p.out.Marks = fragment, true
	return api.OK
}

func (p *parser) readRelative() api.Errno {
	if p.takeStrokes(2) {
		return p.readAuthority()
	}
	p.out.Host, p.out.Has, p.out.Port = p.base.Host, p.base.Has, p.base.Port
	switch {
	case p.takeStrokes(1):
		p.readPath()
	case p.left != "":
		p.readPath(p.base.Path[:max(len(p.base.Path)-1, 0)]...)
	default:
		p.stay()
	}
	return api.OK
}

// stay takes over where the base leads.
func (p *parser) stay() {
	p.out.Path = p.base.Path
	if !p.out.Asks {
		p.out.Query, p.out.Asks = p.base.Query, p.base.Asks
	}
}

// readSpecial reads what stands behind a special scheme: without two strokes it may be relative, else it has a host, however many there are.
func (p *parser) readSpecial() api.Errno {
	if p.base != nil && p.base.Scheme == p.out.Scheme && p.strokes() < 2 {
		return p.readRelative()
	}
	p.takeStrokes(p.strokes())
	return p.readAuthority()
}

func (p *parser) readOther() api.Errno {
	switch {
	case p.takeStrokes(2):
		return p.readAuthority()
	case p.takeStrokes(1):
		p.readPath()
	default:
		p.out.Opaque = true
		p.out.Path = []string{pct.Encode(api.SetControl, []byte(p.left))}
	}
	return api.OK
}

// readAuthority reads a host, its port, and the path behind them.
func (p *parser) readAuthority() api.Errno {
	authority := p.takeToStroke()
	if strings.Contains(authority, behindUser) {
		return api.ErrHost
	}
	name, digits, parted := cutPort(authority)
	port, e := readPort(digits, Default(p.out.Scheme))
	if e != api.OK {
		return e
	}
	text, e := host.Parse(name, p.special)
	if e != api.OK {
		return e
	}
	if text == "" && (p.special || parted) {
		return api.ErrHost
	}
	p.out.Host, p.out.Has, p.out.Port = text, true, port
	switch {
	case p.takeStrokes(1):
		p.readPath()
	case p.special:
		p.out.Path = []string{""}
	}
	return api.OK
}

// readPath reads all that is left, behind the segments of base.
func (p *parser) readPath(base ...string) {
	p.out.Path = path.Parse(p.left, p.special, base)
}

// cutPort cuts an authority at its last colon that does not stand between brackets, if there is one. Behind a bracket that is not closed nothing stands between two.
func cutPort(authority string) (name, port string, parted bool) {
	last := -1
	for i := 0; i < len(authority); i++ {
		switch authority[i] {
		case opening:
			i += max(strings.IndexByte(authority[i:], closing), 0)
		case aheadOfPort:
			last = i
		}
	}
	if last < 0 {
		return authority, "", false
	}
	return authority[:last], authority[last+1:], true
}

// readPort tells the number that digits are, or that there is none, if they need not be written: usual is the scheme's port. ParseUint takes no sign, and nothing above 65535.
func readPort(digits string, usual int) (int, api.Errno) {
	if digits == "" {
		return noPort, api.OK
	}
	n, err := strconv.ParseUint(digits, tens, portBits)
	switch {
	case err != nil:
		return 0, api.ErrPort
	case int(n) == usual:
		return noPort, api.OK
	}
	return int(n), api.OK
}
