package json

import (
	"slices"
	"strconv"
	"strings"
	"unicode/utf8"

	"beacon/api"
)

// The surrogates: 1024 high ones, and 1024 low ones behind them.
const (
	firstHigh = 0xd800
	firstLow  = 0xdc00
	behindLow = 0xe000
	firstPair = 0x10000
	lowBits   = 10
)

const (
	shortEscape = 2 // bytes of \n
	longEscape  = 6 // bytes of \u000a
)

// parser goes through a text. Its calls that answer an error leave it at the
// place of what can't stand there.
type parser struct {
	text  string
	at    int
	depth int // how many lists and objects are open
}

// Parse answers the value that s is; else the place of the first thing that
// can't stand where it stands, and ErrForm, or ErrLarge, if it is one list or
// object too many in one another; 0 and ErrLarge, if s is too long.
func Parse(s string) (Value, int, api.Errno) {
	if len(s) > api.MostText {
		return nil, 0, api.ErrLarge
	}
	p := parser{text: s}
	v, e := p.all()
	if e != api.OK {
		return nil, p.at, e
	}
	return v, 0, api.OK
}

// all is the value, and that nothing stands behind it.
func (p *parser) all() (Value, api.Errno) {
	p.blanks()
	v, e := p.value()
	if e != api.OK {
		return nil, e
	}
	p.blanks()
	if p.at < len(p.text) {
		return nil, api.ErrForm
	}
	return v, api.OK
}

// next is the byte that comes, or 0 at the end: a byte 0 can't stand anywhere
// either, so nobody has to tell the two apart.
func (p *parser) next() byte {
	if p.at == len(p.text) {
		return 0
	}
	return p.text[p.at]
}

// take goes past the byte, if it is the one that comes.
func (p *parser) take(c byte) bool {
	if p.next() != c {
		return false
	}
	p.at++
	return true
}

func (p *parser) blanks() {
	for p.take(' ') || p.take('\t') || p.take('\n') || p.take('\r') {
	}
}

func (p *parser) value() (Value, api.Errno) {
	switch c := p.next(); c {
	case '{':
		return p.object()
	case '[':
		return p.list()
	case '"':
		s, e := p.str()
		return Text(s), e
	case 't':
		return p.word("true", Bool(true))
	case 'f':
		return p.word("false", Bool(false))
	case 'n':
		return p.word("null", Null{})
	default:
		if c == '-' || digit(c) {
			return p.number()
		}
		return nil, api.ErrForm
	}
}

func (p *parser) word(w string, v Value) (Value, api.Errno) {
	for i := range len(w) {
		if !p.take(w[i]) {
			return nil, api.ErrForm
		}
	}
	return v, api.OK
}

func (p *parser) number() (Value, api.Errno) {
	first := p.at
	p.take('-')
	if !p.take('0') && !p.digits() {
		return nil, api.ErrForm
	}
	if p.take('.') && !p.digits() {
		return nil, api.ErrForm
	}
	if p.take('e') || p.take('E') {
		if !p.take('+') {
			p.take('-')
		}
		if !p.digits() {
			return nil, api.ErrForm
		}
	}
	// A piece of the text would keep all of it.
	return Number(strings.Clone(p.text[first:p.at])), api.OK
}

// digits goes past the digits that come; false, if there are none.
func (p *parser) digits() bool {
	first := p.at
	for digit(p.next()) {
		p.at++
	}
	return p.at > first
}

func digit(c byte) bool { return '0' <= c && c <= '9' }

func (p *parser) list() (Value, api.Errno) {
	out := List{}
	e := p.parts(']', func() api.Errno {
		v, e := p.value()
		out = append(out, v)
		return e
	})
	return out, e
}

func (p *parser) object() (Value, api.Errno) {
	out := Object{}
	e := p.parts('}', func() api.Errno {
		m, e := p.member(out)
		out = append(out, m)
		return e
	})
	return out, e
}

// parts goes through a list or an object: the part comes between commas till
// the end.
func (p *parser) parts(end byte, part func() api.Errno) api.Errno {
	if p.depth == api.MostDepth {
		return api.ErrLarge
	}
	p.depth++
	p.at++
	p.blanks()
	if p.take(end) {
		p.depth--
		return api.OK
	}
	for {
		if e := part(); e != api.OK {
			return e
		}
		p.blanks()
		if p.take(end) {
			p.depth--
			return api.OK
		}
		if !p.take(',') {
			return api.ErrForm
		}
		p.blanks()
	}
}

// member is the object's next member, behind those that stand ahead of it.
func (p *parser) member(ahead Object) (Member, api.Errno) {
	mark := p.at
	if p.next() != '"' {
		return Member{}, api.ErrForm
	}
	key, e := p.str()
	if e != api.OK {
		return Member{}, e
	}
	if slices.ContainsFunc(ahead, func(m Member) bool { return m.Key == key }) {
		p.at = mark
		return Member{}, api.ErrForm
	}
	p.blanks()
	if !p.take(':') {
		return Member{}, api.ErrForm
	}
	p.blanks()
	v, e := p.value()
	return Member{Key: key, Value: v}, e
}

// str is the string whose quotation mark comes, without its escapes.
func (p *parser) str() (string, api.Errno) {
	var out []byte
	p.at++
	for {
		n := plain(p.text[p.at:])
		out = append(out, p.text[p.at:p.at+n]...)
		p.at += n
		if p.take('"') {
			return string(out), api.OK
		}
		if p.next() != '\\' {
			return "", api.ErrForm
		}
		r, size, ok := escape(p.text[p.at:])
		if !ok {
			return "", api.ErrForm
		}
		out = utf8.AppendRune(out, r)
		p.at += size
	}
}

// plain is how many bytes at the beginning of s stand for themselves within a
// string.
func plain(s string) int {
	for i, r := range s {
		if r < ' ' || r == '"' || r == '\\' || r == utf8.RuneError && !replacement(s[i:]) {
			return i
		}
	}
	return len(s)
}

// replacement tells the rune U+FFFD that stands in the text from the one that a
// range gives for a byte that is no UTF-8.
func replacement(s string) bool { return strings.HasPrefix(s, "\ufffd") }

// escape is the rune of the escape whose backslash s begins with, and how many
// bytes it is written in.
func escape(s string) (r rune, size int, ok bool) {
	if len(s) < shortEscape {
		return 0, 0, false
	}
	switch c := s[1]; c {
	case '"', '\\', '/':
		return rune(c), shortEscape, true
	case 'b':
		return '\b', shortEscape, true
	case 'f':
		return '\f', shortEscape, true
	case 'n':
		return '\n', shortEscape, true
	case 'r':
		return '\r', shortEscape, true
	case 't':
		return '\t', shortEscape, true
	case 'u':
		return long(s)
	}
	return 0, 0, false
}

// long is the rune of a \u, or of two of them that are surrogates.
func long(s string) (r rune, size int, ok bool) {
	high, ok := unit(s)
	if !ok || firstLow <= high && high < behindLow {
		return 0, 0, false
	}
	if high < firstHigh || high >= behindLow {
		return high, longEscape, true
	}
	low, ok := unit(s[longEscape:])
	if !ok || low < firstLow || low >= behindLow {
		return 0, 0, false
	}
	return firstPair + (high-firstHigh)<<lowBits + (low - firstLow), 2 * longEscape, true
}

// unit is the number of the \u that s begins with.
func unit(s string) (n rune, ok bool) {
	if len(s) < longEscape || !strings.HasPrefix(s, `\u`) {
		return 0, false
	}
	u, err := strconv.ParseUint(s[shortEscape:longEscape], 16, 16)
	return rune(u), err == nil
}
