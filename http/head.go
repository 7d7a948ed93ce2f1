package http

import (
	"slices"
	"strconv"
	"strings"

	"beacon/api"
)

// place is where a byte stands in a request.
type place int

const (
	ahead     place = iota // of the request line: its first letter, or an empty line
	aheadFeed              // behind an empty line's carriage return
	inMethod
	inSlash
	inTarget
	inVersion
	lineReturn
	lineFeed
	inLine // the first byte of a header line, or of the empty one behind them
	inName
	inValue
	headFeed
	headDone // no byte stands here: the headers are asked what comes behind them
	inBody
	inSize
	sizeFeed
	inChunk
	chunkReturn
	chunkFeed
	lastReturn
	lastFeed
	whole // nor here: the request is told
)

const (
	mostMethod = 16
	mostDigits = 9 // of a content-length
	versions   = "HTTP/1."
	blanks     = " \t"
)

// takeHead goes on by a byte of the head. What is wrong is told ahead of what is
// too long, and that ahead of what is too great.
func (p *Parser) takeHead(c byte) int {
	ok := false
	if p.place < inLine {
		ok = p.takeRequestLine(c)
	} else {
		ok = p.takeHeaderLine(c)
	}
	if !ok {
		return wrong
	}
	if p.place > aheadFeed {
		p.head++
	}
	status := 0
	if p.place == headDone {
		status = p.frame()
	}
	if status != wrong && p.head > api.MostHead {
		return tooLong
	}
	return status
}

// takeRequestLine goes on by a byte from an empty line ahead to the end of a
// line; false, if it can't stand there.
func (p *Parser) takeRequestLine(c byte) bool {
	switch p.place {
	case ahead:
		if c == '\r' {
			return p.to(aheadFeed)
		}
		return capital(c) && p.keep(c, inMethod)
	case aheadFeed:
		return c == '\n' && p.to(ahead)
	case inMethod:
		if c == ' ' {
			p.request.Method = p.cut()
			return p.to(inSlash)
		}
		return capital(c) && len(p.word) < mostMethod && p.keep(c, inMethod)
	case inSlash:
		return c == '/' && p.keep(c, inTarget)
	case inTarget:
		if c == ' ' {
			p.request.Target = p.cut()
			return p.to(inVersion)
		}
		return '!' <= c && c <= '~' && p.keep(c, inTarget)
	case inVersion:
		if len(p.word) < len(versions) {
			return c == versions[len(p.word)] && p.keep(c, inVersion)
		}
		p.cut()
		p.old = c == '0'
		return (c == '0' || c == '1') && p.to(lineReturn)
	case lineReturn:
		return c == '\r' && p.to(lineFeed)
	}
	return c == '\n' && p.to(inLine) // lineFeed
}

// takeHeaderLine goes on by a byte of the lines behind the request line; false,
// if it can't stand there.
func (p *Parser) takeHeaderLine(c byte) bool {
	switch p.place {
	case inLine:
		if c == '\r' {
			return p.to(headFeed)
		}
		return ofName(c) && p.keep(c, inName)
	case inName:
		if c == ':' {
			p.request.Headers = append(p.request.Headers, Header{Name: strings.ToLower(p.cut())})
			return p.to(inValue)
		}
		return ofName(c) && p.keep(c, inName)
	case inValue:
		if c == '\r' {
			last := len(p.request.Headers) - 1
			p.request.Headers[last].Value = strings.Trim(p.cut(), blanks)
			return p.to(lineFeed)
		}
		return (' ' <= c && c <= '~' || c == '\t') && p.keep(c, inValue)
	}
	return c == '\n' && p.to(headDone) // headFeed
}

// to goes on to the next place. It answers true, as what leads there has been
// found right.
func (p *Parser) to(next place) bool {
	p.place = next
	return true
}

// keep is to, with the byte put behind the word.
func (p *Parser) keep(c byte, next place) bool {
	p.word = append(p.word, c)
	return p.to(next)
}

// cut answers the word, which has come to its end.
func (p *Parser) cut() string {
	s := string(p.word)
	p.word = p.word[:0]
	return s
}

func capital(c byte) bool { return 'A' <= c && c <= 'Z' }

func digit(c byte) bool { return '0' <= c && c <= '9' }

func ofName(c byte) bool {
	return 'a' <= c && c <= 'z' || capital(c) || digit(c) || c == '-'
}

// frame asks the headers what body comes, and goes on to it; else it answers
// the status that they lead to.
func (p *Parser) frame() int {
	codings, lengths := p.values("transfer-encoding"), p.values("content-length")
	if !p.old && len(p.values("host")) != 1 || len(codings)+len(lengths) > 1 {
		return wrong
	}
	p.place = whole
	if len(codings) == 1 {
		p.place = inSize
		if codings[0] != "chunked" {
			return wrong
		}
	}
	if len(lengths) == 1 {
		return p.measure(lengths[0])
	}
	return 0
}

// measure goes on to a body of the content-length.
func (p *Parser) measure(length string) int {
	n, err := strconv.ParseUint(length, 10, 32)
	if err != nil || len(length) > mostDigits {
		return wrong
	}
	if n > api.MostBody {
		return tooGreat
	}
	if n > 0 {
		p.left = int(n)
		p.place = inBody
	}
	return 0
}

// values are those of all headers of the name, in small letters.
func (p *Parser) values(name string) []string {
	var out []string
	for _, h := range p.request.Headers {
		if h.Name == name {
			out = append(out, strings.ToLower(h.Value))
		}
	}
	return out
}

// closes is whether the request is the connection's last one.
func (p *Parser) closes() bool {
	connections := p.values("connection")
	return slices.Contains(connections, "close") || p.old && !slices.Contains(connections, "keep-alive")
}
