package http

import (
	"strconv"

	"beacon/api"
)

const mostSizeDigits = 6 // of a chunk

// takeBody goes on by a byte behind the head, and answers the status that it
// leads to, or 0.
func (p *Parser) takeBody(c byte) int {
	ok := false
	switch p.place {
	case inBody:
		ok = p.fill(c, whole)
	case inSize:
		ok = p.takeSize(c)
	case sizeFeed:
		if c == '\n' {
			return p.begin()
		}
	case inChunk:
		ok = p.fill(c, chunkReturn)
	case chunkReturn:
		ok = c == '\r' && p.to(chunkFeed)
	case chunkFeed:
		ok = c == '\n' && p.to(inSize)
	case lastReturn:
		ok = c == '\r' && p.to(lastFeed)
	case lastFeed:
		ok = c == '\n' && p.to(whole)
	}
	if !ok {
		return wrong
	}
	return 0
}

// fill puts a byte behind the body, and goes on to the next place, if it was
// the last one that was still to come.
func (p *Parser) fill(c byte, next place) bool {
	p.request.Body = append(p.request.Body, c)
	p.left--
	if p.left == 0 {
		p.place = next
	}
	return true
}

func (p *Parser) takeSize(c byte) bool {
	if c != '\r' {
		return hexadecimal(c) && len(p.word) < mostSizeDigits && p.keep(c, inSize)
	}
	// It fails where no digit stands.
	size, err := strconv.ParseUint(p.cut(), 16, 32)
	p.left = int(size)
	return err == nil && p.to(sizeFeed)
}

// begin goes on to the chunk whose size has come.
func (p *Parser) begin() int {
	if len(p.request.Body)+p.left > api.MostBody {
		return tooGreat
	}
	p.place = inChunk
	if p.left == 0 {
		p.place = lastReturn
	}
	return 0
}

func hexadecimal(c byte) bool {
	return digit(c) || 'a' <= c && c <= 'f' || 'A' <= c && c <= 'F'
}
