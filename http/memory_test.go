package http_test

import (
	"bytes"
	"strings"
	"sync"
	"testing"

	"beacon/http"
)

const stories = "\r\n" + simple + "x: y\r\ncontent-length: 5\r\n\r\nhello" + simple + "\r\n" +
	"PUT /y HTTP/1.1\r\nhost: b\r\ntransfer-encoding: chunked\r\nq: r\r\n\r\n2\r\nab\r\n01\r\nc\r\n0\r\n\r\n" +
	"POST /z HTTP/1.1\r\nhost: c\r\ncontent-length: 3\r\n\r\nxyz" + simple + "content-length: 2\r\n\r\nhi"

// spoil writes over all lists of a request, with their room.
func spoil(r http.Request) {
	for i := range r.Headers[:cap(r.Headers)] {
		r.Headers[:cap(r.Headers)][i] = http.Header{Name: "spoilt", Value: "spoilt"}
	}
	for i := range r.Body[:cap(r.Body)] {
		r.Body[:cap(r.Body)][i] = '!'
	}
}

// What is handed in stays as it is, its room too, and isn't kept.
func TestHandedIn(t *testing.T) {
	for _, size := range []int{1, 2, 7, 50, 1000} {
		p := http.New()
		var got []http.Request
		for from := 0; from < len(stories); from += size {
			piece := stories[from:min(from+size, len(stories))]
			b := append(make([]byte, 0, len(piece)+9), piece...)
			copy(b[len(b):cap(b)], "room room")
			l, status := p.Feed(b)
			if status != 0 || string(b) != piece || string(b[len(b):cap(b)][:9]) != "room room" {
				t.Fatalf("%q became %q", piece, b[:cap(b)])
			}
			clear(b[:cap(b)])
			got = append(got, l...)
		}
		checkStories(t, got)
	}
}

func checkStories(t *testing.T, got []http.Request) {
	t.Helper()
	want := reading(stories)
	if len(got) != len(want) {
		t.Fatalf("%d requests, want %d", len(got), len(want))
	}
	for i := range want {
		if !alike(got[i], want[i].request) {
			t.Fatalf("%+v, want %+v", got[i], want[i].request)
		}
	}
}

// No two lists of an answer share memory, nor any with the parser: when one
// request is written over, with its room, those beside it stand, and those that
// come behind.
func TestAnswersApart(t *testing.T) {
	for i := range reading(stories) {
		l, _ := http.New().Feed([]byte(stories))
		spoil(l[i])
		l[i] = reading(stories)[i].request
		checkStories(t, l)
	}
	p := http.New()
	var got []http.Request
	for i := range len(stories) {
		l, _ := p.Feed([]byte(stories[i : i+1]))
		for _, r := range l {
			kept := r
			kept.Headers, kept.Body = append([]http.Header(nil), r.Headers...), bytes.Clone(r.Body)
			got = append(got, kept)
			spoil(r)
		}
		clear(l[:cap(l)])
	}
	checkStories(t, got)
}

// What was told stays, whatever comes behind it.
func TestAnswersStay(t *testing.T) {
	p := http.New()
	var got []http.Request
	for range 3 {
		got = nil
		for i := range len(stories) {
			l, _ := p.Feed([]byte(stories[i : i+1]))
			got = append(got, l...)
		}
	}
	p.Feed([]byte(strings.Repeat(simple+"content-length: 9\r\n\r\n.........", 20)))
	checkStories(t, got)
}

// Parsers that are fed at one time keep apart.
func TestManyAtOnce(t *testing.T) {
	var all sync.WaitGroup
	for n := range 8 {
		all.Go(func() {
			p := http.New()
			for range 100 {
				var got []http.Request
				for from := 0; from < len(stories); from += n + 1 {
					l, _ := p.Feed([]byte(stories[from:min(from+n+1, len(stories))]))
					got = append(got, l...)
				}
				if len(got) != len(reading(stories)) {
					t.Error(got)
				}
				http.Respond(200+n, got[0].Body, n%2 == 0)
			}
		})
	}
	all.Wait()
}
