package http_test

import (
	"fmt"
	"slices"
	"strings"
	"testing"

	"beacon/api"
	"beacon/http"
)

// toldAt feeds the text byte by byte: what requests came, and the byte at which
// a status was told, or -1.
func toldAt(s string) (requests []http.Request, status, at int) {
	p := http.New()
	for i := range len(s) {
		l, status := p.Feed([]byte(s[i : i+1]))
		requests = append(requests, l...)
		if status != 0 {
			return requests, status, i
		}
	}
	return requests, 0, -1
}

// right is the one request that the text is, told at its last byte.
func right(t *testing.T, s string) http.Request {
	t.Helper()
	l, status, _ := toldAt(s)
	if ahead, _, _ := toldAt(s[:len(s)-1]); status != 0 || len(l) != 1 || len(ahead) != 0 {
		t.Fatalf("%.99q: %+v, %d; a byte ahead %+v", s, l, status, ahead)
	}
	if whole, status := http.New().Feed([]byte(s)); status != 0 || len(whole) != 1 || !alike(whole[0], l[0]) {
		t.Fatalf("%.99q in one piece: %+v, %d", s, whole, status)
	}
	return l[0]
}

// refused: the status is told at the text's last byte, not ahead of it, and not
// any more behind it.
func refused(t *testing.T, s string, want int) {
	t.Helper()
	l, status, at := toldAt(s)
	if status != want || at != len(s)-1 || len(l) != 0 {
		t.Errorf("%.99q (%d bytes): %d at %d, %+v, want %d", s, len(s), status, at, l, want)
	}
	p := http.New()
	l, status = p.Feed([]byte(s + simple + "\r\n"))
	if status != want || len(l) != 0 || !p.Ended() {
		t.Errorf("%.99q in one piece: %d, %+v, %v", s, status, l, p.Ended())
	}
	for _, more := range []string{simple + "\r\n", "", "\x00"} {
		if l, status = p.Feed([]byte(more)); status != 0 || len(l) != 0 || !p.Ended() {
			t.Errorf("%.99q, then %q: %d, %+v, %v", s, more, status, l, p.Ended())
		}
	}
}

func headers(pairs ...string) []http.Header {
	var out []http.Header
	for i := 0; i < len(pairs); i += 2 {
		out = append(out, http.Header{Name: pairs[i], Value: pairs[i+1]})
	}
	return out
}

func TestRequests(t *testing.T) {
	for s, want := range map[string]http.Request{
		simple + "\r\n": {Method: "GET", Target: "/", Headers: headers("host", "a")},
		"\r\n\r\n\r\nA /!~?#\"{} HTTP/1.1\r\nHOST:\r\n\r\n":           {Method: "A", Target: "/!~?#\"{}", Headers: headers("host", "")},
		"ABCDEFGHIJKLMNOP // HTTP/1.1\r\nhOsT: \t a \t\tb\t \r\n\r\n": {Method: "ABCDEFGHIJKLMNOP", Target: "//", Headers: headers("host", "a \t\tb")},
		"Z /http://x HTTP/1.0\r\n\r\n":                                {Method: "Z", Target: "/http://x", Close: true},
		"GET / HTTP/1.0\r\nhost:a\r\nhost:b\r\n\r\n":                  {Method: "GET", Target: "/", Headers: headers("host", "a", "host", "b"), Close: true},
		simple + "X-B: 1\r\nx-a: :2:\r\n-9: ~ !\r\nX-B: 3\r\n\r\n":    {Method: "GET", Target: "/", Headers: headers("host", "a", "x-b", "1", "x-a", ":2:", "-9", "~ !", "x-b", "3")},
		simple + "Content-Length: 3\r\n\r\na\r\n":                     {Method: "GET", Target: "/", Headers: headers("host", "a", "content-length", "3"), Body: []byte("a\r\n")},
		simple + "content-length:000000004\r\n\r\n\x00\xff\x80\x7f":   {Method: "GET", Target: "/", Headers: headers("host", "a", "content-length", "000000004"), Body: []byte("\x00\xff\x80\x7f")},
		simple + "content-length: 0\r\n\r\n":                          {Method: "GET", Target: "/", Headers: headers("host", "a", "content-length", "0")},
		simple + "content-length: 000000000\r\n\r\n":                  {Method: "GET", Target: "/", Headers: headers("host", "a", "content-length", "000000000")},
		simple + "Transfer-Encoding: \tChUnKeD \r\n\r\n0\r\n\r\n":     {Method: "GET", Target: "/", Headers: headers("host", "a", "transfer-encoding", "ChUnKeD")},
		"GET / HTTP/1.0\r\ntransfer-encoding:chunked\r\nconnection:keep-alive\r\n\r\n000003\r\n\r\n0\r\n0A\r\n0123456789\r\n1\r\n\xff\r\n00\r\n\r\n": {
			Method: "GET", Target: "/", Headers: headers("transfer-encoding", "chunked", "connection", "keep-alive"), Body: []byte("\r\n00123456789\xff")},
		simple + "content-lengths: x\r\ntransfer-encodings: y\r\nhosts: z\r\n\r\n": {Method: "GET", Target: "/", Headers: headers("host", "a", "content-lengths", "x", "transfer-encodings", "y", "hosts", "z")},
	} {
		if got := right(t, s); !alike(got, want) {
			t.Errorf("%q: %+v, want %+v", s, got, want)
		}
	}
}

func TestCloses(t *testing.T) {
	for version, cases := range map[string]map[string]bool{
		"1": {
			"": false, "connection:close": true, "Connection: \tcLoSe ": true, "connection: keep-alive": false, "connection:": false,
			"connection: close, keep-alive": false, "connection: closed": false, "connection: keep-alive\r\nconnection: close": true,
			"connection: close\r\nconnection: x": true, "connections: close": false, "x: close": false,
		},
		"0": {
			"": true, "connection:close": true, "Connection: \tKeep-ALIVE ": false, "connection:": true, "connection: x": true,
			"connection: keep-alive, x": true, "connection: x\r\nconnection: keep-alive": false, "connection: keep-alive\r\nconnection: x": false,
			"connection: keep-alive\r\nconnection: close": true, "connection: close\r\nconnection: keep-alive": true, "keep-alive: keep-alive": true,
		},
	} {
		for line, want := range cases {
			s := "POST / HTTP/1." + version + "\r\nhost: a\r\n" + line + "\r\ncontent-length: 2\r\n\r\nhi"
			if line == "" {
				s = strings.Replace(s, "\r\n\r\n", "\r\n", 1)
			}
			p := http.New()
			l, status := p.Feed([]byte(s + simple + "\r\n"))
			got := 2
			if want {
				got = 1
			}
			if status != 0 || len(l) != got || l[0].Close != want || string(l[0].Body) != "hi" || p.Ended() != want {
				t.Errorf("HTTP/1.%s %q: %+v, %d, %v", version, line, l, status, p.Ended())
			}
			// Behind a request that closes, wrong bytes are passed over too.
			if l, status = p.Feed([]byte("\x00")); want && status != 0 || !want && status != 400 || len(l) != 0 || !p.Ended() {
				t.Errorf("HTTP/1.%s %q: then %d, %+v", version, line, status, l)
			}
		}
	}
	p := http.New()
	l, status := p.Feed([]byte("GET / HTTP/1.0\r\n\r\n\x00"))
	if status != 0 || len(l) != 1 || !p.Ended() {
		t.Error(l, status)
	}
}

// TestEveryByte asks of each byte at each place of a request whether it can
// stand there.
func TestEveryByte(t *testing.T) {
	const letters, small, digits = "ABCDEFGHIJKLMNOPQRSTUVWXYZ", "abcdefghijklmnopqrstuvwxyz", "0123456789"
	chunked := simple + "transfer-encoding: chunked\r\n\r\n"
	for _, c := range []struct{ ahead, may string }{
		{"", letters + "\r"},
		{"\r", "\n"},
		{"\r\n", letters + "\r"},
		{"G", letters + " "},
		{"ABCDEFGHIJKLMNO", letters + " "},
		{"ABCDEFGHIJKLMNOP", " "},
		{"GET ", "/"},
		{"GET /", graphic() + " "},
		{"GET / ", "H"},
		{"GET / H", "T"},
		{"GET / HT", "T"},
		{"GET / HTT", "P"},
		{"GET / HTTP", "/"},
		{"GET / HTTP/", "1"},
		{"GET / HTTP/1", "."},
		{"GET / HTTP/1.", "01"},
		{"GET / HTTP/1.1", "\r"},
		{"GET / HTTP/1.0", "\r"},
		{"GET / HTTP/1.1\r", "\n"},
		{"GET / HTTP/1.1\r\n", letters + small + digits + "-\r"},
		{"GET / HTTP/1.1\r\nh", letters + small + digits + "-:"},
		{"GET / HTTP/1.1\r\nhost:", graphic() + " \t\r"},
		{"GET / HTTP/1.1\r\nhost: a", graphic() + " \t\r"},
		{"GET / HTTP/1.1\r\nhost: a ", graphic() + " \t\r"},
		{"GET / HTTP/1.1\r\nhost: a\r", "\n"},
		{simple, letters + small + digits + "-\r"},
		{simple + "\r", "\n"},
		{simple + "\r\n", letters + "\r"},
		{simple + "content-length: 1\r\n\r\na", letters + "\r"},
		{chunked, digits + "abcdefABCDEF"},
		{chunked + "0", digits + "abcdefABCDEF\r"},
		{chunked + "0000a", digits + "abcdefABCDEF\r"},
		{chunked + "00000a", "\r"},
		{chunked + "000000", "\r"},
		{chunked + "1\r", "\n"},
		{chunked + "1\r\na", "\r"},
		{chunked + "1\r\na\r", "\n"},
		{chunked + "1\r\na\r\n", digits + "abcdefABCDEF"},
		{chunked + "0\r", "\n"},
		{chunked + "0\r\n", "\r"},
		{chunked + "0\r\n\r", "\n"},
		{chunked + "0\r\n\r\n", letters + "\r"},
	} {
		for b := range 256 {
			want := 400
			if strings.IndexByte(c.may, byte(b)) >= 0 {
				want = 0
			}
			p := http.New()
			if _, status := p.Feed([]byte(c.ahead)); status != 0 || p.Ended() {
				t.Fatalf("%q: %d", c.ahead, status)
			}
			if l, status := p.Feed([]byte{byte(b)}); status != want || p.Ended() != (want != 0) {
				t.Errorf("%q and %q: %d, %+v, want %d", c.ahead, byte(b), status, l, want)
			}
		}
	}
	for b := range 256 {
		body := string([]byte{byte(b)})
		if got := right(t, simple+"content-length: 1\r\n\r\n"+body); string(got.Body) != body {
			t.Errorf("body %q: %q", body, got.Body)
		}
		if got := right(t, chunked+"1\r\n"+body+"\r\n0\r\n\r\n"); string(got.Body) != body {
			t.Errorf("chunk %q: %q", body, got.Body)
		}
	}
}

func TestHeadsRefused(t *testing.T) {
	const coded = "transfer-encoding: chunked\r\n"
	for _, s := range []string{
		"GET / HTTP/1.1\r\n\r\n",
		"GET / HTTP/1.1\r\nhosts: a\r\n\r\n",
		"GET / HTTP/1.1\r\nhost: a\r\nx: y\r\nHost: a\r\n\r\n",
		simple + "host:\r\n\r\n",
		simple + "content-length: 1\r\ncontent-length: 1\r\n\r\n",
		simple + "Content-Length: 0\r\nx: y\r\ncontent-length: 0\r\n\r\n",
		simple + coded + coded + "\r\n",
		simple + coded + "content-length: 1\r\n\r\n",
		simple + "content-length: 0\r\n" + coded + "\r\n",
		simple + "content-length: x\r\n" + coded + "\r\n",
		simple + "content-length: 5000\r\ncontent-length: 5000\r\n\r\n",
		"GET / HTTP/1.0\r\ncontent-length: 1\r\ncontent-length: 1\r\n\r\n",
		"GET / HTTP/1.0\r\ncontent-length: 1\r\n" + coded + "\r\n",
		"GET / HTTP/1.1\r\ncontent-length: 5000\r\n\r\n",
		simple + "host: b\r\ncontent-length: 999999999\r\n\r\n",
	} {
		refused(t, s, 400)
	}
	for _, length := range []string{"", "-1", "+1", "1 1", "1,1", "0x1", "1.", "1_0", "a", "1e1", "0000000001", "1234567890", "0000000000", strings.Repeat("9", 30), "18446744073709551617"} {
		refused(t, simple+"content-length: "+length+"\r\n\r\n", 400)
	}
	for _, coding := range []string{"", "chunk", "chunkedd", "chunked, chunked", "gzip", "gzip, chunked", "identity", "chunked;", "\"chunked\"", "c hunked"} {
		refused(t, simple+"transfer-encoding: "+coding+"\r\n\r\n", 400)
		refused(t, "GET / HTTP/1.0\r\ntransfer-encoding: "+coding+"\r\n\r\n", 400)
	}
	for _, length := range []string{"4097", "00004097", "000004097", "5000", "10000", "999999999"} {
		refused(t, simple+"content-length: "+length+"\r\n\r\n", 413)
		refused(t, "GET / HTTP/1.0\r\nContent-Length:"+length+"\r\n\r\n", 413)
	}
}

// TestLongHeads: 431 at the byte that is one too many, if it isn't wrong.
func TestLongHeads(t *testing.T) {
	most := api.MostHead
	fill := func(s string, size int) string { return s + strings.Repeat("a", size-len(s)) }
	for _, ahead := range []string{"", "\r\n", strings.Repeat("\r\n", 3000)} {
		for _, s := range []string{"GET /", simple + "x:", simple, "GET / HTTP/1.0\r\nx:", simple + strings.Repeat("x:\r\n", 400)} {
			refused(t, ahead+fill(s, most+1), 431)
			refused(t, ahead+fill(s, most)+"\x00", 400)
			refused(t, ahead+fill(s, most-1)+"\x00", 400)
			if l, status, _ := toldAt(ahead + fill(s, most)); status != 0 || len(l) != 0 {
				t.Errorf("%.60q: %d, %+v", s, status, l)
			}
		}
		end := func(s string, size int) string { return ahead + fill(s+"x:", size-4) + "\r\n\r\n" }
		if got := right(t, end(simple, most)); len(got.Headers) != 2 || len(got.Headers[1].Value) != most-4-len(simple)-2 {
			t.Error(got)
		}
		if got := right(t, end(simple+"content-length:4096\r\n", most)+strings.Repeat("b", 4096)); len(got.Body) != 4096 {
			t.Error(got)
		}
		refused(t, end(simple, most+1), 431)
		refused(t, end(simple, most+2)[:len(ahead)+most+1], 431)
		refused(t, end(simple, most+3)[:len(ahead)+most+1], 431)
		refused(t, end(simple, most+4)[:len(ahead)+most+1], 431)
		// The empty line that is one byte too many: what is wrong with the headers
		// is named ahead of their length, and that ahead of the body's.
		refused(t, end("GET / HTTP/1.1\r\n", most+1), 400)
		refused(t, end(simple+"content-length:x\r\n", most+1), 400)
		refused(t, end(simple+"content-length:4097\r\n", most+1), 431)
		refused(t, end(simple+"content-length:4097\r\n", most), 413)
		refused(t, end("GET / HTTP/1.1\r\n", most), 400)
		refused(t, end("GET / HTTP/1.1\r\n", most+2)[:len(ahead)+most+1], 431)
	}
	target := "/" + strings.Repeat("x", most-len("GET  HTTP/1.1\r\nhost:\r\n\r\n")-1)
	if got := right(t, "GET "+target+" HTTP/1.1\r\nhost:\r\n\r\n"); got.Target != target {
		t.Error(got)
	}
}

// Each request has the most bytes for itself; its body isn't counted, nor what
// lies between.
func TestManyLongHeads(t *testing.T) {
	one := simple + "content-length:3000\r\nx:"
	one += strings.Repeat("a", api.MostHead-len(one)-4) + "\r\n\r\n" + strings.Repeat("b", 3000)
	p := http.New()
	l, status := p.Feed([]byte(strings.Repeat(one+"\r\n", 50) + one[:api.MostHead-1] + "\x00"))
	if status != 400 || len(l) != 50 || len(l[49].Body) != 3000 {
		t.Error(len(l), status)
	}
}

func TestBodies(t *testing.T) {
	chunked := simple + "transfer-encoding: chunked\r\n\r\n"
	full := strings.Repeat("b", api.MostBody)
	for _, s := range []string{
		simple + "content-length: 4096\r\n\r\n" + full,
		chunked + "1000\r\n" + full + "\r\n0\r\n\r\n",
		chunked + "001000\r\n" + full + "\r\n000000\r\n\r\n",
		chunked + "fFf\r\n" + full[1:] + "\r\n1\r\nb\r\n0\r\n\r\n",
		chunked + strings.Repeat("1\r\nb\r\n", api.MostBody) + "0\r\n\r\n",
	} {
		if got := right(t, s); string(got.Body) != full {
			t.Errorf("%.80q: %d bytes", s, len(got.Body))
		}
	}
	for _, s := range []string{
		chunked + "1001\r\n",
		chunked + "001001\r\n",
		chunked + "ffffff\r\n",
		chunked + "1000\r\n" + full + "\r\n1\r\n",
		chunked + "fff\r\n" + full[1:] + "\r\n2\r\n",
		chunked + "1\r\nb\r\n1000\r\n",
		chunked + strings.Repeat("1\r\nb\r\n", api.MostBody) + "1\r\n",
	} {
		refused(t, s, 413)
	}
	for _, s := range []string{
		chunked + "1000000", chunked + "0000000", chunked + "\r", chunked + "1;", chunked + "1 ", chunked + " ", chunked + "0x", chunked + "-", chunked + "1\n",
		chunked + "1001\ra", chunked + "0\r\nx", chunked + "0\r\n0", chunked + "2\r\nb\r\n", chunked + "1\r\nbb", chunked + "1\r\n\r\n", chunked + "1\r\nb\r\n\r", chunked + "0\r\n\r\r",
	} {
		refused(t, s, 400)
	}
}

// TestFeedPieces: the requests ahead of what is wrong are told with it.
func TestFeedPieces(t *testing.T) {
	get, post := simple+"\r\n", "POST /x HTTP/1.1\r\nhost: a\r\ncontent-length: 2\r\n\r\nhi"
	for bad, want := range map[string]int{
		"": 0, "\r\n": 0, "GET": 0, "\x00": 400, "GET / HTTP/1.1\r\n\r\n": 400,
		simple + "content-length: 9999\r\n\r\n": 413, simple + "x: " + strings.Repeat("a", api.MostHead): 431,
	} {
		p := http.New()
		l, status := p.Feed([]byte(get + post + "\r\n\r\n" + get + bad))
		if status != want || p.Ended() != (want != 0) || len(l) != 3 || l[0].Target != "/" || l[1].Target != "/x" || string(l[1].Body) != "hi" || l[2].Target != "/" || len(l[2].Body) != 0 {
			t.Errorf("%.60q: %d, %+v", bad, status, l)
		}
	}
	closing := strings.Replace(get, "host", "connection:close\r\nhost", 1)
	l, status := http.New().Feed([]byte(get + closing + "\x00" + get))
	if status != 0 || len(l) != 2 || l[0].Close || !l[1].Close {
		t.Error(l, status)
	}
	p := http.New()
	for _, b := range [][]byte{nil, {}, []byte("\r\n"), nil} {
		if l, status := p.Feed(b); len(l) != 0 || status != 0 || p.Ended() {
			t.Error(l, status)
		}
	}
	// A body isn't waited for behind its last byte, nor is more of it taken.
	if l, status := p.Feed([]byte(post[:len(post)-1])); len(l) != 0 || status != 0 {
		t.Error(l, status)
	}
	if l, status := p.Feed([]byte("i" + get[:3])); len(l) != 1 || status != 0 || string(l[0].Body) != "hi" {
		t.Error(l, status)
	}
	if l, status := p.Feed([]byte(get[3:])); len(l) != 1 || status != 0 || l[0].Method != "GET" || len(l[0].Body) != 0 {
		t.Error(l, status)
	}
}

// TestEveryCut: each text cut at each place into two.
func TestEveryCut(t *testing.T) {
	for _, s := range []string{
		"\r\nGET / HTTP/1.1\r\nhost: a\r\n\r\nPOST /x HTTP/1.1\r\nHost:  a \r\nContent-Length: 2\r\n\r\nhiPUT /y HTTP/1.1\r\nhost: a\r\ntransfer-encoding: chunked\r\n\r\n2\r\nab\r\n01\r\nc\r\n0\r\n\r\n",
		simple + "\r\nGET / HTTP/1.0\r\nconnection: Keep-Alive\r\n\r\nGET /z HTTP/1.0\r\n\r\n" + simple + "\r\n",
		simple + "\r\n" + simple + "content-length: 1\r\n\r\na\x00" + simple,
		simple + "\r\n" + simple + "transfer-encoding: chunked\r\n\r\nfff\r\n" + strings.Repeat("a", 4095) + "\r\n2\r\nab\r\n",
	} {
		want := reading(s)
		for i := range len(s) + 1 {
			cut(t, s, []int{i}, want)
		}
	}
}

func TestNilAndNew(t *testing.T) {
	var p *http.Parser
	for _, b := range []string{"", simple + "\r\n", "\x00"} {
		if l, status := p.Feed([]byte(b)); len(l) != 0 || status != 0 || p.Ended() {
			t.Error(l, status)
		}
	}
	for _, p := range []*http.Parser{http.New(), new(http.Parser)} {
		if p.Ended() {
			t.Error("ended at first")
		}
		if l, status := p.Feed([]byte(simple + "\r\n")); len(l) != 1 || status != 0 || p.Ended() {
			t.Error(l, status)
		}
	}
}

// Parsers don't influence one another.
func TestApart(t *testing.T) {
	texts := []string{simple + "content-length: 3\r\n\r\nabc", "POST /other HTTP/1.1\r\nHOST: b\r\ntransfer-encoding: chunked\r\n\r\n3\r\nxyz\r\n0\r\n\r\n", "GET / HTTP/1.1\r\n\r\n"}
	var parsers []*http.Parser
	for range texts {
		parsers = append(parsers, http.New())
	}
	got := make([]string, len(texts))
	for i := range slices.Max([]int{len(texts[0]), len(texts[1]), len(texts[2])}) {
		for j, s := range texts {
			if i < len(s) {
				l, status := parsers[j].Feed([]byte(s[i : i+1]))
				if len(l) > 0 || status != 0 {
					got[j] += fmt.Sprint(l, status)
				}
			}
		}
	}
	want := []string{"[{GET / [{host a} {content-length 3}] [97 98 99] false}] 0", "[{POST /other [{host b} {transfer-encoding chunked}] [120 121 122] false}] 0", "[] 400"}
	if !slices.Equal(got, want) {
		t.Error(got)
	}
}
