package http_test

import (
	"math/rand"
	"reflect"
	"regexp"
	"slices"
	"strconv"
	"strings"
	"testing"

	"beacon/api"
	"beacon/http"
)

// This is the chapter read a second time: over the whole text, by patterns,
// where the program goes from byte to byte.

// told is what is to be told at a byte: a request, or a status.
type told struct {
	at      int
	request http.Request
	status  int
}

// beginnings matches what may yet become the parts, one behind the other.
func beginnings(parts ...string) string {
	out := ""
	for _, p := range slices.Backward(parts) {
		out = "(?:" + p + out + ")?"
	}
	return out
}

func longest(pattern string) *regexp.Regexp {
	r := regexp.MustCompile(`\A` + pattern)
	r.Longest()
	return r
}

const (
	requestLine = `([A-Z]{1,16}) (/[!-~]*) HTTP/1\.([01])\r\n`
	headerLine  = `([A-Za-z0-9-]+):([\t -~]*)\r\n`
)

var (
	emptyLines  = longest(`(?:\r\n)*`)
	wholeHead   = longest(requestLine + `((?:` + headerLine + `)*)\r\n`)
	headerLines = regexp.MustCompile(headerLine)
	someHead    = longest(beginnings(`[A-Z]{1,16}`, " ", "/[!-~]*", " ", "H", "T", "T", "P", "/", "1", `\.`, "[01]", `\r`, `\n`, `(?:`+headerLine+`)*`+
		`(?:`+beginnings(`[A-Za-z0-9-]+`, ":", `[\t -~]*`, `\r`)+`|\r)`))
	wholeSize = longest(`([0-9a-fA-F]{1,6})\r\n`)
	someSize  = longest(beginnings(`[0-9a-fA-F]{1,6}`, `\r`, `\n`))
	decimal   = regexp.MustCompile(`\A[0-9]{1,9}\z`)
)

// reading is all that a parser is to tell of s.
func reading(s string) []told {
	var out []told
	at := 0
	for {
		x, end := one(s[at:])
		if end == 0 {
			return out
		}
		x.at = at + end - 1
		out = append(out, x)
		at += end
		if x.status != 0 || x.request.Close {
			return out
		}
	}
}

// one is the first thing to be told of s, and how many bytes tell it; 0, if
// there is nothing yet.
func one(s string) (told, int) {
	skip := len(emptyLines.FindString(s))
	s = s[skip:]
	if strings.HasPrefix(s, "\r") {
		return stuck(s, skip, 1)
	}
	found := wholeHead.FindStringSubmatch(s)
	right := len(someHead.FindString(s))
	if found != nil {
		right = len(found[0])
	}
	// A byte past the most is told only where it is right itself.
	if right > api.MostHead+1 || right == api.MostHead+1 && found == nil {
		return told{status: 431}, skip + api.MostHead + 1
	}
	if found == nil {
		return stuck(s, skip, right)
	}
	x := told{request: http.Request{Method: found[1], Target: found[2]}}
	named := map[string][]string{}
	for _, h := range headerLines.FindAllStringSubmatch(found[4], -1) {
		name, value := strings.ToLower(h[1]), strings.Trim(h[2], "\t ")
		x.request.Headers = append(x.request.Headers, http.Header{Name: name, Value: value})
		named[name] = append(named[name], strings.ToLower(value))
	}
	old := found[3] == "0"
	x.request.Close = slices.Contains(named["connection"], "close") || old && !slices.Contains(named["connection"], "keep-alive")
	x.status = ofHeaders(old, named)
	if x.status != 400 && right > api.MostHead {
		x.status = 431
	}
	if x.status != 0 {
		return told{status: x.status}, skip + right
	}
	ahead := skip + right
	switch {
	case named["transfer-encoding"] != nil:
		return chunks(x, s[right:], ahead)
	case named["content-length"] != nil:
		n, _ := strconv.Atoi(named["content-length"][0])
		if len(s)-right < n {
			return told{}, 0
		}
		x.request.Body = []byte(s[right : right+n])
		return x, ahead + n
	}
	return x, ahead
}

// stuck: of s, which begins behind others, that many bytes are right.
func stuck(s string, ahead, right int) (told, int) {
	if right == len(s) {
		return told{}, 0
	}
	return told{status: 400}, ahead + right + 1
}

func ofHeaders(old bool, named map[string][]string) int {
	codings, lengths := named["transfer-encoding"], named["content-length"]
	switch {
	case !old && len(named["host"]) != 1, len(codings)+len(lengths) > 1, len(codings) == 1 && codings[0] != "chunked":
		return 400
	case len(lengths) == 1 && !decimal.MatchString(lengths[0]):
		return 400
	case len(lengths) == 1:
		if n, _ := strconv.Atoi(lengths[0]); n > api.MostBody {
			return 413
		}
	}
	return 0
}

// chunks: s is what stands behind the head, which ends that many bytes ahead.
func chunks(x told, s string, ahead int) (told, int) {
	for {
		found := wholeSize.FindStringSubmatch(s)
		if found == nil {
			return stuck(s, ahead, len(someSize.FindString(s)))
		}
		ahead, s = ahead+len(found[0]), s[len(found[0]):]
		n, _ := strconv.ParseInt(found[1], 16, 64)
		if int(n)+len(x.request.Body) > api.MostBody {
			return told{status: 413}, ahead
		}
		piece := s[:min(int(n), len(s))]
		s, ahead = s[len(piece):], ahead+len(piece)
		x.request.Body = append(x.request.Body, piece...)
		if !strings.HasPrefix(s, "\r\n") {
			right := 0
			if strings.HasPrefix(s, "\r") {
				right = 1
			}
			return stuck(s, ahead, right)
		}
		s, ahead = s[2:], ahead+2
		if n == 0 {
			return x, ahead
		}
	}
}

// alike holds requests against each other; a nil list is an empty one.
func alike(a, b http.Request) bool {
	return a.Method == b.Method && a.Target == b.Target && slices.Equal(a.Headers, b.Headers) && string(a.Body) == string(b.Body) && a.Close == b.Close
}

// held holds what a parser tells of the text, byte by byte, against the second
// reading; and of the text in the pieces that the cuts make.
func held(t *testing.T, s string, cuts ...[]int) {
	t.Helper()
	want := reading(s)
	bytewise := make([]int, 0, len(s))
	for i := range len(s) {
		bytewise = append(bytewise, i)
	}
	for _, c := range append([][]int{nil, bytewise}, cuts...) {
		cut(t, s, c, want)
	}
}

// cut feeds the text in the pieces that end where the cuts are.
func cut(t *testing.T, s string, cuts []int, want []told) {
	t.Helper()
	ends := len(want) > 0 && (want[len(want)-1].status != 0 || want[len(want)-1].request.Close)
	p, from := http.New(), 0
	for _, to := range append(slices.Clone(cuts), len(s)) {
		got, status := p.Feed([]byte(s[from:to]))
		from = to
		for len(want) > 0 && want[0].at < to && want[0].status == 0 {
			if len(got) == 0 || !alike(got[0], want[0].request) {
				t.Fatalf("%q cut at %v: up to %d %+v, want %+v", s, cuts, to, got, want[0].request)
			}
			got, want = got[1:], want[1:]
		}
		expected := 0
		if len(want) > 0 && want[0].at < to {
			expected = want[0].status
			want = nil
		}
		if status != expected || len(got) > 0 {
			t.Fatalf("%q cut at %v: up to %d %d, want %d; and %+v", s, cuts, to, status, expected, got)
		}
	}
	if p.Ended() != ends {
		t.Fatalf("%q cut at %v: Ended %v", s, cuts, p.Ended())
	}
}

const simple = "GET / HTTP/1.1\r\nhost: a\r\n"

// TestPieces asks of all texts of a few pieces, theme by theme.
func TestPieces(t *testing.T) {
	for _, c := range []struct {
		most         int
		ahead, takes string
	}{
		{5, "", "CR LF CRLF G GET SP / H HTTP/1.1 HTTP/1.0 a"},
		{4, "GET / ", "HTTP/ 1. 1 0 . HTTP CRLF CR 2 SP"},
		{5, simple, "CR LF CRLF a : SP TAB a: X-9: \x7f é"},
		{5, "GET / HTTP/1.1\r\n", "CRLF host:a HOST: host:b: SP CR content-length:1 x"},
		{5, simple, "CRLF content-length: transfer-encoding: 0 12 , chunked Chunked x"},
		{5, "GET / HTTP/1.0\r\n", "CRLF connection: Connection: close keep-alive CLOSE x , SP"},
		{5, simple + "connection:", "CRLF connection: close keep-alive Keep-Alive x"},
		{6, simple + "transfer-encoding: chunked\r\n\r\n", "CRLF CR LF 0 1 2 x a"},
		{5, simple + "Transfer-Encoding:CHUNKED\r\n\r\n", "CRLF 0 1 00 abc F 1000 1001 fff g ; SP"},
		{5, simple + "Content-Length:3\r\n\r\n", "a ab CRLF CR " + strings.ReplaceAll(simple, " ", "_")},
	} {
		var pieces []string
		for _, p := range strings.Split(c.takes, " ") {
			pieces = append(pieces, strings.NewReplacer("CR", "\r", "LF", "\n", "SP", " ", "TAB", "\t", "_", " ").Replace(p))
		}
		everyText(pieces, c.most, c.ahead, func(s string) { held(t, s) })
	}
}

func everyText(pieces []string, most int, ahead string, ask func(string)) {
	ask(ahead)
	if most == 0 {
		return
	}
	for _, p := range pieces {
		everyText(pieces, most-1, ahead+p, ask)
	}
}

// one of the texts.
func pick(r *rand.Rand, texts ...string) string { return texts[r.Intn(len(texts))] }

// of so many of the bytes.
func of(r *rand.Rand, n int, bytes string) string {
	var b strings.Builder
	for range n {
		b.WriteByte(bytes[r.Intn(len(bytes))])
	}
	return b.String()
}

func graphic() string {
	var b strings.Builder
	for c := byte(33); c < 127; c++ {
		b.WriteByte(c)
	}
	return b.String()
}

// cased is the name in letters great and small.
func cased(r *rand.Rand, s string) string {
	b := []byte(s)
	for i := range b {
		if r.Intn(2) == 0 {
			b[i] = strings.ToUpper(s)[i]
		}
	}
	return string(b)
}

// drawnRequest is the text of a request, mostly a right one.
func drawnRequest(r *rand.Rand) string {
	line := func(name, value string) string {
		return cased(r, name) + ":" + of(r, r.Intn(3), " \t") + value + of(r, r.Intn(3), " \t") + "\r\n"
	}
	var headers []string
	for range 1 + r.Intn(12)/11 - r.Intn(12)/11 {
		headers = append(headers, line("host", of(r, r.Intn(9), graphic())))
	}
	for range r.Intn(3) {
		headers = append(headers, line(of(r, 1+r.Intn(9), "abcXYZ019-"), of(r, r.Intn(20), graphic()+" \t")))
	}
	for range r.Intn(8) / 6 {
		headers = append(headers, line("connection", cased(r, pick(r, "close", "keep-alive", "keep-alive", "keep-alive", "upgrade", "keep-alive, close", ""))))
	}
	body := ""
	switch r.Intn(4) {
	case 0:
		body = of(r, r.Intn(44)*(1+r.Intn(10)/9*104), "ab\r\n0 ")
		headers = append(headers, line("content-length", strings.Repeat("0", r.Intn(12)/2)+strconv.Itoa(len(body))))
	case 1:
		body = drawnChunks(r)
		headers = append(headers, line("transfer-encoding", cased(r, pick(r, "chunked", "chunked", "chunked", "chunked", "chunked", "gzip", "chunked, chunked", ""))))
	}
	r.Shuffle(len(headers), func(i, j int) { headers[i], headers[j] = headers[j], headers[i] })
	return strings.Repeat("\r\n", r.Intn(8)/6) + of(r, 1+r.Intn(16), "ABCXYZ") + " /" + of(r, r.Intn(30), graphic()) + " HTTP/1." + pick(r, "1", "1", "0") + "\r\n" +
		strings.Join(headers, "") + "\r\n" + body
}

func drawnChunks(r *rand.Rand) string {
	var b strings.Builder
	for range r.Intn(5) {
		data := of(r, 1+r.Intn(40)*(1+r.Intn(9)/8*60), "ab\r\n0 ")
		size := cased(r, strconv.FormatInt(int64(len(data)), 16))
		b.WriteString(strings.Repeat("0", r.Intn(6-len(size)+1)) + size + "\r\n" + data + "\r\n")
	}
	return b.String() + strings.Repeat("0", 1+r.Intn(6)) + "\r\n\r\n"
}

func drawnCuts(r *rand.Rand, size int) []int {
	cuts := make([]int, r.Intn(6))
	for i := range cuts {
		cuts[i] = r.Intn(size + 1)
	}
	slices.Sort(cuts)
	return cuts
}

// TestDrawn asks of requests one behind the other, right ones and ones with a
// few bytes changed, dropped or doubled.
func TestDrawn(t *testing.T) {
	r := rand.New(rand.NewSource(19))
	const others = "\r\n:; /GaH.10\x00\x7f\x80\xff\t-"
	counts := map[int]int{}
	for range 12000 {
		s := ""
		for range 1 + r.Intn(4) {
			s += drawnRequest(r)
		}
		held(t, s, drawnCuts(r, len(s)), drawnCuts(r, len(s)))
		for _, x := range reading(s) {
			counts[x.status]++
		}
		b := []byte(s)
		for range 1 + r.Intn(2) {
			i := r.Intn(len(b))
			switch r.Intn(3) {
			case 0:
				b[i] = others[r.Intn(len(others))]
			case 1:
				b = slices.Delete(b, i, i+1)
			case 2:
				b = slices.Insert(b, i, b[i])
			}
		}
		held(t, string(b), drawnCuts(r, len(b)))
		for _, x := range reading(string(b)) {
			counts[x.status]++
		}
	}
	if counts[0] < 1000 || counts[400] < 1000 || counts[413] < 20 {
		t.Error("the drawn texts don't tell enough:", counts)
	}
}

// TestDrawnLong asks of heads whose end lies near the most bytes.
func TestDrawnLong(t *testing.T) {
	r := rand.New(rand.NewSource(431))
	counts := map[int]int{}
	for range 3000 {
		head := pick(r, simple, simple, simple+"content-length: 4097\r\n", simple+"content-length: 2\r\n", "GET / HTTP/1.1\r\n", "GET / HTTP/1.0\r\n", simple+"transfer-encoding: x\r\n")
		size := api.MostHead - len(head) - len("x:\r\n\r\n") + r.Intn(9) - 4
		s := strings.Repeat("\r\n", r.Intn(3)) + head + "x:" + of(r, size, graphic()) + "\r\n\r\nhi"
		if r.Intn(3) == 0 {
			b := []byte(s)
			b[len(b)-1-r.Intn(12)] = "\x00\r\n:"[r.Intn(4)]
			s = string(b)
		}
		held(t, s, drawnCuts(r, len(s)), []int{len(s) - 4}, []int{len(s) - 5})
		for _, x := range reading(s) {
			counts[x.status]++
		}
	}
	if counts[0] < 100 || counts[400] < 100 || counts[413] < 100 || counts[431] < 100 {
		t.Error("the drawn texts don't tell enough:", counts)
	}
}

// The second reading itself, at the chapter's examples.
func TestReading(t *testing.T) {
	get := http.Request{Method: "GET", Target: "/", Headers: []http.Header{{Name: "host", Value: "a"}}}
	for s, want := range map[string][]told{
		simple + "\r\n":                                          {{at: 26, request: get}},
		simple + "\r\n\r\n" + simple:                             {{at: 26, request: get}},
		"GET / HTTP/1.1\r\n\r\n":                                 {{at: 17, status: 400}},
		"GET /\r\n":                                              {{at: 5, status: 400}},
		"GET / HTTP/1.1":                                         nil,
		simple + strings.Repeat("a", 2100):                       {{at: api.MostHead, status: 431}},
		simple + "content-length: 4097\r\n\r\n":                  {{at: 48, status: 413}},
		simple + "transfer-encoding: chunked\r\n\r\n1001\r\n":    {{at: 60, status: 413}},
		simple + "transfer-encoding: chunked\r\n\r\n1\r\na\rb\n": {{at: 60, status: 400}},
	} {
		if got := reading(s); !reflect.DeepEqual(got, want) {
			t.Errorf("%.60q: %+v, want %+v", s, got, want)
		}
	}
}
