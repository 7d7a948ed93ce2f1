package http_test

import (
	"bufio"
	"bytes"
	"io"
	"math"
	nethttp "net/http"
	"strconv"
	"strings"
	"testing"

	"beacon/http"
)

func reasons() map[int]string {
	return map[int]string{
		200: "OK", 202: "Accepted", 400: "Bad Request", 404: "Not Found", 405: "Method Not Allowed", 409: "Conflict",
		413: "Content Too Large", 429: "Too Many Requests", 431: "Request Header Fields Too Large", 503: "Service Unavailable",
	}
}

func TestRespond(t *testing.T) {
	for _, body := range []string{"", "{}", "a\r\n\r\n\x00\xff", strings.Repeat("x", 100000)} {
		for status := range 1000 {
			reason, known := reasons()[status]
			if !known {
				reason = "Unknown"
			}
			three := strconv.Itoa(status)
			for len(three) < 3 {
				three = "0" + three
			}
			want := "HTTP/1.1 " + three + " " + reason + "\r\ncontent-length: " + strconv.Itoa(len(body)) + "\r\n"
			if len(body) > 9 && !known {
				continue
			}
			if got := string(http.Respond(status, []byte(body), false)); got != want+"\r\n"+body {
				t.Fatalf("%d: %.200q", status, got)
			}
			if got := string(http.Respond(status, []byte(body), true)); got != want+"connection: close\r\n\r\n"+body {
				t.Fatalf("%d: %.200q", status, got)
			}
		}
	}
}

// The number is taken modulo 1000, without a sign; the reason is that of the
// status as it was handed in.
func TestRespondNumbers(t *testing.T) {
	for status, want := range map[int]string{
		0: "000 Unknown", 7: "007 Unknown", 42: "042 Unknown", 999: "999 Unknown", 1000: "000 Unknown", 1200: "200 Unknown", 200: "200 OK", 2202: "202 Unknown",
		-1: "001 Unknown", -200: "200 Unknown", -999: "999 Unknown", -1000: "000 Unknown", -1404: "404 Unknown", 100503: "503 Unknown",
		math.MaxInt64: "807 Unknown", math.MinInt64: "808 Unknown", math.MaxInt32: "647 Unknown",
	} {
		if got := string(http.Respond(status, nil, false)); got != "HTTP/1.1 "+want+"\r\ncontent-length: 0\r\n\r\n" {
			t.Errorf("%d: %q", status, got)
		}
	}
}

// Another reader of HTTP takes a response for what it was made of.
func TestRespondRead(t *testing.T) {
	for status, reason := range reasons() {
		for _, closes := range []bool{false, true} {
			b := http.Respond(status, []byte("{\"a\":1}"), closes)
			r, err := nethttp.ReadResponse(bufio.NewReader(bytes.NewReader(b)), nil)
			if err != nil {
				t.Fatal(status, err)
			}
			body, err := io.ReadAll(r.Body)
			if err != nil || string(body) != "{\"a\":1}" || r.StatusCode != status || r.Status != strconv.Itoa(status)+" "+reason || r.Close != closes || r.ContentLength != 7 {
				t.Error(r, err)
			}
		}
	}
}

func TestRespondMemory(t *testing.T) {
	body := append(make([]byte, 0, 20), "hello"...)
	copy(body[5:20], "roomroomroomroo")
	first := http.Respond(200, body, false)
	second := http.Respond(200, body, false)
	clear(first[:cap(first)])
	if string(body[:20]) != "helloroomroomroomroo" || !bytes.HasSuffix(second, []byte("\r\n\r\nhello")) {
		t.Errorf("%q, %q", body[:20], second)
	}
	clear(body[:20])
	if !bytes.HasSuffix(second, []byte("\r\n\r\nhello")) {
		t.Errorf("%q", second)
	}
}
