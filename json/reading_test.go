package json_test

import (
	stdjson "encoding/json"
	"math/rand"
	"regexp"
	"strings"
	"testing"
	"unicode/utf8"

	"beacon/api"
	"beacon/json"
)

// This is the chapter's grammar read a second time: byte by byte, with a stack
// of what is open, where the program goes from rule to rule.

// numberMoves are what may follow within a number, from state to state.
var numberMoves = map[string]map[string]string{
	"-": {"0": "zero", "123456789": "whole"},
	"zero": {
		".": "point", "eE": "e",
	},
	"whole": {"0123456789": "whole", ".": "point", "eE": "e"},
	"point": {"0123456789": "part"},
	"part":  {"0123456789": "part", "eE": "e"},
	"e":     {"+-": "sign", "0123456789": "power"},
	"sign":  {"0123456789": "power"},
	"power": {"0123456789": "power"},
}

var numberEnds = map[string]bool{"zero": true, "whole": true, "part": true, "power": true}

var escapes = regexp.MustCompile(`^(\\["\\/bfnrt]|\\u[0-9a-cefA-CEF][0-9a-fA-F]{3}|\\u[dD][0-7][0-9a-fA-F]{2}` +
	`|\\u[dD][89abAB][0-9a-fA-F]{2}\\u[dD][c-fC-F][0-9a-fA-F]{2})`)

type open struct {
	kind byte // '[' or '{'
	keys map[string]bool
}

type reader struct {
	s     string
	at    int
	state string
	stack []open
}

// reading is what Parse is to answer of s: the place and the error.
func reading(s string) (int, api.Errno) {
	if len(s) > api.MostText {
		return 0, api.ErrLarge
	}
	r := &reader{s: s, state: "value"}
	for r.at < len(s) {
		if e := r.step(); e != api.OK {
			return r.at, e
		}
	}
	if numberEnds[r.state] {
		r.ended()
	}
	if r.state != "after" || len(r.stack) > 0 {
		return len(s), api.ErrForm
	}
	return 0, api.OK
}

// ended: a value has.
func (r *reader) ended() { r.state = "after" }

func (r *reader) step() api.Errno {
	c := r.s[r.at]
	if moves := numberMoves[r.state]; moves != nil {
		for set, to := range moves {
			if strings.IndexByte(set, c) >= 0 {
				r.state = to
				r.at++
				return api.OK
			}
		}
		if !numberEnds[r.state] {
			return api.ErrForm
		}
		r.ended()
		return api.OK
	}
	if strings.IndexByte(" \t\r\n", c) >= 0 {
		r.at++
		return api.OK
	}
	switch r.state {
	case "value", "first":
		return r.value(c)
	case "key", "firstkey":
		return r.key(c)
	case "colon":
		r.state = "value"
		return r.past(c == ':')
	}
	return r.after(c)
}

func (r *reader) past(ok bool) api.Errno {
	if !ok {
		return api.ErrForm
	}
	r.at++
	return api.OK
}

func (r *reader) value(c byte) api.Errno {
	switch {
	case c == ']' && r.state == "first":
		return r.close()
	case c == '[' || c == '{':
		if len(r.stack) == api.MostDepth {
			return api.ErrLarge
		}
		r.stack = append(r.stack, open{kind: c, keys: map[string]bool{}})
		r.state = map[byte]string{'[': "first", '{': "firstkey"}[c]
		return r.past(true)
	case c == '"':
		r.ended()
		_, e := r.str()
		return e
	case c == '-':
		r.state = "-"
		return r.past(true)
	case '0' <= c && c <= '9':
		r.state = "-"
		return r.step()
	}
	for _, w := range []string{"true", "false", "null"} {
		if c == w[0] {
			r.ended()
			for i := range w {
				if r.at == len(r.s) || r.s[r.at] != w[i] {
					return api.ErrForm
				}
				r.at++
			}
			return api.OK
		}
	}
	return api.ErrForm
}

func (r *reader) key(c byte) api.Errno {
	if c == '}' && r.state == "firstkey" {
		return r.close()
	}
	if c != '"' {
		return api.ErrForm
	}
	mark := r.at
	k, e := r.str()
	if e != api.OK {
		return e
	}
	keys := r.stack[len(r.stack)-1].keys
	if keys[k] {
		r.at = mark
		return api.ErrForm
	}
	keys[k] = true
	r.state = "colon"
	return api.OK
}

func (r *reader) after(c byte) api.Errno {
	if len(r.stack) == 0 {
		return api.ErrForm
	}
	kind := r.stack[len(r.stack)-1].kind
	switch {
	case c == ',':
		r.state = map[byte]string{'[': "value", '{': "key"}[kind]
		return r.past(true)
	case c == kind+2: // ] stands two behind [, and } two behind {
		return r.close()
	}
	return api.ErrForm
}

func (r *reader) close() api.Errno {
	r.stack = r.stack[:len(r.stack)-1]
	r.ended()
	return r.past(true)
}

// str goes past a string, and gives what encoding/json takes it for.
func (r *reader) str() (string, api.Errno) {
	mark := r.at
	r.at++
	for r.at < len(r.s) {
		c, size := utf8.DecodeRuneInString(r.s[r.at:])
		switch {
		case c == '"':
			r.at++
			var k string
			if err := stdjson.Unmarshal([]byte(r.s[mark:r.at]), &k); err != nil {
				panic(err)
			}
			return k, api.OK
		case c == '\\':
			size = len(escapes.FindString(r.s[r.at:]))
			if size == 0 {
				return "", api.ErrForm
			}
		case c < 32 || c == utf8.RuneError && size == 1:
			return "", api.ErrForm
		}
		r.at += size
	}
	return "", api.ErrForm
}

// taken is the value that encoding/json takes a text for.
func taken(t *testing.T, s string) json.Value {
	t.Helper()
	d := stdjson.NewDecoder(strings.NewReader(s))
	d.UseNumber()
	return takenOf(t, d, token(t, d))
}

func token(t *testing.T, d *stdjson.Decoder) stdjson.Token {
	t.Helper()
	x, err := d.Token()
	if err != nil {
		t.Fatal(err)
	}
	return x
}

func takenOf(t *testing.T, d *stdjson.Decoder, x stdjson.Token) json.Value {
	switch x := x.(type) {
	case nil:
		return json.Null{}
	case bool:
		return json.Bool(x)
	case stdjson.Number:
		return json.Number(x)
	case string:
		return json.Text(x)
	}
	if x == stdjson.Delim('[') {
		out := json.List{}
		for y := token(t, d); y != stdjson.Delim(']'); y = token(t, d) {
			out = append(out, takenOf(t, d, y))
		}
		return out
	}
	out := json.Object{}
	for y := token(t, d); y != stdjson.Delim('}'); y = token(t, d) {
		out = append(out, json.Member{Key: y.(string), Value: takenOf(t, d, token(t, d))})
	}
	return out
}

// held holds what Parse answers of s against the second reading.
func held(t *testing.T, s string) {
	t.Helper()
	v, at, e := json.Parse(s)
	wantAt, wantE := reading(s)
	if at != wantAt || e != wantE {
		t.Fatalf("Parse(%q): %d, %v, want %d, %v", s, at, e, wantAt, wantE)
	}
	if e != api.OK {
		if v != nil {
			t.Fatalf("Parse(%q): %v beside %v", s, v, e)
		}
		return
	}
	if want := taken(t, s); !same(v, want) {
		t.Fatalf("Parse(%q): %#v, want %#v", s, v, want)
	}
}

// TestPieces asks of all texts of a few pieces, theme by theme.
func TestPieces(t *testing.T) {
	for _, c := range []struct {
		most                int
		ahead, behind, take string
	}{
		{6, "", "", "[ ] { } , : \"a\" 1"},
		{5, "", "", "[ ] { } , : \" a 1 \\ true nul e -"},
		{6, "", "", "- + 0 1 . e E"},
		{5, "[", "]", "- + 0 9 . e E ,"},
		{6, "", "", "t r u e n l f a s"},
		{5, "\"", "\"", "a \\ \" u \\u \\u0041 \\ud800 \\uDBFF \\udc00 \\uDfFf \\ud83d \\n \\x \\u12 d800"},
		{5, "\"", "", "a \xe2 \x82 \xac \xed \xa0 \x80 \xf4 \x90 \\ é \x7f \x1f \xff \uFFFD"},
		{5, "{", "}", "\"a\" \"b\" \"\\u0061\" \"\" :1 : , 1"},
		{4, "", "", "\x00 \t \n \r \v \f \uFEFF \u00a0 1 [ ] \xff"},
	} {
		pieces := strings.Split(c.take, " ")
		if strings.Contains(c.take, "\x00") {
			pieces = append(pieces, " ")
		}
		everyText(pieces, c.most, c.ahead, func(s string) {
			held(t, s)
			held(t, s+c.behind)
		})
	}
}

func everyText(pieces []string, most int, ahead string, ask func(string)) {
	ask(ahead)
	if most == 0 {
		return
	}
	for _, p := range pieces {
		everyText(pieces, most-1, ahead+p, ask)
	}
}

// TestDrawnTexts asks of texts that are ones, and of ones with a few bytes
// changed, dropped, doubled or cut off.
func TestDrawnTexts(t *testing.T) {
	r := rand.New(rand.NewSource(18))
	const others = "[]{},:\"\\ 0-.eutfn\x00\xff\x80\n"
	for range 40000 {
		s := drawnText(r, drawn(r, 4))
		held(t, s)
		b := []byte(s)
		for range 1 + r.Intn(3) {
			if len(b) == 0 {
				break
			}
			i := r.Intn(len(b))
			switch r.Intn(4) {
			case 0:
				b[i] = others[r.Intn(len(others))]
			case 1:
				b = append(b[:i], b[i+1:]...)
			case 2:
				b = append(b[:i+1], b[i:]...)
			case 3:
				b = b[:i]
			}
			held(t, string(b))
		}
	}
}

// drawnText is a text of the value, with blanks and escapes here and there.
func drawnText(r *rand.Rand, v json.Value) string {
	blank := func() string { return strings.Repeat(" \t\n\r"[r.Intn(4):][:1], r.Intn(12)/10) }
	switch v := v.(type) {
	case json.Text:
		return blank() + drawnString(r, string(v)) + blank()
	case json.List:
		var parts []string
		for _, x := range v {
			parts = append(parts, drawnText(r, x))
		}
		return blank() + "[" + blank() + strings.Join(parts, ",") + "]" + blank()
	case json.Object:
		var parts []string
		for _, m := range v {
			parts = append(parts, blank()+drawnString(r, m.Key)+blank()+":"+drawnText(r, m.Value))
		}
		return blank() + "{" + blank() + strings.Join(parts, ",") + "}" + blank()
	}
	return blank() + json.Print(v) + blank()
}

func drawnString(r *rand.Rand, s string) string {
	var b strings.Builder
	b.WriteByte('"')
	for _, c := range s {
		short := strings.IndexRune("\"\\/\b\f\n\r\t", c)
		switch {
		case short >= 0 && (c < 32 || c != '/') && r.Intn(2) == 0:
			b.WriteByte('\\')
			b.WriteByte("\"\\/bfnrt"[short])
		case c < 32 || c == '"' || c == '\\' || r.Intn(4) == 0:
			b.WriteString(units(r, c))
		default:
			b.WriteRune(c)
		}
	}
	return b.String() + "\""
}

// units is the rune in one \u, or two.
func units(r *rand.Rand, c rune) string {
	if c >= 0x10000 {
		return units(r, 0xd800+(c-0x10000)>>10) + units(r, 0xdc00+(c-0x10000)&0x3ff)
	}
	digits := []string{"0123456789abcdef", "0123456789ABCDEF"}[r.Intn(2)]
	return `\u` + string([]byte{digits[c>>12], digits[c>>8&15], digits[c>>4&15], digits[c&15]})
}
