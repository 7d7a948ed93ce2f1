package json_test

import (
	"math/rand"
	"strings"
	"testing"
	"unicode/utf8"

	"beacon/api"
	"beacon/json"
)

// strange is a Value of none of the chapter's kinds, whose Kind isn't to be asked.
type strange struct{ json.Text }

func (strange) Kind() int { panic("asked for its Kind") }

func TestPrint(t *testing.T) {
	for _, c := range []struct {
		v    json.Value
		want string
	}{
		{nil, "null"},
		{json.Null{}, "null"},
		{json.Bool(true), "true"},
		{json.Bool(false), "false"},
		{json.Number("-1.50E+07"), "-1.50E+07"},
		{json.Number(""), ""},
		{json.Number("no number\n\xff"), "no number\n\xff"},
		{json.Text(""), `""`},
		{json.Text("a/b'<>&\x7f\u0080\u2028\uFEFF\uFFFD\U0010FFFF"), "\"a/b'<>&\x7f\u0080\u2028\uFEFF\uFFFD\U0010FFFF\""},
		{json.Text("\"\\"), `"\"\\"`},
		{json.Text("\x00\b\t\n\f\r\x0e\x1f "), `"\u0000\u0008\u0009\u000a\u000c\u000d\u000e\u001f "`},
		{json.Text("é\n"), "\"é\\u000a\""},
		{json.Text("\xff\xe2\x82a\xe2\x82"), "\"\uFFFD\uFFFD\uFFFDa\uFFFD\uFFFD\""},
		{json.Text("\xed\xa0\x80\xc0\x80\xf4\x90\x80\x80"), "\"" + strings.Repeat("\uFFFD", 9) + "\""},
		{json.List(nil), "[]"},
		{json.List{}, "[]"},
		{json.Object(nil), "{}"},
		{json.Object{}, "{}"},
		{json.List{nil, json.Null{}, json.List{nil}}, "[null,null,[null]]"},
		{json.List{json.Number("2"), json.Number("1"), json.Text("0")}, `[2,1,"0"]`},
		{json.Object{{}, {Key: "b"}, {Key: "a", Value: json.List{}}, {Key: "b", Value: json.Object{{}}}}, `{"":null,"b":null,"a":[],"b":{"":null}}`},
		{json.Object{{Key: "\"\\\n\xffé", Value: json.Bool(true)}}, "{\"\\\"\\\\\\u000a\uFFFDé\":true}"},
		{strange{"a"}, "null"},
		{json.List{strange{"a"}, (*json.Text)(nil), json.Number("1")}, "[null,null,1]"},
	} {
		if s := json.Print(c.v); s != c.want {
			t.Errorf("%#v: %q, want %q", c.v, s, c.want)
		}
	}
}

// TestPrintRunes holds the text of every single rune, and of every two bytes,
// against the chapter's sentence.
func TestPrintRunes(t *testing.T) {
	for r := rune(0); r <= utf8.MaxRune; r++ {
		if r >= 0xd800 && r < 0xe000 {
			continue
		}
		want := string(r)
		switch {
		case r == '"' || r == '\\':
			want = "\\" + want
		case r < 32:
			want = `\u00` + string([]byte{"01"[r/16], "0123456789abcdef"[r%16]})
		}
		if s := json.Print(json.Text(r)); s != "\""+want+"\"" {
			t.Fatalf("%U: %q", r, s)
		}
	}
	for a := 0x80; a < 0x100; a++ {
		for b := 0x80; b < 0x100; b++ {
			two := string([]byte{byte(a), byte(b)})
			want := "\uFFFD\uFFFD"
			if utf8.ValidString(two) {
				want = two
			}
			if s := json.Print(json.Text(two)); s != "\""+want+"\"" {
				t.Fatalf("%x: %q", two, s)
			}
		}
	}
}

// Values nested far deeper than Parse takes them are printed all the same.
func TestPrintDeep(t *testing.T) {
	const deep = 1 << 16
	var v json.Value = json.Null{}
	for range deep / 2 {
		v = json.Object{{Key: "a", Value: json.List{v}}}
	}
	if s := json.Print(v); s != strings.Repeat(`{"a":[`, deep/2)+"null"+strings.Repeat("]}", deep/2) {
		t.Error(len(s))
	}
	if x, ok := json.Get(v, "a"); !ok || len(json.Print(x)) != 8*deep/2+4-6 {
		t.Error(ok)
	}
}

// TestBackAndForth: P18.3, of drawn values and of what texts are parsed to.
func TestBackAndForth(t *testing.T) {
	r := rand.New(rand.NewSource(183))
	parsed := 0
	for range 40000 {
		v := drawn(r, r.Intn(8))
		s := json.Print(v)
		if len(s) > api.MostText {
			continue
		}
		parsed++
		back, at, e := json.Parse(s)
		if e != api.OK || at != 0 || !same(back, v) {
			t.Fatalf("%#v, %q: %#v, %d, %v", v, s, back, at, e)
		}
		if strings.ContainsAny(s, "\t\r\n") {
			t.Fatalf("%q", s)
		}
		if x, _, e := json.Parse(drawnText(r, v)); e == api.OK && json.Print(x) != s {
			t.Fatalf("%q: %q", s, json.Print(x))
		}
	}
	if parsed < 30000 {
		t.Error("too few values", parsed)
	}
}

// At the edges of P18.3: as many lists and objects in one another, and as many
// bytes, as are taken.
func TestBackAndForthAtTheEdges(t *testing.T) {
	var deep json.Value = json.Text("a")
	for i := range api.MostDepth {
		if i%2 == 0 {
			deep = json.List{deep, json.Number("1")}
		} else {
			deep = json.Object{{Key: "\n", Value: deep}}
		}
	}
	long := json.Text(strings.Repeat("\n", (api.MostText-2)/6) + strings.Repeat("a", (api.MostText-2)%6))
	for _, v := range []json.Value{deep, long, json.Number(strings.Repeat("7", api.MostText))} {
		s := json.Print(v)
		if back, _, e := json.Parse(s); e != api.OK || !same(back, v) {
			t.Errorf("%.20q: %v", s, e)
		}
	}
	if s := json.Print(long); len(s) != api.MostText {
		t.Error(len(s))
	}
	if _, at, e := json.Parse(json.Print(json.List{deep})); at == 0 || e != api.ErrLarge {
		t.Error(at, e)
	}
	if _, at, e := json.Parse(json.Print(long + "a")); at != 0 || e != api.ErrLarge {
		t.Error(at, e)
	}
}
