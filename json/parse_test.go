package json_test

import (
	"strings"
	"testing"

	"beacon/api"
	"beacon/json"
)

func TestKinds(t *testing.T) {
	for want, v := range []json.Value{json.Null{}, json.Bool(true), json.Number("1"), json.Text("a"), json.List{}, json.Object{}} {
		if v.Kind() != want {
			t.Errorf("%#v: %d", v, v.Kind())
		}
	}
	if json.List(nil).Kind() != 4 || json.Object(nil).Kind() != 5 || json.Bool(false).Kind() != 1 || json.Number("").Kind() != 2 || json.Text("").Kind() != 3 {
		t.Error("Kind of an empty value")
	}
}

func TestParseValues(t *testing.T) {
	for s, want := range map[string]json.Value{
		"null":                json.Null{},
		"true":                json.Bool(true),
		" \t\r\nfalse\n\r\t ": json.Bool(false),
		"0":                   json.Number("0"),
		"-0":                  json.Number("-0"),
		"-0.0e-00":            json.Number("-0.0e-00"),
		"10.010E+09":          json.Number("10.010E+09"),
		"1e99999999999":       json.Number("1e99999999999"),
		"\"\"":                json.Text(""),
		"\"\x7f\u0080\u2028\uFEFF\uFFFD\U0010FFFF\"": json.Text("\x7f\u0080\u2028\uFEFF\uFFFD\U0010FFFF"),
		`"\"\\\/\b\f\n\r\t"`:                         json.Text("\"\\/\b\f\n\r\t"),
		`"\u0000\u001F\u00e9\uFfFf\ud7ff\ue000"`:     json.Text("\x00\x1f\u00e9\uffff\ud7ff\ue000"),
		`"\ud800\udc00\uDBFF\uDFFF\ud83d\ude00"`:     json.Text("\U00010000\U0010ffff\U0001f600"),
		"[]":                                         json.List{},
		"[ ]":                                        json.List{},
		"{}":                                         json.Object{},
		"{ \n}":                                      json.Object{},
		"[1, 2.5e3]":                                 json.List{json.Number("1"), json.Number("2.5e3")},
		"[[],{},[[]]]":                               json.List{json.List{}, json.Object{}, json.List{json.List{}}},
		`{"b":1,"a":{"b":[null]},"":"","B":2}`: json.Object{
			{Key: "b", Value: json.Number("1")},
			{Key: "a", Value: json.Object{{Key: "b", Value: json.List{json.Null{}}}}},
			{Key: "", Value: json.Text("")},
			{Key: "B", Value: json.Number("2")},
		},
	} {
		v, at, e := json.Parse(s)
		if e != api.OK || at != 0 || !same(v, want) {
			t.Errorf("%q: %#v, %d, %v, want %#v", s, v, at, e, want)
		}
	}
}

func TestParsePlaces(t *testing.T) {
	for s, want := range map[string]int{
		// The text's end.
		"": 0, " ": 1, "[": 1, "[[": 2, "[1": 2, "[1,": 3, "[1, ": 4, "{": 1, "{\"a\"": 4, "{\"a\":": 5, "{\"a\":1": 6, "{\"a\":1,": 7,
		"\"": 1, "\"a": 2, "-": 1, "1.": 2, "1e": 2, "1e+": 3, "1e-": 3, "tru": 3, "fals": 4, "n": 1, "[tru": 4, "é": 0,
		// A byte that can't stand there.
		"[1,]": 3, "[,1]": 1, "[1 2]": 3, "[1}": 2, "]": 0, "{]": 1, "{,}": 1, "{1:2}": 1, "{a:1}": 1, "{\"a\"}": 4, "{\"a\":}": 5, "{\"a\":1,}": 7,
		"{\"a\" 1}": 5, "{\"a\":1 \"b\":2}": 7, "{\"a\":1:2}": 6, "null null": 5, "1,": 1, "[]]": 2, ",": 0, ":": 0, "'a'": 0, "/**/1": 0,
		"01": 1, "-01": 2, "00": 1, "+1": 0, ".5": 0, "1.e5": 2, "1.5.5": 3, "1e5e5": 3, "1e5.5": 3, "1e+-5": 3, "--1": 1, "-a": 1, "0x1": 1, "1_0": 1, "[-]": 2, "Infinity": 0,
		"\v1": 0, "1\f": 1, "1\x00": 1, "\x00": 0, "\uFEFF1": 0, "[\u00a01]": 1, "\xff": 0, "[\x801]": 1, "1\xe2\x82": 1,
		"\"a\nb\"": 2, "\"\x00\"": 1, "\"é\x1f\"": 3, "\"\t\"": 1, "\"a\"b": 3,
		// Words.
		"trux": 3, "truex": 4, "True": 0, "tRue": 1, "nil": 1, "nulL": 3, "fALSE": 1, "[fals]": 5, "true1": 4, "nan": 1, "{\"a\":no}": 6,
		// No UTF-8: the first byte of it, though the text ends behind it.
		"\"\xff\"": 1, "\"é\x80\"": 3, "\"\xe2\x82\"": 1, "\"\xe2\x82": 1, "\"\xed\xa0\x80\"": 1, "\"\xc0\x80\"": 1, "\"\xf4\x90\x80\x80\"": 1, "\"\xc3": 1, "{\"\xff\":1}": 2,
		// Escapes that are none: the backslash, though the text ends behind it.
		`"\x"`: 1, `"a\U0041"`: 2, `"\u12"`: 1, `"\u12`: 1, `"\u123`: 1, `"\u123g"`: 1, `"\u+123"`: 1, `"\u 123"`: 1, `"\u0x1f"`: 1, `"\u1_23"`: 1, `"\`: 1, `"\u`: 1, `"é\'"`: 3, "\"\\\n\"": 1, "\"\\\xff\"": 1, `"\uéé"`: 1, `{"\a":1}`: 2, `\n`: 0, `"\0"`: 1, `"\B"`: 1,
		// Surrogates without the other half: the first one's backslash.
		`"\ud800"`: 1, `"\ud800`: 1, `"\udc00"`: 1, `"a\udc00"`: 2, `"\ud83d\u0041"`: 1, `"\ud800\ud800\udc00"`: 1, `"\ud800\udc00\udc00"`: 13, `"\ud800\udbff"`: 1, `"\ud800\ue000"`: 1,
		`"\uDFFF\uD800"`: 1, `"\ud800x\udc00"`: 1, `"\ud800\n"`: 1, `"\ud800\x"`: 1, `"\ud800\udc0"`: 1, `"\ud800\`: 1, `"\ud800\Udc00"`: 1, "\"\\ud800\xff\"": 1, "\"\\ud800\x00\"": 1, `"\ud800/udc00"`: 1,
		// A key that stands there already: its quotation mark, whatever comes behind it.
		`{"a":1,"a":2}`: 7, `{"a":1, "a"`: 8, `{"a":1,"a"}`: 7, `{"a":1,"\u0061":2}`: 7, `{"":1,"":2}`: 6, `{"a":1,"b":2,"a":[}`: 13, `{"a":{"a":1},"a":2}`: 13, `{"a":1,"a`: 9, `{"a":1,"a\x":2}`: 9, `[{"a":1},{"a":1,"a":1}]`: 16,
		// The first one counts.
		"[1,,tru]": 3, "\"\\x\xff\"": 1, "\"\xff\\x\"": 1, "[\"\n\",]": 2,
	} {
		if v, at, e := json.Parse(s); v != nil || at != want || e != api.ErrForm {
			t.Errorf("%q: %v, %d, %v, want %d", s, v, at, e, want)
		}
	}
}

// A key is held against those of its own object alone.
func TestParseKeys(t *testing.T) {
	for _, s := range []string{`{"a":{"a":{"a":1}}}`, `[{"a":1},{"a":1}]`, "{\"a\":1,\"A\":2,\"\u00e1\":3,\"a\u0301\":4,\"\":5,\" \":6}"} {
		if _, at, e := json.Parse(s); at != 0 || e != api.OK {
			t.Errorf("%q: %d, %v", s, at, e)
		}
	}
}

func TestParseDepth(t *testing.T) {
	deep := func(n int) string { return strings.Repeat("[", n) + strings.Repeat("]", n) }
	objects := func(n int) string { return strings.Repeat("{\"a\":", n) + "1" + strings.Repeat("}", n) }
	for s, want := range map[string]struct {
		at int
		e  api.Errno
	}{
		deep(16):                           {0, api.OK},
		deep(17):                           {16, api.ErrLarge},
		objects(16):                        {0, api.OK},
		objects(17):                        {80, api.ErrLarge},
		strings.Repeat("[", 17):            {16, api.ErrLarge},
		strings.Repeat("[", 16):            {16, api.ErrForm},
		strings.Repeat("[", 16) + "{":      {16, api.ErrLarge},
		strings.Repeat("[", 16) + " {\xff": {17, api.ErrLarge},
		strings.Repeat("[", 16) + "]{":     {17, api.ErrForm},
		strings.Repeat("[", 15) + "],[":    {18, api.ErrForm},
		"[" + strings.Repeat(deep(15)+","+objects(15)+",", 9) + "1]": {0, api.OK},
		"[" + strings.Repeat(deep(15)+",", 9) + objects(16) + "]":    {1 + 9*31 + 75, api.ErrLarge},
		"[x" + strings.Repeat("[", 17):                               {1, api.ErrForm},
	} {
		if v, at, e := json.Parse(s); at != want.at || e != want.e || (v != nil) != (e == api.OK) {
			t.Errorf("%q: %v, %d, %v, want %v", s, v, at, e, want)
		}
	}
}

func TestParseLength(t *testing.T) {
	for _, c := range []struct {
		s  string
		at int
		e  api.Errno
	}{
		{strings.Repeat(" ", api.MostText-1) + "1", 0, api.OK},
		{strings.Repeat(" ", api.MostText), api.MostText, api.ErrForm},
		{strings.Repeat(" ", api.MostText) + "1", 0, api.ErrLarge},
		{"x" + strings.Repeat("1", api.MostText), 0, api.ErrLarge},
		{"\"" + strings.Repeat("é", api.MostText/2-1) + "\"", 0, api.OK},
		{"\"" + strings.Repeat("é", api.MostText/2) + "\"", 0, api.ErrLarge},
		{"[" + strings.Repeat("1,", api.MostText/2-1) + "]", api.MostText - 1, api.ErrForm},
		{strings.Repeat("[", api.MostText+1), 0, api.ErrLarge},
		{strings.Repeat("1", api.MostText), 0, api.OK},
	} {
		if v, at, e := json.Parse(c.s); at != c.at || e != c.e || (v != nil) != (e == api.OK) {
			t.Errorf("%d bytes, %.9q..: %d, %v, want %d, %v", len(c.s), c.s, at, e, c.at, c.e)
		}
	}
}
