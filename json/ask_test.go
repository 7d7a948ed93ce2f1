package json_test

import (
	"errors"
	"math/rand"
	"runtime"
	"strconv"
	"strings"
	"testing"

	"beacon/json"
)

// all are values of each kind, and some of none.
func all() []json.Value {
	text, list, object := json.Text("a"), json.List{json.Text("a")}, json.Object{{Key: "a"}}
	return []json.Value{
		nil, json.Null{}, json.Bool(true), json.Number("1"), json.Text(""), text, json.List(nil), json.List{}, list, json.Object(nil), json.Object{}, object,
		strange{"a"}, &text, &list, &object, (*json.Text)(nil), (*json.List)(nil), (*json.Object)(nil), &json.Null{},
	}
}

func TestGet(t *testing.T) {
	o := json.Object{
		{Key: "b", Value: json.Number("1")},
		{Key: "a", Value: json.Text("first")},
		{Key: "a", Value: json.Text("second")},
		{Key: "", Value: json.List{json.Null{}}},
		{Key: "nil"},
		{Key: "nil", Value: json.Text("behind")},
		{Key: "é"},
		{Key: "o", Value: json.Object{{Key: "x", Value: json.Null{}}}},
	}
	for key, want := range map[string]json.Value{
		"b": json.Number("1"), "a": json.Text("first"), "": json.List{json.Null{}}, "nil": nil, "é": nil, "o": json.Object{{Key: "x", Value: json.Null{}}},
	} {
		if v, ok := json.Get(o, key); !ok || !same(v, want) {
			t.Errorf("%q: %v, %v", key, v, ok)
		}
	}
	for _, key := range []string{"A", "x", "b ", "e\u0301", "\x00"} {
		if v, ok := json.Get(o, key); ok || v != nil {
			t.Errorf("%q: %v, %v", key, v, ok)
		}
	}
	for _, v := range all() {
		x, ok := json.Get(v, "a")
		if object, is := v.(json.Object); x != nil || ok != (is && len(object) > 0) {
			t.Errorf("%#v: %v, %v", v, x, ok)
		}
	}
}

func TestAs(t *testing.T) {
	for _, v := range all() {
		want, is := v.(json.Text)
		if s, ok := json.AsText(v); ok != is || s != string(want) {
			t.Errorf("AsText(%#v): %q, %v", v, s, ok)
		}
		list, is := v.(json.List)
		if l, ok := json.AsList(v); ok != is || !same(l, list) || !ok && l != nil {
			t.Errorf("AsList(%#v): %v, %v", v, l, ok)
		}
	}
	if s, ok := json.AsText(json.Text("\xffé\n")); !ok || s != "\xffé\n" {
		t.Errorf("%q", s)
	}
	l := json.List{nil, json.List{nil, strange{"b"}}, json.Object{{Key: "a"}, {Key: "a", Value: json.Text("x")}}}
	if x, ok := json.AsList(l); !ok || !same(x, l) {
		t.Error(x, ok)
	}
}

// panicked is what the call panics with.
func panicked(call func()) (what any) {
	defer func() { what = recover() }()
	call()
	return nil
}

func TestMust(t *testing.T) {
	assertion := func(what any) bool {
		err, ok := what.(runtime.Error)
		var failed *runtime.TypeAssertionError
		return ok && errors.As(err, &failed)
	}
	for _, v := range all() {
		if text, is := v.(json.Text); !is {
			if what := panicked(func() { json.MustText(v) }); !assertion(what) {
				t.Errorf("MustText(%#v): %v", v, what)
			}
		} else if s := json.MustText(v); s != string(text) {
			t.Errorf("MustText(%#v): %q", v, s)
		}
		if object, is := v.(json.Object); !is {
			if what := panicked(func() { json.MustObject(v) }); !assertion(what) {
				t.Errorf("MustObject(%#v): %v", v, what)
			}
		} else if o := json.MustObject(v); !same(o, object) {
			t.Errorf("MustObject(%#v): %v", v, o)
		}
	}
	o := json.Object{{Key: "b", Value: json.List{nil}}, {Key: "a"}, {Key: "a", Value: json.Object{{Key: "c", Value: json.Text("x")}}}}
	if x := json.MustObject(o); !same(x, o) {
		t.Error(x)
	}
}

func TestWhole(t *testing.T) {
	for s, want := range map[json.Number]int64{
		"0": 0, "1": 1, "-1": -1, "9": 9, "10": 10, "-100": -100, "9223372036854775807": 1<<63 - 1, "-9223372036854775808": -1 << 63,
		"9007199254740993": 9007199254740993, "-9223372036854775807": -1<<63 + 1,
	} {
		if n, ok := json.Whole(s); !ok || n != want {
			t.Errorf("%s: %d, %v", s, n, ok)
		}
	}
	for _, s := range []json.Number{
		"", "-", "-0", "00", "01", "-01", "+1", "+0", "1.0", "1.", "1e3", "0e0", "1E0", " 1", "1 ", "1_000", "0x1", "0b1", "--1", "a", "٣", "1\x00", "\xff",
		"9223372036854775808", "-9223372036854775809", "18446744073709551616", "18446744073709551617", json.Number(strings.Repeat("9", 9000)), json.Number(strings.Repeat("0", 9000)),
	} {
		if n, ok := json.Whole(s); ok || n != 0 {
			t.Errorf("%.30s: %d, %v", s, n, ok)
		}
	}
	for _, v := range append(all(), json.Text("1"), json.List{json.Number("1")}, new(json.Number)) {
		_, is := v.(json.Number)
		if n, ok := json.Whole(v); ok != is || !ok && n != 0 {
			t.Errorf("%#v: %d, %v", v, n, ok)
		}
	}
	r := rand.New(rand.NewSource(184))
	for range 10000 {
		n := int64(r.Uint64()) >> r.Intn(64)
		if x, ok := json.Whole(json.Number(strconv.FormatInt(n, 10))); !ok || x != n {
			t.Fatal(n, x, ok)
		}
	}
}
