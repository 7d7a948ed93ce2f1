package json_test

import (
	"math/rand"
	"slices"
	"sync"
	"testing"

	"beacon/api"
	"beacon/json"
)

const room = 3

// roomy is the value with room behind each of its lists and objects, and in the
// room what nobody is to touch.
func roomy(v json.Value) json.Value {
	switch v := v.(type) {
	case json.List:
		out := make(json.List, len(v), len(v)+room)
		for i := range v {
			out[i] = roomy(v[i])
		}
		copy(out[len(v):cap(out)], json.List{json.Text("r"), json.Text("r"), json.Text("r")})
		return out
	case json.Object:
		out := make(json.Object, len(v), len(v)+room)
		for i, m := range v {
			out[i] = json.Member{Key: m.Key, Value: roomy(m.Value)}
		}
		for i := range room {
			out[:cap(out)][len(v)+i].Key = "r"
		}
		return out
	}
	return v
}

// whole tells whether the room of a roomy value is as it was.
func whole(v json.Value) bool {
	switch v := v.(type) {
	case json.List:
		spare := v[len(v):cap(v)]
		return len(spare) >= room && spare[0] == json.Text("r") && spare[1] == json.Text("r") && spare[2] == json.Text("r") &&
			!slices.ContainsFunc(v, func(x json.Value) bool { return !whole(x) })
	case json.Object:
		spare := v[len(v):cap(v)]
		return len(spare) >= room && spare[0].Key == "r" && spare[1].Key == "r" && spare[2].Key == "r" &&
			!slices.ContainsFunc(v, func(m json.Member) bool { return !whole(m.Value) })
	}
	return true
}

// spoil writes over all of a value's lists, with their room.
func spoil(v json.Value) {
	switch v := v.(type) {
	case json.List:
		for _, x := range v {
			spoil(x)
		}
		for i := range v[:cap(v)] {
			v[:cap(v)][i] = json.Text("spoilt")
		}
	case json.Object:
		for _, m := range v {
			spoil(m.Value)
		}
		for i := range v[:cap(v)] {
			v[:cap(v)][i] = json.Member{Key: "spoilt", Value: json.Text("spoilt")}
		}
	}
}

// lists are the lists and objects within a value, one by one.
func lists(v json.Value) []json.Value {
	var out []json.Value
	switch x := v.(type) {
	case json.List:
		out = append(out, x)
		for _, y := range x {
			out = append(out, lists(y)...)
		}
	case json.Object:
		out = append(out, x)
		for _, m := range x {
			out = append(out, lists(m.Value)...)
		}
	}
	return out
}

// lone holds that no two lists of an answer share memory: when one of them is
// written over, with its room, the others stand.
func lone(t *testing.T, answer func() json.Value) {
	t.Helper()
	for i := range lists(answer()) {
		v := answer()
		parts := lists(v)
		var own []json.Value // what the others are worth by themselves: they may hold the one
		for _, p := range parts {
			own = append(own, shallow(p))
		}
		flat(parts[i])
		for j, p := range parts {
			if j != i && !same(shallow(p), own[j]) {
				t.Fatalf("%v: list %d changed with list %d", answer(), j, i)
			}
		}
	}
}

// shallow is a list's members, with no more of an inner one than its kind.
func shallow(v json.Value) json.Value {
	var out json.List
	kind := func(x json.Value) json.Value {
		switch x.(type) {
		case json.List:
			return json.Text("list")
		case json.Object:
			return json.Text("object")
		}
		return x
	}
	switch v := v.(type) {
	case json.List:
		for _, x := range v {
			out = append(out, kind(x))
		}
	case json.Object:
		for _, m := range v {
			out = append(out, json.Text(m.Key), kind(m.Value))
		}
	}
	return out
}

// flat writes over one list alone, with its room.
func flat(v json.Value) {
	switch v := v.(type) {
	case json.List:
		clear(v[:cap(v)])
	case json.Object:
		clear(v[:cap(v)])
	}
}

// TestMemory: R3. What is handed in stays as it is, its room too; what is
// answered is new memory.
func TestMemory(t *testing.T) {
	r := rand.New(rand.NewSource(3))
	shared := json.List{json.Text("shared"), json.Object{{Key: "a", Value: json.List{json.Null{}}}}}
	for range 2000 {
		plain := json.Object{{Key: "a", Value: drawn(r, 4)}, {Key: "b", Value: json.List{drawn(r, 3), shared, shared}}}
		o := roomy(plain).(json.Object)
		l := o[1].Value.(json.List)
		for _, ask := range []func() json.Value{
			func() json.Value { v, _ := json.Get(o, "a"); return v },
			func() json.Value { v, _ := json.Get(o, "b"); return v },
			func() json.Value { v, _ := json.AsList(l); return v },
			func() json.Value { return json.MustObject(o) },
		} {
			before := json.Print(ask())
			spoil(ask())
			if !same(o, plain) || !whole(o) || json.Print(ask()) != before {
				t.Fatalf("%#v", o)
			}
		}
		json.Get(o, "x")
		json.Print(o)
		if !same(o, plain) || !whole(o) {
			t.Fatalf("%#v", o)
		}
	}
	twice := json.Object{{Key: "a", Value: json.List{shared, shared, json.Object{{Key: "b", Value: shared}}}}, {Key: "b", Value: shared}}
	lone(t, func() json.Value { return json.MustObject(twice) })
	lone(t, func() json.Value { v, _ := json.Get(twice, "a"); return v })
	lone(t, func() json.Value { v, _ := json.AsList(twice[0].Value); return v })
	lone(t, func() json.Value {
		v, _, _ := json.Parse(`[[1,2],[3],{"a":[4],"b":{"c":{}}},[],[5,[6,[7]]],{"a":[4],"b":{"c":[]}}]`)
		return v
	})
}

// What was answered stays when what it was asked of is written over.
func TestAnswersStay(t *testing.T) {
	o := json.Object{{Key: "a", Value: json.List{json.List{json.Text("x")}}}, {Key: "b", Value: json.Object{{Key: "c", Value: json.List{json.Null{}}}}}}
	want := json.Print(o)
	got := json.MustObject(o)
	a, _ := json.Get(o, "a")
	l, _ := json.AsList(o[0].Value)
	b, _ := json.Get(o, "b")
	spoil(o)
	if json.Print(got) != want || json.Print(a) != `[["x"]]` || json.Print(l) != `[["x"]]` || json.Print(b) != `{"c":[null]}` {
		t.Error(json.Print(got), json.Print(a), json.Print(l), json.Print(b))
	}
}

// Two parses of one text share nothing.
func TestParsesApart(t *testing.T) {
	const s = `{"a":[1,[2,{}]],"b":{"c":[]}}`
	first, _, _ := json.Parse(s)
	second, _, _ := json.Parse(s)
	spoil(first)
	if json.Print(second) != s {
		t.Error(json.Print(second))
	}
}

// Asked from many sides at once, one value answers everyone alike.
func TestManyAtOnce(t *testing.T) {
	const s = `{"a":["x",[1]],"b":{"c":"\u00e9"},"n":-5}`
	v, _, _ := json.Parse(s)
	want := json.Print(v)
	var all sync.WaitGroup
	for range 8 {
		all.Go(func() {
			for range 200 {
				x, at, e := json.Parse(s)
				a, _ := json.Get(v, "a")
				n, _ := json.Get(v, "n")
				whole, _ := json.Whole(n)
				l, _ := json.AsList(a)
				text, _ := json.AsText(l[0])
				if e != api.OK || at != 0 || json.Print(x) != want || json.Print(json.MustObject(v)) != want || whole != -5 || text != "x" {
					t.Error("another answer")
					return
				}
				spoil(a)
				spoil(l)
			}
		})
	}
	all.Wait()
}
