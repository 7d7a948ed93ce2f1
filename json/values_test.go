package json_test

import (
	"math/rand"
	"strconv"
	"strings"

	"beacon/json"
)

// same answers whether two values are the same; no list is an empty one.
func same(a, b json.Value) bool {
	switch x := a.(type) {
	case json.List:
		y, ok := b.(json.List)
		if !ok || len(x) != len(y) {
			return false
		}
		for i := range x {
			if !same(x[i], y[i]) {
				return false
			}
		}
		return true
	case json.Object:
		y, ok := b.(json.Object)
		if !ok || len(x) != len(y) {
			return false
		}
		for i := range x {
			if x[i].Key != y[i].Key || !same(x[i].Value, y[i].Value) {
				return false
			}
		}
		return true
	}
	switch b.(type) {
	case json.List, json.Object:
		return false
	}
	return a == b
}

// drawn is a well-made value of at most so many nested lists and objects, its
// texts UTF-8.
func drawn(r *rand.Rand, depth int) json.Value {
	n := r.Intn(10)
	if depth == 0 {
		n = r.Intn(6)
	}
	switch n {
	case 0:
		return json.Null{}
	case 1:
		return json.Bool(r.Intn(2) == 0)
	case 2, 3:
		return drawnNumber(r)
	case 4, 5:
		return json.Text(drawnRunes(r))
	case 6, 7:
		out := json.List{}
		for range r.Intn(5) {
			out = append(out, drawn(r, depth-1))
		}
		return out
	}
	out := json.Object{}
	seen := map[string]bool{}
	for range r.Intn(5) {
		if k := drawnRunes(r); !seen[k] {
			seen[k] = true
			out = append(out, json.Member{Key: k, Value: drawn(r, depth-1)})
		}
	}
	return out
}

func drawnNumber(r *rand.Rand) json.Number {
	s := []string{"", "-"}[r.Intn(2)]
	s += []string{"0", strconv.Itoa(1 + r.Intn(9)), strconv.FormatInt(1+r.Int63(), 10), "9" + strings.Repeat("0", r.Intn(30))}[r.Intn(4)]
	if r.Intn(3) == 0 {
		s += "." + []string{"0", "5", "007", strconv.Itoa(r.Intn(1e6))}[r.Intn(4)]
	}
	if r.Intn(3) == 0 {
		s += []string{"e", "E"}[r.Intn(2)] + []string{"", "+", "-"}[r.Intn(3)] + []string{"0", "00", "400"}[r.Intn(3)]
	}
	return json.Number(s)
}

func drawnRunes(r *rand.Rand) string {
	some := []rune{0, 1, 8, 9, 10, 12, 13, 31, 32, '"', '\\', '/', 'a', 'b', 'u', 127, 128, 0xe9, 0x7ff, 0x800, 0x2028,
		0xd7ff, 0xe000, 0xfeff, 0xfffd, 0xffff, 0x10000, 0x1f600, 0x103ff, 0x10400, 0x10ffff}
	var out []rune
	for range r.Intn(6) {
		out = append(out, some[r.Intn(len(some))])
	}
	return string(out)
}
