package label_test

import (
	"math/rand"
	"slices"
	"testing"

	"beacon/api"
	"beacon/label"
)

// P13.2: Value and Mark.

// rising are n devices, each of one byte throughout.
func rising(n int) [][32]byte {
	var out [][32]byte
	for i := range n {
		out = append(out, filled(byte(i+1)))
	}
	return out
}

func drawnDevices(r *rand.Rand, n int) [][32]byte {
	var out [][32]byte
	for range n {
		out = append(out, [32]byte(drawn(r, 32)))
	}
	slices.SortFunc(out, func(a, b [32]byte) int { return slices.Compare(a[:], b[:]) })
	return out
}

// Worked out apart from this program, in another language.
func TestKnownValues(t *testing.T) {
	for _, c := range []struct {
		devices [][32]byte
		want    string
	}{
		{nil, "8c064e96da9c64ead822ffb3d68955468f5e73d42d055c02a467b9351ced2043"},
		{[][32]byte{}, "8c064e96da9c64ead822ffb3d68955468f5e73d42d055c02a467b9351ced2043"},
		{[][32]byte{{}}, "f504cca38ffa26f6ae37b4e559090f97d2f639c00bbef5ad4223008fd37ed019"},
		{[][32]byte{{31: 1}, {1}, filled(255)}, "9172073efd74e0f9dd86f79ef3e4a2ff8ca2bb52cd1e4d8940f0bd8bda8cac72"},
		{rising(8), "b8f7739d15e2e2059151585ce2ab3e5da055873f2267210e3cc30b17daeb3572"},
	} {
		if got, e := label.Value(c.devices); got != [32]byte(unhex(t, c.want)) || e != api.OK {
			t.Errorf("Value(%x): %x, %v; want %s", c.devices, got, e, c.want)
		}
	}
	if got := label.Mark(); got != [32]byte(unhex(t, "9e4442793ceaae4e5605e78c462979a9d971c1d690c292986f63861330a37f4b")) {
		t.Errorf("Mark: %x", got)
	}
}

func TestValuesOfEachLength(t *testing.T) {
	r := rand.New(rand.NewSource(11))
	for n := range 20 {
		expectValue(t, "rising", rising(n))
		for range 20 {
			list := drawnDevices(r, n)
			expectValue(t, "drawn", list)
			if _, e := label.Value(list); (e == api.OK) != (n <= 8) {
				t.Errorf("%d devices: %v", n, e)
			}
		}
	}
	expectValue(t, "very many", rising(255))
	expectValue(t, "a great many", make([][32]byte, 1<<16))
}

func TestValuesOfDevicesThatDoNotRise(t *testing.T) {
	for _, list := range [][][32]byte{
		{{2}, {1}}, {{1}, {1}}, {{}, {}}, {{31: 1}, {}}, {{1}, {31: 1}}, {{1: 1}, {31: 255}}, {filled(255), filled(255)},
		{{1}, {2}, {2}}, {{1}, {3}, {2}}, {{1}, {1}, {2}}, {{2}, {1}, {3}}, {{128}, {127}},
	} {
		expectValue(t, "they don't rise", list)
		if v, e := label.Value(list); v != [32]byte{} || e != api.ErrArg {
			t.Errorf("Value(%x): %x, %v", list, v, e)
		}
	}
	r := rand.New(rand.NewSource(12))
	for n := 2; n <= 8; n++ {
		for at := range n - 1 {
			list := drawnDevices(r, n)
			list[at], list[at+1] = list[at+1], list[at]
			expectValue(t, "two swapped", list)
			list[at] = list[at+1]
			expectValue(t, "two the same", list)
		}
	}
	for at := range 32 {
		var low, high [32]byte
		low[at], high[at] = 1, 2
		if _, e := label.Value([][32]byte{low, high}); e != api.OK {
			t.Errorf("rising at byte %d: %v", at, e)
		}
		if _, e := label.Value([][32]byte{high, low}); e != api.ErrArg {
			t.Errorf("falling at byte %d: %v", at, e)
		}
	}
}

// Lists that differ have values that differ, and none is the mark.
func TestValuesAreApart(t *testing.T) {
	r := rand.New(rand.NewSource(13))
	seen := map[[32]byte][][32]byte{label.Mark(): nil}
	hold := func(list [][32]byte) {
		t.Helper()
		v, e := label.Value(list)
		if other, there := seen[v]; there || e != api.OK {
			t.Errorf("%x and %x have one value: %v", list, other, e)
		}
		seen[v] = list
	}
	for n := range 9 {
		list := drawnDevices(r, n)
		hold(list)
		for at := range n {
			for bit := range 4 {
				other := slices.Clone(list)
				other[at][31] ^= 1 << bit
				hold(other)
			}
		}
	}
}
