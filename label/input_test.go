package label_test

import (
	"bytes"
	"math/rand"
	"testing"

	"beacon/api"
	"beacon/label"
	"beacon/wire"
)

// P13.1: Input.

func TestInputExamples(t *testing.T) {
	expectInput(t, asked{"A", 1, false}, nil, api.ErrArg)
	expectInput(t, asked{"a", 0, false}, nil, api.ErrArg)
	head := "\x00\x00\x00\x04\x00\x00\x00\x05label"
	expectInput(t, asked{"a", 1, false}, []byte(head+"\x00\x00\x00\x01a\x00\x00\x00\x08\x00\x00\x00\x00\x00\x00\x00\x01\x00\x00\x00\x01\x00"), api.OK)
	expectInput(t, asked{"a", 1, true}, []byte(head+"\x00\x00\x00\x01a\x00\x00\x00\x08\x00\x00\x00\x00\x00\x00\x00\x01\x00\x00\x00\x01\x01"), api.OK)
	expectInput(t, asked{"a.b-c_9", 258, true}, []byte(head+"\x00\x00\x00\x07a.b-c_9\x00\x00\x00\x08\x00\x00\x00\x00\x00\x00\x01\x02\x00\x00\x00\x01\x01"), api.OK)
}

func TestInputsAsTheChapterSays(t *testing.T) {
	for _, name := range accounts() {
		for _, v := range versions() {
			for _, stale := range []bool{false, true} {
				a := asked{name, v, stale}
				want, e := plainInput(a)
				if e != api.OK {
					t.Fatalf("%+v is refused", a)
				}
				expectInput(t, a, want, api.OK)
			}
		}
	}
	r := rand.New(rand.NewSource(1))
	for range 5000 {
		a := drawnAsk(r)
		want, e := plainInput(a)
		expectInput(t, a, want, e)
	}
}

func TestInputOfNoAccount(t *testing.T) {
	for _, name := range noAccounts() {
		for _, v := range append(versions(), 0) {
			expectInput(t, asked{name, v, false}, nil, api.ErrArg)
			expectInput(t, asked{name, v, true}, nil, api.ErrArg)
		}
	}
	for x := range 256 {
		for _, name := range []string{string([]byte{byte(x)}), string([]byte{'a', byte(x), 'b'})} {
			a := asked{name, 1, x%2 == 0}
			want, e := plainInput(a)
			expectInput(t, a, want, e)
		}
	}
}

func TestInputOfVersionNought(t *testing.T) {
	for _, name := range accounts() {
		expectInput(t, asked{name, 0, false}, nil, api.ErrArg)
		expectInput(t, asked{name, 0, true}, nil, api.ErrArg)
	}
}

// An input is read back in one way alone, and no two have the same bytes.
func TestInputsAreApart(t *testing.T) {
	seen := map[string]asked{}
	for _, a := range asks() {
		b, e := label.Input(a.account, a.version, a.stale)
		if other, there := seen[string(b)]; there || e != api.OK {
			t.Errorf("%+v and %+v have one input: %q, %v", a, other, b, e)
		}
		seen[string(b)] = a
		list, e := wire.Decode(b)
		if e != api.OK || len(list) != 4 {
			t.Fatalf("%+v: %q, %v", a, list, e)
		}
		n, e := wire.ReadNum(list[2])
		if string(list[0]) != "label" || string(list[1]) != a.account || n != a.version || e != api.OK ||
			!bytes.Equal(list[3], map[bool][]byte{false: {0}, true: {1}}[a.stale]) {
			t.Errorf("%+v: %q", a, list)
		}
	}
	if len(seen) < 200 {
		t.Errorf("%d inputs alone", len(seen))
	}
}
