package label_test

import (
	"bytes"
	"slices"
	"sync"
	"testing"

	"beacon/api"
	"beacon/label"
)

// Rule R3: what is handed in is left as it is, its spare room too, and not kept; an
// answer is new memory, its spare room too. Rule R2: an answer hangs on arguments alone.

func TestInputIsNewMemory(t *testing.T) {
	a := asked{"a.b-c_9", 258, true}
	want, _ := plainInput(a)
	first, _ := label.Input(a.account, a.version, a.stale)
	second, _ := label.Input(a.account, a.version, a.stale)
	first = first[:cap(first)]
	for i := range first {
		first[i] = 0xaa
	}
	if !bytes.Equal(second, want) {
		t.Errorf("two answers share memory: %x", second)
	}
	expectInput(t, a, want, api.OK)
	if a.account != "a.b-c_9" {
		t.Errorf("the account is changed: %q", a.account)
	}
}

func TestDevicesStay(t *testing.T) {
	for n := range 12 {
		for _, swap := range []bool{false, true} {
			whole := append(rising(n), slices.Repeat([][32]byte{filled(0xaa)}, 50)...)
			if swap && n > 1 {
				whole[0], whole[1] = whole[1], whole[0]
			}
			was := slices.Clone(whole)
			expectValue(t, "with room", whole[:n])
			expectValue(t, "without room", whole[:n:n])
			if !slices.Equal(whole, was) {
				t.Fatalf("%d devices, or their room, are changed", n)
			}
		}
	}
}

func TestDevicesAreNotKept(t *testing.T) {
	list := rising(3)
	want, _ := plainValue(list)
	got, _ := label.Value(list)
	list[0] = [32]byte{}
	if again, _ := label.Value(list); got != want || again == want {
		t.Errorf("%x, and of other devices %x", got, again)
	}
	expectValue(t, "other devices", list)
	expectValue(t, "the same again", rising(3))
}

func TestManyAtOnce(t *testing.T) {
	list := asks()[:24]
	var group sync.WaitGroup
	for i, a := range list {
		group.Go(func() {
			seed := filled(byte(i))
			want, proof, _ := plainMake(seed, a)
			expectMake(t, seed, a, want, proof, api.OK)
			expectValue(t, "at once", rising(i%9))
			if label.Mark() != [32]byte(unhex(t, "9e4442793ceaae4e5605e78c462979a9d971c1d690c292986f63861330a37f4b")) {
				t.Error("Mark")
			}
		})
	}
	group.Wait()
}
