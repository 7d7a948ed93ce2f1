package store_test

import (
	"slices"
	"strings"
	"testing"

	"beacon/api"
	"beacon/store"
)

func TestWhatIsHandedInIsLeftAndNotKept(t *testing.T) {
	d := made(t, 64)
	s := opened(t, d)
	want := texts{}
	whole := batch(lay("a", "1"), lay("c", "2"), drop("z"), lay("b", "3"), lay("spare", "4"), store.Change{Key: "", Value: "5", Gone: true})
	for i := range 40 {
		handed := slices.Clone(whole)
		front := handed[:1+i%4]
		if i%5 == 0 {
			d.SetFull(true)
			expect(t, "Apply", s.Apply(front), api.ErrFull)
			expect(t, "Apply", s.Apply(handed), api.ErrArg)
			d.SetFull(false)
		}
		expect(t, "Apply", s.Apply(front), api.OK)
		want = behind(want, front)
		if !slices.Equal(handed, whole) {
			t.Fatalf("changed: %v", handed)
		}
		for j := range handed {
			handed[j] = store.Change{Key: "#", Value: "#", Gone: j%2 == 0}
		}
		expectKept(t, d, s, want)
	}
}

func scribble(keys []string) {
	keys = keys[:cap(keys)]
	for i := range keys {
		keys[i] = "#"
	}
}

func TestWhatIsAnsweredIsNew(t *testing.T) {
	d := made(t, 200)
	s := opened(t, d)
	want := texts{}
	for i := range 200 {
		changes := batch(lay(string([]byte{byte('a' + i%20)}), strings.Repeat("x", i%9)))
		expect(t, "Apply", s.Apply(changes), api.OK)
		want = behind(want, changes)
		first, second := s.Keys("", ""), s.Keys("", "")
		scribble(first)
		if !slices.Equal(second, sorted(want)) {
			t.Fatalf("two answers share memory: %q", second)
		}
		expectTable(t, s, want)
		scribble(append(s.Keys("b", "e"), "more"))
		scribble(append(s.Keys("x", "y"), "more"))
		expectTable(t, s, want)
		if i%50 == 0 {
			s = opened(t, d)
		}
	}
	expectKept(t, d, s, want)
}

// An answer that was given stays as it is, whatever is done behind it.
func TestAnswersStay(t *testing.T) {
	d := made(t, 64)
	s := opened(t, d)
	expect(t, "Apply", s.Apply(batch(lay("a", "1"), lay("b", "2"), lay("c", "3"))), api.OK)
	keys := s.Keys("", "")
	value, _ := s.Get("b")
	for i := range 60 {
		expect(t, "Apply", s.Apply(batch(drop("a"), lay("b", strings.Repeat("x", i)), lay("0", "y"))), api.OK)
		if !slices.Equal(keys, []string{"a", "b", "c"}) || value != "2" {
			t.Fatalf("%q, %q", keys, value)
		}
	}
}
