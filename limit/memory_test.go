package limit_test

import (
	"runtime"
	"slices"
	"strings"
	"sync"
	"testing"
	"unsafe"

	"beacon/api"
)

// answers does the same calls at a new table, and answers what was told.
func answers(t *testing.T, most, each int64) []int64 {
	b := made(t, most, each)
	var told []int64
	for i := range 500 {
		key := name(i * i % 97)
		if b.Take(key, int64(i/7-i%3)) {
			told = append(told, 1)
		}
		told = append(told, b.Tokens(key), b.Tokens(name(i%97)), int64(b.Size()))
	}
	return told
}

// R2: tables don't influence one another, also while they are asked at once.
func TestTablesApart(t *testing.T) {
	want := [][]int64{answers(t, 1, 0), answers(t, 2, 1), answers(t, 9, 2)}
	limits := [][2]int64{{1, 0}, {2, 1}, {9, 2}}
	var all sync.WaitGroup
	for i := range 24 {
		all.Go(func() {
			c := limits[i%3]
			if !slices.Equal(answers(t, c[0], c[1]), want[i%3]) {
				t.Errorf("New(%d, %d) answers otherwise", c[0], c[1])
			}
		})
	}
	all.Wait()
}

// R2: a copy of a table goes its own way.
func TestCopy(t *testing.T) {
	b := made(t, 2, 0)
	b.Take("a", 0)
	other := *b
	other.Take("a", 0)
	other.Take("b", 0)
	if b.Tokens("a") != 1 || b.Tokens("b") != 2 || b.Size() != 1 || other.Tokens("a") != 0 || other.Size() != 2 {
		t.Error("they share a bucket")
	}
}

// R3: a key's memory isn't kept, so that what becomes of it is of no weight.
func TestKeyNotKept(t *testing.T) {
	b := made(t, 2, 0)
	memory := []byte("alice")
	b.Take(unsafe.String(&memory[0], len(memory)), 0)
	copy(memory, "bobby")
	if b.Tokens("alice") != 1 || b.Tokens("bobby") != 2 {
		t.Error("the key is kept as it was handed in")
	}
}

// A table doesn't grow: whatever keys have been asked, what is kept is that of
// at most api.MostTable, and no more of a text than the key.
func TestDoesNotGrow(t *testing.T) {
	before := inUse()
	b := made(t, 2, 1)
	for i := range 20000 {
		b.Take(strings.Repeat(name(i), 300), int64(i))
	}
	for i := range api.MostTable {
		text := strings.Repeat(name(i), 1<<18)
		b.Take(text[:100], 20000)
	}
	if grown := inUse() - before; grown > 16<<20 {
		t.Errorf("%d bytes more are in use", grown)
	}
	if b.Size() != api.MostTable {
		t.Error(b.Size())
	}
}

func inUse() int64 {
	var m runtime.MemStats
	runtime.GC()
	runtime.ReadMemStats(&m)
	return int64(m.HeapAlloc)
}

// No memory is taken but for a key that joins.
func TestTakeOfOneThereIsFree(t *testing.T) {
	b := made(t, 1000000, 1)
	b.Take("a", 0)
	now := int64(0)
	if n := testing.AllocsPerRun(100, func() { now++; b.Take("a", now); b.Tokens("b") }); n != 0 {
		t.Errorf("%v pieces of memory for each call", n)
	}
}
