package limit_test

import (
	"cmp"
	"math"
	"math/big"
	"math/rand/v2"
	"slices"
	"strings"
	"testing"

	"beacon/api"
)

// kept is a bucket of the second reading.
type kept struct {
	key          string
	tokens, last *big.Int
}

// reading is a second reading of the chapter, its numbers without bounds, its
// buckets in a list that is sorted whenever one is to leave.
type reading struct {
	most, each *big.Int
	all        []kept
}

func (r *reading) find(key string) int {
	return slices.IndexFunc(r.all, func(k kept) bool { return k.key == key })
}

func (r *reading) take(key string, now int64) bool {
	moment := big.NewInt(now)
	if r.find(key) < 0 {
		if len(r.all) == api.MostTable {
			slices.SortFunc(r.all, func(a, b kept) int {
				return cmp.Or(a.last.Cmp(b.last), slices.Compare([]byte(a.key), []byte(b.key)))
			})
			r.all = r.all[1:]
		}
		r.all = append(r.all, kept{key, new(big.Int).Set(r.most), moment})
	} else {
		k := &r.all[r.find(key)]
		seconds := new(big.Int).Sub(moment, k.last)
		if seconds.Sign() < 0 {
			seconds = new(big.Int)
		}
		sum := new(big.Int).Add(k.tokens, new(big.Int).Mul(r.each, seconds))
		k.tokens = least(r.most, sum)
		if moment.Cmp(k.last) > 0 {
			k.last = moment
		}
	}
	k := &r.all[r.find(key)]
	if k.tokens.Sign() == 0 {
		return false
	}
	k.tokens = new(big.Int).Sub(k.tokens, big.NewInt(1))
	return true
}

func (r *reading) tokens(key string) int64 {
	if i := r.find(key); i >= 0 {
		return r.all[i].tokens.Int64()
	}
	return r.most.Int64()
}

func least(a, b *big.Int) *big.Int {
	if a.Cmp(b) < 0 {
		return a
	}
	return b
}

// number draws one from 0 to 2^31, the small ones and the edges often.
func number(r *rand.Rand) int64 {
	switch r.IntN(4) {
	case 0:
		return greatest - r.Int64N(3)
	case 1:
		return r.Int64N(greatest + 1)
	}
	return r.Int64N(5)
}

// moments answers a way to draw moments: near one another, growing, or any.
func moments(r *rand.Rand) func() int64 {
	kind, clock := r.IntN(4), r.Int64N(1000)-500
	return func() int64 {
		switch {
		case kind == 0:
			return r.Int64N(20) - 10
		case kind == 1 || kind == 2 && r.IntN(10) > 0:
			clock += r.Int64N(3)
			return clock
		case r.IntN(3) == 0:
			return []int64{math.MinInt64, math.MinInt64 + 1, -1, 0, 1, math.MaxInt64 - 1, math.MaxInt64}[r.IntN(7)]
		}
		return int64(r.Uint64() >> r.IntN(64))
	}
}

// Drawn calls are answered as the second reading has it, and all keys have as
// many tokens as there.
func TestDrawnCalls(t *testing.T) {
	r := rand.New(rand.NewPCG(20, 1))
	for range 300 {
		most, each := max(1, number(r)), number(r)
		b, plain := made(t, most, each), &reading{most: big.NewInt(most), each: big.NewInt(each)}
		moment, names := moments(r), 1+r.IntN(100)
		for call := range 400 {
			key := strings.Repeat("x", r.IntN(2)) + name(r.IntN(names))
			now := moment()
			if got, want := b.Take(key, now), plain.take(key, now); got != want {
				t.Fatalf("New(%d, %d), call %d, Take(%q, %d): %v, want %v", most, each, call, key, now, got, want)
			}
			other := name(r.IntN(names))
			for _, k := range []string{key, other} {
				if got, want := b.Tokens(k), plain.tokens(k); got != want {
					t.Fatalf("New(%d, %d), call %d, Take(%q, %d): Tokens(%q) is %d, want %d", most, each, call, key, now, k, got, want)
				}
			}
			if b.Size() != len(plain.all) {
				t.Fatalf("%d buckets, want %d", b.Size(), len(plain.all))
			}
		}
		for i := range names {
			for _, k := range []string{name(i), "x" + name(i)} {
				if b.Tokens(k) != plain.tokens(k) {
					t.Fatalf("Tokens(%q) is %d, want %d", k, b.Tokens(k), plain.tokens(k))
				}
			}
		}
	}
}

// All stories of a few moments at one small bucket are answered as the second
// reading has it.
func TestAllStories(t *testing.T) {
	all := []int64{math.MinInt64, -1, 0, 1, 2, math.MaxInt64}
	const length = 5
	stories := 1
	for range length {
		stories *= len(all)
	}
	for _, c := range [][2]int64{{1, 0}, {1, 1}, {2, 1}, {3, 1}, {3, 2}, {greatest, greatest}, {2, greatest}} {
		for story := range stories {
			b, plain := made(t, c[0], c[1]), &reading{most: big.NewInt(c[0]), each: big.NewInt(c[1])}
			for rest, call := story, 0; call < length; rest, call = rest/len(all), call+1 {
				now := all[rest%len(all)]
				if b.Take("a", now) != plain.take("a", now) || b.Tokens("a") != plain.tokens("a") {
					t.Fatalf("New(%d, %d), story %d, call %d, Take(a, %d)", c[0], c[1], story, call, now)
				}
			}
		}
	}
}
