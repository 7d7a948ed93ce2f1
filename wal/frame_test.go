package wal

import (
	"bytes"
	"math"
	"math/rand"
	"testing"

	"beacon/api"
	"beacon/disk"
	"beacon/wire"
)

// payloads that aren't of the form that a log begins with.
func misshapen() [][]byte {
	whole := join(1, [][]byte{[]byte("abc"), nil, []byte("d")})
	out := [][]byte{nil, {0}}
	for n := range whole {
		if n != 8 && n != 8+8+3 && n != 8+8+3+8 { // there the list just has fewer records
			out = append(out, whole[:n])
		}
	}
	for _, size := range []uint64{1, 9, 1 << 31, 1 << 62, math.MaxInt64, math.MaxInt64 + 1, math.MaxUint64 - 7, math.MaxUint64} {
		out = append(out, bytes.Join([][]byte{wire.Num(1), wire.Num(size)}, nil))
		out = append(out, append(bytes.Clone(whole), wire.Num(size)...))
	}
	return append(out, append(whole, 0))
}

func TestSplit(t *testing.T) {
	for _, records := range [][][]byte{nil, {nil}, {nil, nil}, {[]byte("a")}, {[]byte("a"), nil, bytes.Repeat([]byte("b"), 300)}} {
		for _, turn := range []uint64{0, 1, 258, math.MaxUint64} {
			payload := join(turn, records)
			got, list, ok := split(payload)
			if got != turn || !ok || len(payload) != joinedSize(records) {
				t.Fatalf("turn %d, %v of %d bytes", got, ok, len(payload))
			}
			if len(list) != len(records) {
				t.Fatalf("%q, not %q", list, records)
			}
			for i := range list {
				if !bytes.Equal(list[i], records[i]) {
					t.Fatalf("%q, not %q", list, records)
				}
			}
		}
	}
	for _, payload := range misshapen() {
		if turn, list, ok := split(payload); turn != 0 || len(list) != 0 || ok {
			t.Errorf("split(%x): %d, %q, %v", payload, turn, list, ok)
		}
	}
}

// A whole frame stands where a log begins, but no log has laid it: it is none.
func TestFramesThatBeginNoLog(t *testing.T) {
	foreign := append(misshapen(), join(0, nil), join(0, [][]byte{[]byte("a")}), join(2, nil), join(4, [][]byte{[]byte("a")}))
	for _, payload := range foreign {
		d, _ := disk.New(64)
		if e := layFrame(d, 32, payload); e != api.OK {
			t.Fatal(e)
		}
		l, e := Open(d)
		if e != api.OK || len(l.Records()) != 0 {
			t.Fatalf("Open of %x: %v, %q", payload, e, l.Records())
		}
		if e := l.Append([]byte("b")); e != api.OK {
			t.Fatal(e)
		}
		if l, e = Open(d); e != api.OK || len(l.Records()) != 1 || string(l.Records()[0]) != "b" {
			t.Fatalf("Open: %v, %q", e, l.Records())
		}
	}
}

// Each bit of a frame counts but those that fill up its last sector.
func TestFrameBitByBit(t *testing.T) {
	r := rand.New(rand.NewSource(90))
	for _, size := range []int{0, 1, 31, 32, 63, 64, 65, 100} {
		payload := make([]byte, size)
		r.Read(payload)
		d, _ := disk.New(8)
		if e := layFrame(d, 2, payload); e != api.OK || d.Waiting() != 0 {
			t.Fatal(e, d.Waiting())
		}
		for to := range 9 {
			got, whole := takeFrame(d, 2, to)
			if whole != (to >= 2+frameLength(size)) || whole && !bytes.Equal(got, payload) || !whole && got != nil {
				t.Fatalf("%d bytes ahead of %d: %x, %v", size, to, got, whole)
			}
		}
		for bit := range 64*8 + size*8 {
			turn := func() {
				s := read(d, 2+bit/512)
				s[bit%512/8] ^= 1 << (bit % 8)
				d.Write(2+bit/512, s)
				d.Sync()
			}
			turn()
			if got, whole := takeFrame(d, 2, 8); whole || got != nil {
				t.Fatalf("%d bytes, bit %d turned: %x, %v", size, bit, got, whole)
			}
			turn()
		}
		if got, whole := takeFrame(d, 2, 8); !whole || !bytes.Equal(got, payload) {
			t.Fatalf("%d bytes: %x, %v", size, got, whole)
		}
	}
}

// FuzzOpen opens disks of any bytes, and lays a record there.
func FuzzOpen(f *testing.F) {
	f.Add([]byte{1, 2, 3}, true)
	f.Add(append(make([]byte, 32*64), join(1, [][]byte{[]byte("a")})...), false)
	f.Fuzz(func(t *testing.T, b []byte, framed bool) {
		d, _ := disk.New(64)
		if framed {
			layFrame(d, 32, b[:min(len(b), 30*64)])
		}
		for s := 0; !framed && s < 64 && s*64 < len(b); s++ {
			var data sector
			copy(data[:], b[s*64:])
			d.Write(s, data)
		}
		l, e := Open(d)
		if e != api.OK {
			t.Fatal(e)
		}
		n := len(l.Records())
		if e := l.Append([]byte("x")); e == api.OK {
			n++
		}
		if l, e = Open(d); e != api.OK || len(l.Records()) != n {
			t.Fatalf("%v, %d records, not %d", e, len(l.Records()), n)
		}
	})
}
