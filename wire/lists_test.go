package wire_test

import (
	"bytes"
	"encoding/binary"
	"math/rand"
	"slices"
	"testing"

	"beacon/api"
	"beacon/wire"
)

const mostBytes = 16 * 65536

// written is a list's bytes by the chapter's words.
func written(list ...[]byte) []byte {
	b := binary.BigEndian.AppendUint32(nil, uint32(len(list)))
	for _, m := range list {
		b = binary.BigEndian.AppendUint32(b, uint32(len(m)))
		b = append(b, m...)
	}
	return b
}

// read is the list whose bytes are b, by the chapter's words; false, if there
// is none.
func read(b []byte) ([][]byte, bool) {
	r := bytes.NewReader(b)
	var count uint32
	if binary.Read(r, binary.BigEndian, &count) != nil || count > 65536 {
		return nil, false
	}
	list := [][]byte{}
	for range count {
		var size uint32
		if binary.Read(r, binary.BigEndian, &size) != nil || int64(size) > int64(r.Len()) {
			return nil, false
		}
		m := make([]byte, size)
		r.Read(m)
		list = append(list, m)
	}
	return list, r.Len() == 0
}

func drawn(r *rand.Rand, n int) []byte {
	b := make([]byte, n)
	r.Read(b)
	return b
}

func alike(a, b [][]byte) bool { return slices.EqualFunc(a, b, bytes.Equal) }

// short is the beginning of b, for telling of it.
func short(b []byte) []byte { return b[:min(len(b), 80)] }

// expectList: Encode and Decode both answer for this list.
func expectList(t *testing.T, what string, list [][]byte) {
	t.Helper()
	want := written(list...)
	got, e := wire.Encode(list)
	if !bytes.Equal(got, want) || e != api.OK {
		t.Fatalf("%s: Encode: %x, %v; want %x", what, short(got), e, short(want))
	}
	back, e := wire.Decode(want)
	if !alike(back, list) || e != api.OK {
		t.Fatalf("%s: Decode(%x): %d members, %v; want %d", what, short(want), len(back), e, len(list))
	}
}

func refuseEncode(t *testing.T, what string, list [][]byte) {
	t.Helper()
	if b, e := wire.Encode(list); len(b) != 0 || e != api.ErrLarge {
		t.Errorf("%s: Encode: %d bytes, %v; want ErrLarge", what, len(b), e)
	}
}

func refuseDecode(t *testing.T, what string, b []byte, want api.Errno) {
	t.Helper()
	if list, e := wire.Decode(b); len(list) != 0 || e != want {
		t.Errorf("%s: Decode(%x): %d members, %v; want %v", what, short(b), len(list), e, want)
	}
}

// holdDecode: Decode takes b just if the chapter's words have a list for it, and
// Encode writes it again.
func holdDecode(t *testing.T, what string, b []byte) {
	t.Helper()
	list, ok := read(b)
	if len(b) > mostBytes {
		refuseDecode(t, what, b, api.ErrLarge)
		return
	}
	if !ok {
		refuseDecode(t, what, b, api.ErrForm)
		return
	}
	got, e := wire.Decode(b)
	if !alike(got, list) || e != api.OK {
		t.Errorf("%s: Decode(%x): %d members, %v; want %d", what, short(b), len(got), e, len(list))
	}
	if again, e := wire.Encode(got); !bytes.Equal(again, b) || e != api.OK {
		t.Errorf("%s: Encode of what Decode(%x) answers: %x, %v", what, short(b), short(again), e)
	}
}

// lists are some of every length, empty members among them.
func lists(r *rand.Rand) [][][]byte {
	out := [][][]byte{
		nil, {}, {nil}, {{}}, {{0}}, {nil, nil}, {{}, {1}}, {{1}, {}}, {{1}, {1}}, {nil, {2}, nil},
		{{0, 0, 0, 0}}, {written(nil, []byte("a"))}, {[]byte("ab"), nil}, {make([]byte, 255)}, {make([]byte, 256)},
		{make([]byte, 257), nil, make([]byte, 65535), make([]byte, 65536), make([]byte, 65537)},
	}
	for n := range 40 {
		list := make([][]byte, n)
		for i := range list {
			list[i] = drawn(r, r.Intn(2)*r.Intn(40))
		}
		out = append(out, list)
	}
	for _, n := range []int{255, 256, 257, 1000, 65535} {
		out = append(out, make([][]byte, n))
	}
	return out
}

func TestListExamples(t *testing.T) {
	b, e := wire.Encode(nil)
	if string(b) != "\x00\x00\x00\x00" || e != api.OK {
		t.Errorf("Encode of none: %x, %v", b, e)
	}
	b, e = wire.Encode([][]byte{[]byte("ab"), {}})
	if string(b) != "\x00\x00\x00\x02\x00\x00\x00\x02ab\x00\x00\x00\x00" || e != api.OK {
		t.Errorf("Encode of ab and none: %x, %v", b, e)
	}
	list, e := wire.Decode(b)
	if len(list) != 2 || string(list[0]) != "ab" || len(list[1]) != 0 || e != api.OK {
		t.Errorf("Decode(%x): %x, %v", b, list, e)
	}
	list, e = wire.Decode(make([]byte, 4))
	if len(list) != 0 || e != api.OK {
		t.Errorf("Decode of four noughts: %x, %v", list, e)
	}
	refuseDecode(t, "five noughts", make([]byte, 5), api.ErrForm)
}

func TestListsThereAndBack(t *testing.T) {
	for _, list := range lists(rand.New(rand.NewSource(1))) {
		expectList(t, "a list", list)
	}
}

func TestAsManyMembersAsMayBe(t *testing.T) {
	most := make([][]byte, 65536)
	expectList(t, "MostItems members", most)
	most[65535] = []byte("end")
	expectList(t, "MostItems members, the last of them not empty", most)
	more := append(most, nil)
	refuseEncode(t, "one member more", more)
	refuseDecode(t, "one member more", written(more...), api.ErrForm)
	refuseEncode(t, "many more", make([][]byte, 200000))
	refuseDecode(t, "many more", written(make([][]byte, 200000)...), api.ErrForm)
}

func TestAsManyBytesAsMayBe(t *testing.T) {
	r := rand.New(rand.NewSource(2))
	half := drawn(r, 500000)
	for what, list := range map[string][][]byte{
		"one member":        {drawn(r, mostBytes-8)},
		"two members":       {half, drawn(r, mostBytes-12-len(half))},
		"an empty one last": {drawn(r, mostBytes-12), nil},
		"an empty one":      {nil, drawn(r, mostBytes-12)},
		"one that is twice": {half, half, drawn(r, mostBytes-16-2*len(half))},
		"many members":      append(make([][]byte, 65535), drawn(r, mostBytes-4-4*65536)),
	} {
		if n := len(written(list...)); n != mostBytes {
			t.Fatalf("%s: %d bytes", what, n)
		}
		expectList(t, what, list)
		last := len(list) - 1
		more := slices.Clone(list)
		more[last] = append(slices.Clone(more[last]), 7)
		refuseEncode(t, what+", a byte more", more)
		refuseDecode(t, what+", a byte more", written(more...), api.ErrLarge)
		fewer := slices.Clone(list)
		for i, m := range fewer {
			if len(m) > 0 {
				fewer[i] = m[1:]
				break
			}
		}
		expectList(t, what+", a byte fewer", fewer)
	}
}

func TestFarTooManyBytes(t *testing.T) {
	great := make([]byte, 1<<28)
	for n := 1; n <= 17; n++ {
		// Sixteen of them are 2^32 bytes: nought, to 32 bits.
		refuseEncode(t, "members of 2^28 bytes", slices.Repeat([][]byte{great}, n))
		refuseEncode(t, "members of 2^28 bytes less 4", slices.Repeat([][]byte{great[4:]}, n))
	}
	refuseEncode(t, "a great member last", append(make([][]byte, 1000), great))
	refuseEncode(t, "as many great members as may be", slices.Repeat([][]byte{great}, 65536))
	refuseDecode(t, "2^28 noughts", great, api.ErrLarge)
	refuseDecode(t, "noughts, one too many", great[:mostBytes+1], api.ErrLarge)
	refuseDecode(t, "as many noughts as may be", great[:mostBytes], api.ErrForm)
	full := bytes.Repeat([]byte{0xff}, mostBytes+1)
	refuseDecode(t, "no list, one byte too many", full, api.ErrLarge)
	refuseDecode(t, "no list, as many bytes as may be", full[1:], api.ErrForm)
}

func TestPiecesOfLists(t *testing.T) {
	for _, list := range lists(rand.New(rand.NewSource(3))) {
		whole := written(list...)
		if len(whole) > 5000 {
			continue
		}
		for n := range whole {
			refuseDecode(t, "cut", whole[:n], api.ErrForm)
			holdDecode(t, "its end", whole[n:])
		}
		for _, more := range [][]byte{{0}, {1}, {0xff}, {0, 0, 0, 0}, {0, 0, 0, 1, 0}, whole} {
			refuseDecode(t, "lengthened", slices.Concat(whole, more), api.ErrForm)
		}
	}
}

func TestFewBytes(t *testing.T) {
	refuseDecode(t, "nil", nil, api.ErrForm)
	for n := range 4 {
		refuseDecode(t, "noughts", make([]byte, n), api.ErrForm)
		refuseDecode(t, "ones", bytes.Repeat([]byte{1}, n), api.ErrForm)
		refuseDecode(t, "full bytes", bytes.Repeat([]byte{0xff}, n), api.ErrForm)
	}
}

// counts are where the counts of a list's bytes stand: its own, and those of
// its members.
func counts(list [][]byte) []int {
	at := []int{0}
	next := 4
	for _, m := range list {
		at = append(at, next)
		next += 4 + len(m)
	}
	return at
}

func TestCountsThatDoNotHold(t *testing.T) {
	for _, list := range lists(rand.New(rand.NewSource(4))) {
		whole := written(list...)
		if len(list) > 100 {
			continue
		}
		for _, at := range counts(list) {
			was := binary.BigEndian.Uint32(whole[at:])
			for _, n := range []uint32{
				was + 1, was - 1, was + 4, was - 4, was + 256, was | 1<<31, was + 1<<24,
				0, 1, 65535, 65536, 65537, 1 << 20, 1<<31 - 1, 1 << 31, 1<<32 - 4, 1<<32 - 1,
			} {
				b := slices.Clone(whole)
				binary.BigEndian.PutUint32(b[at:], n)
				holdDecode(t, "another count", b)
			}
			for _, n := range []uint32{was + 1, was - 1, 1<<32 - 1} {
				b := slices.Clone(whole)
				binary.BigEndian.PutUint32(b[at:], n)
				if at == 0 || at+4+int(was) == len(whole) {
					refuseDecode(t, "a count of the list or of its last member", b, api.ErrForm)
				}
			}
		}
	}
}

func TestTurnedBytesOfLists(t *testing.T) {
	for _, list := range lists(rand.New(rand.NewSource(5))) {
		whole := written(list...)
		if len(whole) > 1500 {
			continue
		}
		for i := range whole {
			for bit := range 8 {
				b := slices.Clone(whole)
				b[i] ^= 1 << bit
				holdDecode(t, "turned", b)
			}
		}
	}
}

func TestDecodeOfAnyBytes(t *testing.T) {
	r := rand.New(rand.NewSource(6))
	for range 20000 {
		b := make([]byte, r.Intn(40))
		for i := range b {
			if r.Intn(4) == 0 {
				b[i] = byte(r.Intn(4))
			}
		}
		holdDecode(t, "any bytes", b)
		holdDecode(t, "any bytes", drawn(r, r.Intn(40)))
	}
}

func FuzzDecode(f *testing.F) {
	for _, list := range lists(rand.New(rand.NewSource(7)))[:20] {
		f.Add(written(list...))
	}
	f.Fuzz(func(t *testing.T, b []byte) { holdDecode(t, "fuzz", b) })
}
