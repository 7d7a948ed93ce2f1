package store

import (
	"math/rand"
	"slices"
	"strings"
	"testing"

	"beacon/api"
	"beacon/disk"
	"beacon/wal"
	"beacon/wire"
)

func drawnText(r *rand.Rand, size int) string {
	b := make([]byte, size)
	for i := range b {
		b[i] = byte(r.Intn(256))
	}
	return string(b)
}

func TestRecordsThereAndBack(t *testing.T) {
	r := rand.New(rand.NewSource(20))
	for range 2000 {
		var batch []Change
		sum := 0
		for i := range 1 + r.Intn(256) {
			c := Change{Key: drawnText(r, 1+r.Intn(api.MostKey)), Gone: r.Intn(3) == 0}
			if !c.Gone && i%3 == 0 {
				c.Value = drawnText(r, r.Intn(150))
			}
			batch = append(batch, c)
			sum += weight(c)
		}
		record := recordOf(batch)
		if sum <= mostWeight && (len(record) > api.MostRecord || len(record) > sum+4 || !slices.Equal(batchOf(record), batch)) {
			t.Fatalf("%d bytes of a batch of %d changes that weighs %d: %v", len(record), len(batch), sum, batchOf(record))
		}
	}
	if got := recordOf([]Change{{Key: "a", Value: "not kept", Gone: true}}); !slices.Equal(batchOf(got), []Change{{Key: "a", Gone: true}}) {
		t.Errorf("%v", batchOf(got))
	}
}

// foreign are records that no batch has.
func foreign() [][]byte {
	list := func(members ...string) []byte {
		var out [][]byte
		for _, m := range members {
			out = append(out, []byte(m))
		}
		b, _ := wire.Encode(out)
		return b
	}
	var many []string
	for range 257 {
		many = append(many, "k", "\x01v")
	}
	v := "\x01" + strings.Repeat("v", 4*api.MostText)
	whole := recordOf([]Change{{Key: "k", Value: "v"}})
	return [][]byte{
		nil, {}, []byte("k"), make([]byte, 3), make([]byte, 5), whole[:len(whole)-1], append(slices.Clone(whole), 0),
		list("k"), list("k", "\x01v", "k"), list("", "\x01v"), list("", ""), list("k", "\x02v"), list("k", "\x00v"), list("k", "v"),
		list(strings.Repeat("k", api.MostKey+1), "\x01v"), list("k", v+"v"), list(many...), list("k", "\x01v", "", "\x01v"),
		list("k", v, "l", v)[:65536],
	}
}

// What lies in the log and is no batch's is left out, and makes no room scarce for good.
func TestForeignRecords(t *testing.T) {
	for i, record := range foreign() {
		if got := batchOf(record); len(got) != 0 {
			t.Errorf("record %d: %v", i, got)
		}
	}
	d, _ := disk.New(api.MostItems)
	log, _ := wal.Open(d)
	for _, record := range foreign() {
		if e := log.Append(record); e != api.OK {
			t.Fatal(e)
		}
		log.Append(recordOf([]Change{{Key: "a", Value: "1"}, {Key: "b", Gone: true}}))
	}
	for range 30 {
		s, e := Open(d)
		if e != api.OK || s.Size() != 1 || !slices.Equal(s.Keys("", ""), []string{"a"}) {
			t.Fatalf("Open: %v, %q", e, s.Keys("", ""))
		}
		if e := s.Apply([]Change{{Key: "a", Value: "2"}}); e != api.OK {
			t.Fatal(e)
		}
		log.Append(make([]byte, api.MostRecord))
	}
}

// greatest is a table of values of about one size, as heavy as the room lets it be.
func greatest(r *rand.Rand, room, size int) (t table) {
	for i := 0; ; i++ {
		c := Change{Key: drawnText(r, 4), Value: strings.Repeat("v", min(size, mostValue))}
		left := room - t.weight
		if left < 21 {
			return t
		}
		c.Value = c.Value[:min(len(c.Value), left-20)]
		t.do([]Change{c})
	}
}

// A table within its room can be laid anew: its records have room in the log.
func TestRecordsOfTheGreatestTables(t *testing.T) {
	r := rand.New(rand.NewSource(21))
	for _, n := range []int{64, 65, 66, 100, 129, 1000, 4096, 10000, 20001} {
		d, _ := disk.New(n)
		room := roomOfTable(roomOfLog(d))
		if room < 12*n-384 {
			t.Errorf("%d sectors: the room %d is less than promised", n, room)
		}
		for _, size := range []int{0, 1, 7, 100, 1000, 21800, 21900, mostValue / 2, mostValue - 100, mostValue} {
			laid := greatest(r, room, size)
			records := laid.records()
			if takenBy(records) > roomOfLog(d) {
				t.Errorf("%d sectors, values of %d: the records take %d of %d", n, size, takenBy(records), roomOfLog(d))
			}
			for _, record := range records {
				if len(record) > api.MostRecord || len(batchOf(record)) == 0 {
					t.Errorf("a record of %d bytes, with %d changes", len(record), len(batchOf(record)))
				}
			}
			if again := tableOf(records); again.weight != laid.weight || !slices.Equal(again.laid, laid.laid) {
				t.Errorf("%d sectors, values of %d: laid anew the table is another one", n, size)
			}
		}
	}
}

// What is foretold of a batch is what it then makes.
func TestWeightBehind(t *testing.T) {
	r := rand.New(rand.NewSource(22))
	for range 300 {
		var x table
		for range 60 {
			var batch []Change
			for range r.Intn(6) {
				batch = append(batch, Change{Key: drawnText(r, 1)[:1], Value: drawnText(r, r.Intn(9)), Gone: r.Intn(3) == 0})
				batch[len(batch)-1].Key = string([]byte{batch[len(batch)-1].Key[0] % 8})
			}
			foretold, ahead := x.weightBehind(batch), x.weight
			if x.weight != ahead {
				t.Fatal("foretelling has changed the table")
			}
			x.do(batch)
			sum := 0
			for _, c := range x.laid {
				sum += weight(c)
				if c.Gone {
					t.Fatal("the table holds a key that is gone")
				}
			}
			if foretold != sum || x.weight != sum {
				t.Fatalf("%v: foretold %d, kept %d, summed up %d", batch, foretold, x.weight, sum)
			}
		}
	}
}

// The table is laid anew by and by, and not with each batch, however great it is.
func TestHowOftenTheLogIsLaidAnew(t *testing.T) {
	d, _ := disk.New(4096)
	s, _ := Open(d)
	value := strings.Repeat("v", 300)
	for i := 0; s.Apply([]Change{{Key: string(wire.Num(uint64(i))), Value: value}}) == api.OK; i++ {
	}
	anew := 0
	for i := range 1000 {
		ahead := len(s.log.Records())
		if e := s.Apply([]Change{{Key: string(wire.Num(uint64(i % 50))), Value: value}}); e != api.OK {
			t.Fatal(e)
		}
		if len(s.log.Records()) != ahead+1 {
			anew++
		}
	}
	if anew == 0 || anew > 60 {
		t.Errorf("the log was laid anew %d times", anew)
	}
}
