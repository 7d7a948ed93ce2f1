package disk_test

import (
	"slices"
	"testing"

	"beacon/api"
	"beacon/disk"
)

// torn is what stands of a sector behind a crash, by the choice.
func torn(old, fresh byte, choice int) [64]byte {
	switch choice {
	case 1:
		return filled(fresh)
	case 2:
		return halves(fresh, old)
	case 3:
		return halves(old, fresh)
	}
	return filled(old)
}

func TestEachChoice(t *testing.T) {
	for choice := range 256 {
		for _, down := range []bool{false, true} {
			d := made(t, 2)
			d.Write(1, filled(1))
			d.Sync()
			d.Write(1, filled(2))
			if down {
				d.SetFuse(0)
				d.Sync()
			}
			d.Restart([]byte{byte(choice)})
			expectState(t, d, false, 0)
			expectRead(t, d, 1, torn(1, 2, choice))
			expectRead(t, d, 0, [64]byte{})
		}
	}
}

// Each byte of a torn sector is told from its neighbours.
func TestTearIsInTheMiddle(t *testing.T) {
	var old, fresh, first, second [64]byte
	for i := range 64 {
		old[i], fresh[i] = byte(i+1), byte(i+101)
		first[i], second[i] = old[i], old[i]
		if i < 32 {
			first[i] = fresh[i]
		} else {
			second[i] = fresh[i]
		}
	}
	for choice, want := range map[byte][64]byte{2: first, 3: second} {
		d := made(t, 1)
		d.Write(0, old)
		d.Sync()
		d.Write(0, fresh)
		d.Restart([]byte{choice})
		expectRead(t, d, 0, want)
	}
}

func threeWrites(t *testing.T) *disk.Disk {
	t.Helper()
	d := made(t, 3)
	for s := range 3 {
		d.Write(s, filled(byte(s+1)))
	}
	expectState(t, d, false, 3)
	return d
}

func TestHowManyChoices(t *testing.T) {
	for _, c := range []struct {
		choices []byte
		want    [3][64]byte
	}{
		{nil, [3][64]byte{}},
		{[]byte{}, [3][64]byte{}},
		{[]byte{1}, [3][64]byte{filled(1)}},
		{[]byte{0, 1}, [3][64]byte{{}, filled(2)}},
		{[]byte{2, 3, 1}, [3][64]byte{halves(1, 0), halves(0, 2), filled(3)}},
		{[]byte{4, 255, 3}, [3][64]byte{{}, {}, halves(0, 3)}},
		{[]byte{1, 1, 1, 1, 1, 2, 3, 255}, [3][64]byte{filled(1), filled(2), filled(3)}},
	} {
		d := threeWrites(t)
		d.Restart(c.choices)
		expectState(t, d, false, 0)
		for s, want := range c.want {
			expectRead(t, d, s, want)
		}
		// What was dropped is gone, and comes back by no later call.
		d.Sync()
		d.Restart([]byte{1, 1, 1})
		for s, want := range c.want {
			expectRead(t, d, s, want)
		}
	}
}

func TestTwoWritesOfOneSector(t *testing.T) {
	for _, c := range []struct {
		choices []byte
		want    [64]byte
	}{
		{[]byte{1, 1}, filled(3)},
		{[]byte{1, 0}, filled(2)},
		{[]byte{0, 1}, filled(3)},
		{[]byte{1, 2}, halves(3, 2)},
		{[]byte{1, 3}, halves(2, 3)},
		{[]byte{0, 2}, halves(3, 1)},
		{[]byte{0, 3}, halves(1, 3)},
		{[]byte{2, 0}, halves(2, 1)},
		{[]byte{2, 1}, filled(3)},
		{[]byte{2, 2}, halves(3, 1)},
		{[]byte{2, 3}, halves(2, 3)},
		{[]byte{3, 2}, halves(3, 2)},
		{[]byte{3, 3}, halves(1, 3)},
		{[]byte{3}, halves(1, 2)},
	} {
		d := made(t, 2)
		d.Write(0, filled(1))
		d.Sync()
		d.Write(0, filled(2))
		d.Write(0, filled(3))
		d.Restart(c.choices)
		if got, e := d.Read(0); got != c.want || e != api.OK {
			t.Errorf("choices %d: %x, %v, not %x", c.choices, got, e, c.want)
		}
	}
}

func TestRestartTakesTheFuse(t *testing.T) {
	for _, fuse := range []int{0, 1, 5} {
		for _, down := range []bool{false, true} {
			d := made(t, 1)
			d.SetFuse(fuse)
			for range fuse + 1 {
				if down {
					d.Sync()
				}
			}
			expectState(t, d, down, 0)
			d.Restart(nil)
			for range 20 {
				expect(t, "Write behind a restart", d.Write(0, filled(1)), api.OK)
				expect(t, "Sync behind a restart", d.Sync(), api.OK)
			}
			expectState(t, d, false, 0)
			expectRead(t, d, 0, filled(1))
		}
	}
	d := made(t, 1)
	d.SetFuse(0)
	d.Sync()
	d.SetFuse(7)
	d.Restart(nil)
	for range 20 {
		expect(t, "the fuse of a disk that is down is taken too", d.Sync(), api.OK)
	}
	d.SetFuse(0)
	expect(t, "a fuse set behind a restart", d.Sync(), api.ErrLost)
}

func TestRestartLeavesFull(t *testing.T) {
	d := threeWrites(t)
	d.SetFull(true)
	d.Restart([]byte{1, 2})
	expectState(t, d, false, 0)
	expectRead(t, d, 0, filled(1))
	expectRead(t, d, 1, halves(2, 0))
	expect(t, "Write of a disk that stays full", d.Write(0, filled(9)), api.ErrFull)
	expect(t, "Sync", d.Sync(), api.OK)
	d.SetFuse(0)
	d.Sync()
	d.Restart(nil)
	expect(t, "Write of a disk that stays full", d.Write(0, filled(9)), api.ErrFull)
	d.SetFull(false)
	d.Restart(nil)
	expect(t, "Write of a disk that isn't full any more", d.Write(0, filled(9)), api.OK)
}

func TestManyCrashes(t *testing.T) {
	b := twin(t, 2)
	for i := range 200 {
		b.write(i%2, filled(byte(i)))
		b.write((i+1)%2, filled(byte(i+1)))
		if i%5 == 0 {
			b.setFuse(i % 3)
			b.sync()
			b.write(0, filled(200))
			b.sync()
		}
		b.restart([]byte{byte(i % 4), byte(i / 4 % 4)})
		b.agree()
	}
}

func TestChoicesAreLeftAndNotKept(t *testing.T) {
	whole := []byte{2, 3, 1, 1, 1, 1, 77}
	before := slices.Clone(whole)
	d := made(t, 3)
	d.Write(0, filled(1))
	d.Write(1, filled(2))
	d.Write(2, filled(3))
	d.Restart(whole[:2])
	if !slices.Equal(whole, before) {
		t.Errorf("the choices are changed: %d", whole)
	}
	expectRead(t, d, 2, [64]byte{}) // spare room is no choice
	d.Write(2, filled(4))
	for i := range whole {
		whole[i] = 1
	}
	expectRead(t, d, 0, halves(1, 0))
	expectRead(t, d, 1, halves(0, 2))
	expectState(t, d, false, 1)
	d.Restart(nil)
	expectRead(t, d, 2, [64]byte{})
}

func TestAnswersAreCopies(t *testing.T) {
	d := made(t, 1)
	data := filled(1)
	d.Write(0, data)
	data[0] = 9
	got, _ := d.Read(0)
	got[1] = 9
	expectRead(t, d, 0, filled(1))
	d.Sync()
	got, _ = d.Read(0)
	got[1] = 9
	expectRead(t, d, 0, filled(1))
}

// Rule R2: what one disk is told, another doesn't hear of.
func TestDisksSideBySide(t *testing.T) {
	one, two := made(t, 4), made(t, 4)
	one.Write(1, filled(1))
	expectState(t, two, false, 0)
	expectRead(t, two, 1, [64]byte{})
	two.Write(1, filled(2))
	two.SetFull(true)
	two.SetFuse(0)
	expect(t, "Sync of the one", one.Sync(), api.OK)
	expect(t, "Write of the one", one.Write(2, filled(3)), api.OK)
	expect(t, "Sync of the other", two.Sync(), api.ErrLost)
	expectState(t, one, false, 1)
	expectRead(t, one, 1, filled(1))
	two.Restart([]byte{1})
	expectState(t, one, false, 1)
	expectRead(t, one, 1, filled(1))
	expectRead(t, two, 1, filled(2))
	expectRead(t, two, 2, [64]byte{})
	one.Restart(nil)
	expect(t, "Write of the other, which is full", two.Write(0, filled(4)), api.ErrFull)
	expect(t, "Write of the one, which isn't", one.Write(0, filled(4)), api.OK)
}

func TestNilDisk(t *testing.T) {
	var d *disk.Disk
	for range 2 {
		if d.Sectors() != 0 {
			t.Errorf("Sectors: %d", d.Sectors())
		}
		expectState(t, d, false, 0)
		for _, s := range []int{-1, 0, 1} {
			expect(t, "Write", d.Write(s, filled(1)), api.ErrArg)
			refuseRead(t, d, s, api.ErrArg)
		}
		expect(t, "Sync", d.Sync(), api.ErrArg)
		d.SetFull(true)
		d.SetFuse(0)
		d.Restart(nil)
		d.Restart([]byte{1, 2, 3})
	}
}

// A disk that New hasn't made has no sectors, and still no call of it panics.
func TestDiskNotMade(t *testing.T) {
	var d disk.Disk
	expect(t, "Write", d.Write(0, filled(1)), api.ErrArg)
	refuseRead(t, &d, 0, api.ErrArg)
	expect(t, "Sync", d.Sync(), api.OK)
	d.Restart([]byte{1})
	expectState(t, &d, false, 0)
	if d.Sectors() != 0 {
		t.Errorf("Sectors: %d", d.Sectors())
	}
}
