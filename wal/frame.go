package wal

import (
	"bytes"

	"beacon/api"
	"beacon/disk"
	"beacon/sha2"
	"beacon/wire"
)

const (
	sumSize    = 32 // just half a sector: of a torn head the hash or the size is there, not both
	numberSize = 8
)

type sector [api.SectorSize]byte

// headOf answers the sector with which a frame begins: the payload's hash and size.
func headOf(payload []byte) (head sector) {
	sum := sha2.Sum256(payload)
	copy(head[:sumSize], sum[:])
	copy(head[sumSize:], wire.Num(uint64(len(payload))))
	return head
}

// frameLength answers how many sectors the frame of so many bytes has.
func frameLength(size int) int {
	return 1 + (size+api.SectorSize-1)/api.SectorSize
}

// fits answers whether a frame, and the blank sector behind it, end ahead of to.
func fits(at, size, to int) bool {
	return at+frameLength(size) < to
}

// layFrame lays a frame in three steps, each synced ahead of the next: the place of
// the head is blank while the payload is laid, so that no mixture of old and new
// bytes is a frame; the head comes when all else is there; and the blank sector
// behind the payload ends the log, whatever has stood there and farther on.
func layFrame(d *disk.Disk, at int, payload []byte) api.Errno {
	if e := store(d, at, sector{}); e != api.OK {
		return e
	}
	if e := store(d, at+1, append(cut(payload), sector{})...); e != api.OK {
		return e
	}
	return store(d, at, headOf(payload))
}

// store writes the sectors one behind the other, and syncs them.
func store(d *disk.Disk, at int, sectors ...sector) api.Errno {
	for i, s := range sectors {
		if e := d.Write(at+i, s); e != api.OK {
			return e
		}
	}
	return d.Sync()
}

// cut answers the payload as sectors, the last one filled up with noughts.
func cut(payload []byte) []sector {
	out := make([]sector, 0, frameLength(len(payload)))
	for len(payload) > 0 {
		var s sector
		payload = payload[copy(s[:], payload):]
		out = append(out, s)
	}
	return out
}

// takeFrame answers the payload of the frame at a sector, and whether a whole one
// stands there and ends ahead of to.
func takeFrame(d *disk.Disk, at, to int) ([]byte, bool) {
	if at >= to {
		return nil, false
	}
	head := read(d, at)
	size, _ := wire.ReadNum(head[sumSize : sumSize+numberSize])
	if size > uint64(to-at-1)*api.SectorSize {
		return nil, false
	}
	payload := make([]byte, size)
	for done := 0; done < len(payload); {
		at++
		s := read(d, at)
		done += copy(payload[done:], s[:])
	}
	if headOf(payload) != head {
		return nil, false
	}
	return payload, true
}

// read is for a disk that isn't down, and sectors that it has: no Read of these fails.
func read(d *disk.Disk, at int) sector {
	data, _ := d.Read(at)
	return data
}

// joinedSize answers how many bytes join answers.
func joinedSize(records [][]byte) int {
	size := numberSize
	for _, r := range records {
		size += numberSize + len(r)
	}
	return size
}

// join answers a turn and its records as one payload.
func join(turn uint64, records [][]byte) []byte {
	out := append(make([]byte, 0, joinedSize(records)), wire.Num(turn)...)
	for _, r := range records {
		out = append(out, wire.Num(uint64(len(r)))...)
		out = append(out, r...)
	}
	return out
}

// split answers what join has joined, and whether the payload is of that form.
func split(payload []byte) (turn uint64, records [][]byte, ok bool) {
	turn, rest, ok := cutNumber(payload)
	for ok && len(rest) > 0 {
		var size uint64
		size, rest, ok = cutNumber(rest)
		if !ok || size > uint64(len(rest)) {
			return 0, nil, false
		}
		records = append(records, bytes.Clone(rest[:size]))
		rest = rest[size:]
	}
	return turn, records, ok
}

func cutNumber(b []byte) (n uint64, rest []byte, ok bool) {
	if len(b) < numberSize {
		return 0, nil, false
	}
	n, e := wire.ReadNum(b[:numberSize])
	return n, b[numberSize:], e == api.OK
}
