package store

import (
	"bytes"

	"beacon/api"
	"beacon/disk"
	"beacon/wire"
)

// The byte ahead of each value that is laid: a key that is gone has not even that.
const mark = 1

// recordOf answers a batch as a record: keys and values by turns. It has at most
// the batch's weight and 4 bytes.
func recordOf(batch []Change) []byte {
	var list [][]byte
	for _, c := range batch {
		var value []byte
		if !c.Gone {
			value = append([]byte{mark}, c.Value...)
		}
		list = append(list, []byte(c.Key), value)
	}
	record, _ := wire.Encode(list) // no batch that isn't refused is too large for it
	return record
}

// batchOf answers the batch whose record it is; none, if it is another one's.
func batchOf(record []byte) []Change {
	list, e := wire.Decode(record)
	if e != api.OK || len(list)%2 != 0 {
		return nil
	}
	var batch []Change
	for ; len(list) > 0; list = list[2:] {
		c := Change{Key: string(list[0]), Gone: len(list[1]) == 0}
		if !c.Gone {
			c.Value = string(list[1][1:])
		}
		batch = append(batch, c)
	}
	if refuse(batch) != api.OK || !bytes.Equal(recordOf(batch), record) {
		return nil
	}
	return batch
}

// takenBy answers how much of a log's room the records take.
func takenBy(records [][]byte) int {
	sum := 0
	for _, r := range records {
		sum += len(r) + 64
	}
	return sum
}

// roomOfLog is as much as layer 9 promises to take.
func roomOfLog(d *disk.Disk) int {
	return (d.Sectors()/2 - 8) * 32
}

// roomOfTable leaves an eighth of the log to batches: else a table as great as may
// be would be laid anew with each of them. It is more than this layer has promised,
// and the records of such a table take no more than the log's room.
func roomOfTable(log int) int {
	return log / 8 * 7
}
