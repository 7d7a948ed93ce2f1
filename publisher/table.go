package publisher

import (
	"beacon/api"
	"beacon/wire"
)

// The table's keys: a mark and a number for each epoch but the first, and for each
// update that waits; and one that is there while the directory is moving.
const (
	epochMark = 'e'
	queueMark = 'q'
	madeKey   = "made"
)

const wordSize = 32 // bytes of a secret, or of a device

// keyOf: keys of one mark are in the order of their numbers.
func keyOf(mark byte, n uint64) string {
	return string(append([]byte{mark}, wire.Num(n)...))
}

func (p *Publisher) nextEpochKey() string { return keyOf(epochMark, p.dir.Root().Epoch+1) }

// keyAt is the key of a place in the queue, from 0 on.
func (p *Publisher) keyAt(at int) string { return keyOf(queueMark, p.first+uint64(at)) }

// keys are all of a mark, in order.
func (p *Publisher) keys(mark byte) []string {
	return p.table.Keys(string([]byte{mark}), string([]byte{mark + 1}))
}

// textOf is a batch as a value: accounts and devices by turns.
func textOf(batch []api.Update) string {
	var list [][]byte
	for _, u := range batch {
		var devices []byte
		for _, d := range u.Devices {
			devices = append(devices, d[:]...)
		}
		list = append(list, []byte(u.Account), devices)
	}
	return encoded(list)
}

// textOfSecret is a secret as a value: alone in its list, so that no batch is like it.
func textOfSecret(secret [32]byte) string { return encoded([][]byte{secret[:]}) }

// encoded: no batch has so many bytes that Encode refuses them.
func encoded(list [][]byte) string {
	b, _ := wire.Encode(list)
	return string(b)
}

// members are the list whose bytes lie under a key.
func (p *Publisher) members(key string) [][]byte {
	value, _ := p.table.Get(key)
	list, _ := wire.Decode([]byte(value))
	return list
}

// batchOf is the batch of which these are the accounts and devices. Of a list that
// textOf hasn't made it is whatever can be read in it.
func batchOf(list [][]byte) []api.Update {
	var batch []api.Update
	for ; len(list) >= 2; list = list[2:] {
		u := api.Update{Account: string(list[0])}
		for rest := list[1]; len(rest) >= wordSize; rest = rest[wordSize:] {
			u.Devices = append(u.Devices, [wordSize]byte(rest[:wordSize]))
		}
		batch = append(batch, u)
	}
	return batch
}

// made answers how many labels of a move are made, and whether one is going on.
func (p *Publisher) made() (labels uint64, going bool) {
	value, going := p.table.Get(madeKey)
	labels, _ = wire.ReadNum([]byte(value))
	return labels, going
}

// repeatEpochs does again with the directory what the table tells of its epochs.
func (p *Publisher) repeatEpochs() {
	for _, key := range p.keys(epochMark) {
		// A move behind which there is another epoch has come to its end.
		p.makeAllLabels()
		p.repeat(p.members(key))
	}
	made, going := p.made()
	if !going {
		p.makeAllLabels()
		return
	}
	p.makeLabels(made)
}

func (p *Publisher) repeat(list [][]byte) {
	if len(list) == 1 && len(list[0]) == wordSize {
		p.dir.Rotate([wordSize]byte(list[0]))
		return
	}
	p.dir.Publish(batchOf(list))
}

// makeAllLabels ends a move, if there is one.
func (p *Publisher) makeAllLabels() { p.makeLabels(uint64(p.dir.Moving())) }

// makeLabels makes so many labels, or those that are left: a disk of another kind
// could tell of any number.
func (p *Publisher) makeLabels(n uint64) {
	for n > 0 && p.dir.Moving() > 0 {
		some := min(n, api.MostItems)
		p.dir.Move(int(some))
		n -= some
	}
}

func (p *Publisher) fillQueue() {
	keys := p.keys(queueMark)
	for _, key := range keys {
		p.queue = append(p.queue, batchOf(p.members(key))...)
	}
	if len(keys) > 0 {
		p.first, _ = wire.ReadNum([]byte(keys[0][1:]))
	}
}
