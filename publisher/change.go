package publisher

import (
	"slices"

	"beacon/api"
	"beacon/store"
	"beacon/wire"
)

// Each call here asks all its questions first, then lays what it does in the table,
// and only then does it: what the table refuses hasn't happened.

// Submit puts an update at the end of the queue, or in the place of the one of that
// account that waits, and answers its place, from 1 on; ErrArg, if its account or
// its devices are none; ErrFull, if the queue or the disk is full; ErrLost.
func (p *Publisher) Submit(u api.Update) (int, api.Errno) {
	if p.missing() || !wire.Account(u.Account) || !wire.Devices(u.Devices) {
		return 0, api.ErrArg
	}
	at := p.placeOf(u.Account)
	if at >= api.MostQueue {
		return 0, api.ErrFull
	}
	e := p.table.Apply([]store.Change{{Key: p.keyAt(at), Value: textOf([]api.Update{u})}})
	if e != api.OK {
		return 0, e
	}
	if at == len(p.queue) {
		p.queue = append(p.queue, api.Update{})
	}
	p.queue[at] = cloned(u)
	return at + 1, api.OK
}

// Tick goes on by so many: with a move, or else with the queue; it answers the
// latest root, and whether it is of an epoch that was published now. ErrArg, if
// batch isn't from 1 to MostBatch; ErrFull, ErrLost.
func (p *Publisher) Tick(batch int) (api.Root, bool, api.Errno) {
	if p.missing() || batch < 1 || batch > api.MostBatch {
		return api.Root{}, false, api.ErrArg
	}
	if p.dir.Moving() > 0 {
		return p.move(batch)
	}
	if len(p.queue) == 0 {
		return p.dir.Root(), false, api.OK
	}
	return p.publish(min(batch, len(p.queue)))
}

// Rotate begins a move to the generation of the secret, and answers its
// certificate; ErrBusy, if the directory is moving; ErrFull, ErrLost.
func (p *Publisher) Rotate(secret [32]byte) (api.Cert, api.Errno) {
	if p.missing() {
		return api.Cert{}, api.ErrArg
	}
	if p.dir.Moving() > 0 {
		return api.Cert{}, api.ErrBusy
	}
	e := p.table.Apply([]store.Change{
		{Key: p.nextEpochKey(), Value: textOfSecret(secret)},
		{Key: madeKey, Value: string(wire.Num(0))},
	})
	if e != api.OK {
		return api.Cert{}, e
	}
	return p.dir.Rotate(secret)
}

// placeOf is where the account's update waits, or would join the queue.
func (p *Publisher) placeOf(account string) int {
	at := slices.IndexFunc(p.queue, func(u api.Update) bool { return u.Account == account })
	if at < 0 {
		return len(p.queue)
	}
	return at
}

func (p *Publisher) move(batch int) (api.Root, bool, api.Errno) {
	if e := p.table.Apply([]store.Change{p.moved(batch)}); e != api.OK {
		return api.Root{}, false, e
	}
	return p.dir.Move(batch)
}

// moved is what the table is told of a move by so many labels more.
func (p *Publisher) moved(batch int) store.Change {
	if left := p.dir.Moving() - 1; batch >= left {
		return store.Change{Key: madeKey, Gone: true}
	}
	made, _ := p.made()
	return store.Change{Key: madeKey, Value: string(wire.Num(made + uint64(batch)))}
}

// publish makes an epoch of the queue's first n updates. In the table the epoch
// takes no more room than they took there: what was taken finds room.
func (p *Publisher) publish(n int) (api.Root, bool, api.Errno) {
	batch := p.queue[:n]
	changes := []store.Change{{Key: p.nextEpochKey(), Value: textOf(batch)}}
	for at := range batch {
		changes = append(changes, store.Change{Key: p.keyAt(at), Gone: true})
	}
	if e := p.table.Apply(changes); e != api.OK {
		return api.Root{}, false, e
	}
	root, e := p.dir.Publish(batch)
	p.queue = slices.Delete(p.queue, 0, n)
	p.first += uint64(n)
	return root, e == api.OK, e
}
