package publisher_test

import (
	"bytes"
	"fmt"
	"math/rand"
	"regexp"
	"slices"
	"testing"

	"beacon/api"
	"beacon/directory"
	"beacon/disk"
	"beacon/publisher"
)

// A second, plain reading of the chapter: a directory of layer 15 and a list of
// updates, without a disk.

// teller is what both readings tell.
type teller interface {
	Queue() []api.Update
	First() api.Keys
	Certs() []api.Cert
	Root() api.Root
	Moving() int
	Step(epoch uint64) (api.Step, api.Errno)
	Devices(account string) ([][32]byte, int)
	Lookup(account string) (api.Lookup, api.Errno)
	History(account string) (api.History, api.Errno)
}

// doer is what both readings do.
type doer interface {
	teller
	Submit(u api.Update) (int, api.Errno)
	Tick(batch int) (api.Root, bool, api.Errno)
	Rotate(secret [32]byte) (api.Cert, api.Errno)
}

type plain struct {
	*directory.Dir // it tells all but the queue
	queue          []api.Update
}

func newPlain(secret [32]byte) *plain { return &plain{Dir: directory.New(secret)} }

func (p *plain) Queue() []api.Update { return p.queue }

var accounts = regexp.MustCompile(`\A[a-z0-9._-]{1,32}\z`)

func plainDevices(list [][32]byte) bool {
	for i := range list {
		if i > 0 && bytes.Compare(list[i-1][:], list[i][:]) >= 0 {
			return false
		}
	}
	return len(list) <= 8
}

func (p *plain) Submit(u api.Update) (int, api.Errno) {
	if !accounts.MatchString(u.Account) || !plainDevices(u.Devices) {
		return 0, api.ErrArg
	}
	kept := api.Update{Account: u.Account, Devices: slices.Clone(u.Devices)}
	for i := range p.queue {
		if p.queue[i].Account == u.Account {
			p.queue[i] = kept
			return i + 1, api.OK
		}
	}
	if len(p.queue) == 64 {
		return 0, api.ErrFull
	}
	p.queue = append(p.queue, kept)
	return len(p.queue), api.OK
}

func (p *plain) Tick(batch int) (api.Root, bool, api.Errno) {
	switch {
	case batch < 1, batch > 32:
		return api.Root{}, false, api.ErrArg
	case p.Moving() > 0:
		return p.Move(batch)
	case len(p.queue) == 0:
		return p.Root(), false, api.OK
	}
	n := min(batch, len(p.queue))
	root, e := p.Publish(p.queue[:n])
	p.queue = p.queue[n:]
	return root, true, e
}

// Answers, held against what is wanted.

func all(v ...any) []any { return v }

// expect holds texts of the answers against each other: a list that is nil is told
// as one that is empty.
func expect(t *testing.T, what string, got, want []any) {
	t.Helper()
	if fmt.Sprint(got...) != fmt.Sprint(want...) {
		t.Fatalf("%s:\n%v\nwant\n%v", what, got, want)
	}
}

// told is all that is told without a proof.
func told(p teller, names ...string) []any {
	out := all(p.Queue(), p.First(), p.Certs(), p.Root(), p.Moving())
	for epoch := range p.Root().Epoch + 2 {
		s, e := p.Step(epoch)
		out = append(out, s, e)
	}
	for _, name := range names {
		list, n := p.Devices(name)
		out = append(out, list, n)
	}
	return out
}

// shown is what is told of accounts with proofs.
func shown(p teller, names ...string) (out []any) {
	for _, name := range names {
		l, e := p.Lookup(name)
		h, f := p.History(name)
		out = append(out, l, e, h, f)
	}
	return out
}

func made(t *testing.T, sectors int) *disk.Disk {
	t.Helper()
	d, e := disk.New(sectors)
	if e != api.OK {
		t.Fatal(e)
	}
	return d
}

func opened(t *testing.T, d *disk.Disk, secret [32]byte) *publisher.Publisher {
	t.Helper()
	p, e := publisher.Open(d, secret)
	if e != api.OK {
		t.Fatal(e)
	}
	return p
}

// copyOf is a disk with what stands on d, also what waits there.
func copyOf(t *testing.T, d *disk.Disk) *disk.Disk {
	t.Helper()
	c := made(t, d.Sectors())
	for i := range d.Sectors() {
		data, _ := d.Read(i)
		c.Write(i, data)
	}
	c.Sync()
	return c
}

// pair is a publisher and its plain reading: each call is done with both.
type pair struct {
	t      *testing.T
	disk   *disk.Disk
	secret [32]byte
	pub    *publisher.Publisher
	plain  *plain
}

func newPair(t *testing.T, sectors int) *pair {
	t.Helper()
	p := &pair{t: t, disk: made(t, sectors), secret: [32]byte{1}}
	p.pub, p.plain = opened(t, p.disk, p.secret), newPlain(p.secret)
	p.expectTold()
	return p
}

func (p *pair) submit(u api.Update) (int, api.Errno) {
	p.t.Helper()
	n, e := p.pub.Submit(u)
	want, f := p.plain.Submit(u)
	expect(p.t, fmt.Sprint("Submit ", u), all(n, e), all(want, f))
	p.expectLatest()
	return n, e
}

// join submits all, each of which has to be taken.
func (p *pair) join(updates ...api.Update) {
	p.t.Helper()
	for _, u := range updates {
		if _, e := p.submit(u); e != api.OK {
			p.t.Fatal(u, e)
		}
	}
}

func (p *pair) tick(batch int) (bool, api.Errno) {
	p.t.Helper()
	r, done, e := p.pub.Tick(batch)
	want, was, f := p.plain.Tick(batch)
	expect(p.t, fmt.Sprint("Tick ", batch), all(r, done, e), all(want, was, f))
	p.expectLatest()
	return done, e
}

func (p *pair) rotate(secret [32]byte) api.Errno {
	p.t.Helper()
	c, e := p.pub.Rotate(secret)
	want, f := p.plain.Rotate(secret)
	expect(p.t, fmt.Sprint("Rotate ", secret), all(c, e), all(want, f))
	p.expectLatest()
	return e
}

// reopen is a crash behind all that was answered.
func (p *pair) reopen(choices ...byte) {
	p.t.Helper()
	p.disk.Restart(choices)
	p.pub = opened(p.t, p.disk, p.secret)
	p.expectTold()
}

// names are the accounts of the queue and of all that was published, and others.
func (p *pair) names() []string {
	out := []string{"a", "b", "c", "nobody", "A", ""}
	for _, u := range p.plain.queue {
		out = append(out, u.Account)
	}
	return out
}

// expectLatest asks what can be told soon.
func (p *pair) expectLatest() {
	p.t.Helper()
	latest := func(b teller) []any {
		s, e := b.Step(b.Root().Epoch)
		return all(b.Queue(), b.First(), b.Certs(), b.Root(), b.Moving(), s, e)
	}
	expect(p.t, "what is told", latest(p.pub), latest(p.plain))
}

func (p *pair) expectTold() {
	p.t.Helper()
	expect(p.t, "all that is told", told(p.pub, p.names()...), told(p.plain, p.names()...))
}

// expectKept asks it of p's publisher, and of one that is opened behind a crash.
func (p *pair) expectKept() {
	p.t.Helper()
	p.expectTold()
	if p.disk.Waiting() > 0 { // a copy would have what a crash takes
		p.reopen()
		return
	}
	again := opened(p.t, copyOf(p.t, p.disk), p.secret)
	expect(p.t, "all that is kept", told(again, p.names()...), told(p.plain, p.names()...))
}

// What is handed in.

func devices(last ...byte) (list [][32]byte) {
	for _, b := range last {
		list = append(list, [32]byte{31: b})
	}
	return list
}

func update(account string, last ...byte) api.Update {
	return api.Update{Account: account, Devices: devices(last...)}
}

// many are updates of n accounts.
func many(n int, last ...byte) (out []api.Update) {
	for i := range n {
		out = append(out, update(fmt.Sprint("account-", i), last...))
	}
	return out
}

func drawn(r *rand.Rand) (b [32]byte) {
	r.Read(b[:])
	return b
}

func drawnDevices(r *rand.Rand) (list [][32]byte) {
	for range r.Intn(9) {
		list = append(list, drawn(r))
	}
	slices.SortFunc(list, func(a, b [32]byte) int { return bytes.Compare(a[:], b[:]) })
	return list
}

func drawnChoices(r *rand.Rand, n int) []byte {
	choices := make([]byte, r.Intn(n+1))
	for i := range choices {
		choices[i] = byte(r.Intn(5))
	}
	return choices
}
