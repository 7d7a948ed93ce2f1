package directory_test

import (
	"bytes"
	"crypto/ed25519"
	"crypto/sha256"
	"encoding/binary"
	"fmt"
	"maps"
	"math/rand"
	"regexp"
	"slices"
	"sync"
	"testing"

	"beacon/api"
	"beacon/directory"
	"beacon/vrf"
)

// A second, plain reading of the chapter: it keeps lists of devices and secrets
// alone, and works out all leaves anew each time; hashes, keys and signatures by
// Go's own library, proofs by layer 6.

// written is a list's bytes.
func written(list ...[]byte) []byte {
	b := binary.BigEndian.AppendUint32(nil, uint32(len(list)))
	for _, m := range list {
		b = binary.BigEndian.AppendUint32(b, uint32(len(m)))
		b = append(b, m...)
	}
	return b
}

func number(n uint64) []byte { return binary.BigEndian.AppendUint64(nil, n) }

func hash(parts ...[]byte) [32]byte { return sha256.Sum256(slices.Concat(parts...)) }

// Keys and signatures.

func plainKey(word string, secret [32]byte) ed25519.PrivateKey {
	seed := hash([]byte(word), secret[:])
	return ed25519.NewKeyFromSeed(seed[:])
}

func plainKeys(secret [32]byte, gen uint64) api.Keys {
	return api.Keys{
		Gen:  gen,
		Sign: [32]byte(plainKey("sign", secret).Public().(ed25519.PublicKey)),
		Vrf:  [32]byte(plainKey("vrf", secret).Public().(ed25519.PublicKey)),
	}
}

func plainSign(secret [32]byte, message []byte) [64]byte {
	return [64]byte(ed25519.Sign(plainKey("sign", secret), message))
}

func signed(secret [32]byte, r api.Root) api.Root {
	r.Sig = plainSign(secret, written([]byte("root"), number(r.Epoch), number(r.Kind), number(r.Gen), r.Prev[:], r.Hash[:], r.Link[:]))
	return r
}

func certified(secret [32]byte, k api.Keys, epoch uint64) api.Cert {
	return api.Cert{Keys: k, Epoch: epoch, Sig: plainSign(secret, written([]byte("cert"), number(k.Gen), k.Sign[:], k.Vrf[:], number(epoch)))}
}

// Labels and values.

type name struct {
	account string
	version uint64
	stale   bool
}

type proved struct {
	label [32]byte
	proof [80]byte
}

// known spares the tests from proving one thing many times.
var known = struct {
	sync.Mutex
	made map[string]proved
}{made: map[string]proved{}}

func plainLabel(secret [32]byte, n name) proved {
	stale := []byte{0}
	if n.stale {
		stale[0] = 1
	}
	input := written([]byte("label"), []byte(n.account), number(n.version), stale)
	known.Lock()
	defer known.Unlock()
	key := string(secret[:]) + string(input)
	if p, ok := known.made[key]; ok {
		return p
	}
	proof, e := vrf.Prove(hash([]byte("vrf"), secret[:]), input)
	out, f := vrf.Output(proof)
	if e != api.OK || f != api.OK {
		panic("no proof")
	}
	known.made[key] = proved{[32]byte(out[:32]), proof}
	return known.made[key]
}

func plainValue(devices [][32]byte) [32]byte {
	var joined []byte
	for _, d := range devices {
		joined = append(joined, d[:]...)
	}
	return hash(written([]byte("devices"), joined))
}

// Trees.

func nodeBytes(n api.Node) []byte {
	return slices.Concat(binary.BigEndian.AppendUint16(nil, uint16(n.Len)), n.Prefix[:], n.Hash[:])
}

func leafNodes(leaves []api.Leaf) (out []api.Node) {
	for _, l := range leaves {
		out = append(out, api.Node{Len: 256, Prefix: l.Label, Hash: hash([]byte{1}, l.Label[:], l.Value[:])})
	}
	return out
}

func bit(b [32]byte, i int) int { return int(b[i/8]>>(7-i%8)) & 1 }

// branch is the node over leaves' nodes, and those on its either side.
func branch(nodes []api.Node) (over api.Node, low, high []api.Node) {
	if len(nodes) == 1 {
		return nodes[0], nil, nil
	}
	for over.Len = 0; ; over.Len++ {
		low, high = nil, nil
		for _, n := range nodes {
			if bit(n.Prefix, over.Len) == 0 {
				low = append(low, n)
			} else {
				high = append(high, n)
			}
		}
		if len(low) > 0 && len(high) > 0 {
			break
		}
		if len(high) > 0 {
			over.Prefix[over.Len/8] |= 128 >> (over.Len % 8)
		}
	}
	l, _, _ := branch(low)
	h, _, _ := branch(high)
	over.Hash = hash([]byte{2}, nodeBytes(l), nodeBytes(h))
	return over, low, high
}

func plainRoot(nodes []api.Node) [32]byte {
	if len(nodes) == 0 {
		return hash([]byte{0})
	}
	over, _, _ := branch(nodes)
	return hash([]byte{3}, nodeBytes(over))
}

func plainHolds(n api.Node, label [32]byte) bool {
	for i := range n.Len {
		if bit(n.Prefix, i) != bit(label, i) {
			return false
		}
	}
	return true
}

// cut is the tree of leaves' nodes, opened at the labels: the greatest nodes that
// hold none of them, and leaves' own.
func cut(nodes []api.Node, labels ...[32]byte) []api.Node {
	if len(nodes) == 0 {
		return nil
	}
	over, low, high := branch(nodes)
	held := slices.ContainsFunc(labels, func(l [32]byte) bool { return plainHolds(over, l) })
	if !held || len(nodes) == 1 {
		return []api.Node{over}
	}
	return append(cut(low, labels...), cut(high, labels...)...)
}

// The directory.

type plainDir struct {
	secrets [][32]byte // of all generations, also the one to which it moves
	certs   []api.Cert
	steps   []api.Step
	lists   map[string][][][32]byte
	moving  bool
	left    int
}

func newPlain(secret [32]byte) *plainDir {
	p := &plainDir{secrets: [][32]byte{secret}, lists: map[string][][][32]byte{}}
	p.steps = []api.Step{{Root: signed(secret, api.Root{Hash: plainRoot(nil)})}}
	return p
}

func (p *plainDir) root() api.Root { return p.steps[len(p.steps)-1].Root }

func (p *plainDir) secret() [32]byte { return p.secrets[p.root().Gen] }

func (p *plainDir) still() int {
	if p.moving {
		return p.left + 1
	}
	return 0
}

// leaves are all leaves under a secret, by rising Labels, and what they are of.
func (p *plainDir) leaves(secret [32]byte) (leaves []api.Leaf, names map[[32]byte]name) {
	names = map[[32]byte]name{}
	lay := func(n name, value [32]byte) {
		l := plainLabel(secret, n).label
		leaves = append(leaves, api.Leaf{Label: l, Value: value})
		names[l] = n
	}
	for account, lists := range p.lists {
		for i, devices := range lists {
			lay(name{account, uint64(i) + 1, false}, plainValue(devices))
			if i > 0 {
				lay(name{account, uint64(i), true}, hash(written([]byte("stale"))))
			}
		}
	}
	slices.SortFunc(leaves, func(a, b api.Leaf) int { return bytes.Compare(a.Label[:], b.Label[:]) })
	return leaves, names
}

func (p *plainDir) nodes() []api.Node {
	leaves, _ := p.leaves(p.secret())
	return leafNodes(leaves)
}

var accounts = regexp.MustCompile(`\A[a-z0-9._-]{1,32}\z`)

func plainDevices(list [][32]byte) bool {
	for i := range list {
		if i > 0 && bytes.Compare(list[i-1][:], list[i][:]) >= 0 {
			return false
		}
	}
	return len(list) <= 8
}

func plainBatch(batch []api.Update) bool {
	seen := map[string]bool{}
	for _, u := range batch {
		if !accounts.MatchString(u.Account) || !plainDevices(u.Devices) || seen[u.Account] {
			return false
		}
		seen[u.Account] = true
	}
	return len(batch) >= 1 && len(batch) <= 32
}

func (p *plainDir) publish(batch []api.Update) (api.Root, api.Errno) {
	switch {
	case !plainBatch(batch):
		return api.Root{}, api.ErrArg
	case p.moving:
		return api.Root{}, api.ErrBusy
	}
	last, secret := p.root(), p.secret()
	ahead, were := p.leaves(secret)
	for _, u := range batch {
		p.lists[u.Account] = append(p.lists[u.Account], slices.Clone(u.Devices))
	}
	all, _ := p.leaves(secret)
	s := api.Step{Root: signed(secret, api.Root{Epoch: last.Epoch + 1, Kind: 1, Gen: last.Gen, Prev: last.Hash, Hash: plainRoot(leafNodes(all))})}
	var labels [][32]byte
	for _, l := range all {
		if _, was := were[l.Label]; !was {
			s.Added = append(s.Added, l)
			labels = append(labels, l.Label)
		}
	}
	s.Nodes = cut(leafNodes(ahead), labels...)
	p.steps = append(p.steps, s)
	return s.Root, api.OK
}

func (p *plainDir) rotate(secret [32]byte) (api.Cert, api.Errno) {
	if p.moving {
		return api.Cert{}, api.ErrBusy
	}
	leaves, _ := p.leaves(p.secret())
	c := certified(p.secret(), plainKeys(secret, uint64(len(p.secrets))), p.root().Epoch+1)
	p.certs, p.secrets = append(p.certs, c), append(p.secrets, secret)
	p.moving, p.left = true, len(leaves)
	return c, api.OK
}

func (p *plainDir) move(most int) (api.Root, bool, api.Errno) {
	switch {
	case most < 1, most > 65536:
		return api.Root{}, false, api.ErrArg
	case !p.moving:
		return api.Root{}, false, api.ErrNone
	case most < p.left:
		p.left -= most
		return p.root(), false, api.OK
	}
	last, next := p.root(), p.secrets[len(p.secrets)-1]
	old, names := p.leaves(p.secret())
	fresh, _ := p.leaves(next)
	var s api.Step
	var joined []byte
	for _, l := range old {
		k := api.Link{Old: l.Label, New: plainLabel(next, names[l.Label]).label, Value: l.Value}
		s.Links = append(s.Links, k)
		joined = slices.Concat(joined, k.Old[:], k.New[:], k.Value[:])
	}
	s.Root = signed(next, api.Root{Epoch: last.Epoch + 1, Kind: 2, Gen: last.Gen + 1, Prev: last.Hash, Hash: plainRoot(leafNodes(fresh)), Link: hash(joined)})
	p.steps, p.moving, p.left = append(p.steps, s), false, 0
	return s.Root, true, api.OK
}

func (p *plainDir) opening(n name) api.Opening {
	made := plainLabel(p.secret(), n)
	return api.Opening{Proof: made.proof, Nodes: cut(p.nodes(), made.label)}
}

func (p *plainDir) lookup(account string) (api.Lookup, api.Errno) {
	if !accounts.MatchString(account) {
		return api.Lookup{}, api.ErrArg
	}
	l := api.Lookup{Root: p.root(), Account: account}
	lists := p.lists[account]
	if len(lists) == 0 {
		l.Fresh = p.opening(name{account, 1, false})
		return l, api.OK
	}
	l.Version = uint64(len(lists))
	l.Devices = lists[l.Version-1]
	l.Fresh = p.opening(name{account, l.Version, false})
	l.Stale = p.opening(name{account, l.Version, true})
	return l, api.OK
}

func (p *plainDir) history(account string) (api.History, api.Errno) {
	if !accounts.MatchString(account) {
		return api.History{}, api.ErrArg
	}
	h := api.History{Root: p.root(), Account: account, Versions: p.lists[account]}
	for i := range h.Versions {
		h.Fresh = append(h.Fresh, p.opening(name{account, uint64(i) + 1, false}))
	}
	h.Next = p.opening(name{account, uint64(len(h.Versions)) + 1, false})
	return h, api.OK
}

// Answers, held against what is wanted.

// expect holds texts of the answers against each other: a list that is nil is told
// as one that is empty.
func expect(t *testing.T, what string, got, want []any) {
	t.Helper()
	if fmt.Sprint(got...) != fmt.Sprint(want...) {
		t.Fatalf("%s:\n%v\nwant\n%v", what, got, want)
	}
}

func all(v ...any) []any { return v }

// pair is a directory and its plain reading: each call is done with both.
type pair struct {
	t     *testing.T
	dir   *directory.Dir
	plain *plainDir
}

func newPair(t *testing.T, secret [32]byte) *pair {
	t.Helper()
	p := &pair{t, directory.New(secret), newPlain(secret)}
	p.expectState()
	return p
}

func (p *pair) publish(batch ...api.Update) api.Errno {
	p.t.Helper()
	r, e := p.dir.Publish(batch)
	want, f := p.plain.publish(batch)
	expect(p.t, fmt.Sprint("Publish ", batch), all(r, e), all(want, f))
	p.expectLatest()
	return e
}

func (p *pair) rotate(secret [32]byte) api.Errno {
	p.t.Helper()
	c, e := p.dir.Rotate(secret)
	want, f := p.plain.rotate(secret)
	expect(p.t, fmt.Sprint("Rotate ", secret), all(c, e), all(want, f))
	p.expectLatest()
	return e
}

func (p *pair) move(most int) (bool, api.Errno) {
	p.t.Helper()
	r, done, e := p.dir.Move(most)
	want, was, f := p.plain.move(most)
	expect(p.t, fmt.Sprint("Move ", most), all(r, done, e), all(want, was, f))
	p.expectLatest()
	return done, e
}

// moveOn goes on to the end of a move.
func (p *pair) moveOn(most int) (calls int) {
	p.t.Helper()
	for {
		calls++
		done, e := p.move(most)
		if done {
			return calls
		}
		if e != api.OK || calls > 10000 {
			p.t.Fatal(e, calls)
		}
	}
}

func (p *pair) expectStep(epoch uint64) {
	p.t.Helper()
	s, e := p.dir.Step(epoch)
	var want api.Step
	f := api.ErrNone
	if epoch < uint64(len(p.plain.steps)) {
		want, f = p.plain.steps[epoch], api.OK
	}
	expect(p.t, fmt.Sprint("Step ", epoch), all(s, e), all(want, f))
}

func (p *pair) expectDevices(account string) {
	p.t.Helper()
	list, n := p.dir.Devices(account)
	lists := p.plain.lists[account]
	var want [][32]byte
	if len(lists) > 0 {
		want = lists[len(lists)-1]
	}
	expect(p.t, "Devices "+account, all(list, n), all(want, len(lists)))
}

func (p *pair) expectShown(account string) {
	p.t.Helper()
	l, e := p.dir.Lookup(account)
	lookup, f := p.plain.lookup(account)
	expect(p.t, fmt.Sprintf("Lookup %q", account), all(l, e), all(lookup, f))
	h, e := p.dir.History(account)
	history, f := p.plain.history(account)
	expect(p.t, fmt.Sprintf("History %q", account), all(h, e), all(history, f))
	p.expectDevices(account)
}

// expectLatest asks what can be told without a proof, of the epochs the latest one.
func (p *pair) expectLatest() {
	p.t.Helper()
	expect(p.t, "First", all(p.dir.First()), all(plainKeys(p.plain.secrets[0], 0)))
	expect(p.t, "Certs", all(p.dir.Certs()), all(p.plain.certs))
	expect(p.t, "Root", all(p.dir.Root()), all(p.plain.root()))
	expect(p.t, "Moving", all(p.dir.Moving()), all(p.plain.still()))
	latest := uint64(len(p.plain.steps)) - 1
	p.expectStep(latest)
	p.expectStep(latest + 1)
}

// expectState asks all that can be told.
func (p *pair) expectState() {
	p.t.Helper()
	p.expectLatest()
	for epoch := range p.plain.steps {
		p.expectStep(uint64(epoch))
	}
	for _, account := range slices.Sorted(maps.Keys(p.plain.lists)) {
		p.expectShown(account)
	}
	p.expectShown("nobody-at-all")
}

// What is handed in.

func update(account string, devices ...byte) api.Update {
	u := api.Update{Account: account}
	for _, d := range devices {
		u.Devices = append(u.Devices, [32]byte{31: d})
	}
	return u
}

func drawn(r *rand.Rand) (b [32]byte) {
	r.Read(b[:])
	return b
}

// drawnDevices are a list of devices, drawn whole or of one byte that isn't 0.
func drawnDevices(r *rand.Rand) [][32]byte {
	var list [][32]byte
	for range r.Intn(9) {
		d := drawn(r)
		if r.Intn(2) == 0 {
			at, b := r.Intn(32), d[0]
			d = [32]byte{}
			d[at] = b
		}
		list = append(list, d)
	}
	slices.SortFunc(list, func(a, b [32]byte) int { return bytes.Compare(a[:], b[:]) })
	return slices.Compact(list)
}
