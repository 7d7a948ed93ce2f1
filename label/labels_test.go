package label_test

import (
	"math/rand"
	"slices"
	"testing"

	"beacon/api"
	"beacon/eddsa"
	"beacon/label"
	"beacon/point"
	"beacon/scalar"
	"beacon/sha2"
)

// P13.1: Make and Check. P13.3: what is made is accepted.

// Worked out apart from this program, in another language.
func TestKnownLabels(t *testing.T) {
	for _, c := range []struct {
		seed         string
		a            asked
		label, proof string
	}{
		{"0000000000000000000000000000000000000000000000000000000000000000", asked{"a", 1, false},
			"7c3780a12ac039aaf26eb98f4444d650f3da56b59881584930411efec9ca6d29",
			"ae4e61396bfebed7661821ae504e078409689fa632d6b501135993d056b6667b82fd6f2a704047a6" +
				"00d2e853ad30dcbdcfb387730216d101acad7cc26186796c654cb79b0e97490bf569c05ddde26109"},
		{"0000000000000000000000000000000000000000000000000000000000000000", asked{"a", 1, true},
			"9f324f1b507422cc5a4b2dd0eaa7a2fb67ac7c7128673ae5af5d1c21daab81c9",
			"f00d42d1f54932de6f8973c3a2a6d1ff9b5163a22e2616504c91072f98b16456d80f689c7a23ec56" +
				"c289f7b92a756add284d2ec9411768a2fbd893f7d85e71879753c7023e8bd83e9e261572a592d60f"},
		{"0100000000000000000000000000000000000000000000000000000000000000", asked{"a", 1, false},
			"800b44aa9c7084ec23b79a2140e2996283b769c5ffad6e4b3d65874571ae5816",
			"220b910e1fa4035e71cb5b1c9e2684094d301c825a879b4b179c5ee4398949ebe6c75a7b5e63e1b0" +
				"618535ba20c8c5d3d132eb3fcfeff7f34cdbea5eb0cd293aa36e2596b61499282421e113b6903705"},
		{"ffffffffffffffffffffffffffffffffffffffffffffffffffffffffffffffff", asked{"a.b-c_9", 258, true},
			"53303e7bf8e0a593fb149c80c8885f25741366b7dca776a50ba92c5f16a97617",
			"0c0fc8a434b3d62d3960b61398dcd50c1e529d03a83e9f2b65d50870b93d1f5980231d8461fffa4c" +
				"73944ac62195ce77bd29bd5690f46de610966cea0d56b24d6ed06ea1486d4e96efef9e7773331b09"},
		{"000102030405060708090a0b0c0d0e0f101112131415161718191a1b1c1d1e1f",
			asked{"abcdefghijklmnopqrstuvwxyz012345", 1<<64 - 1, false},
			"f5da2f3e108b9754cf73ef6078df7e30d7317f802fa0e08980e4fd3de647e859",
			"9503610252c27118e795a564bc3194381a9dd541d605f818838dfe473f8324449b0da2d4c69397b8" +
				"8e48891a368c1fabf30d034aa0e63ae062b11aba0aef246030c75d0f424f870a599394ffd89bf20d"},
		{"000102030405060708090a0b0c0d0e0f101112131415161718191a1b1c1d1e1f",
			asked{"--------------------------------", 1 << 63, true},
			"73e87e51d18d2a80ce27a417631b9842e9ee534d5ae3756a47f2e2c2063c8ce3",
			"0dff2c8f892223e716f88e1f59f7922894295d9aa27cb5989bcdd2289e0caa5e717083bfcbd7f56d" +
				"4ce4259e6d320a963eb195b434183cbfaabfa827328dd427e38269bd2b6e84aa105da06d0affea02"},
	} {
		seed, want, proof := [32]byte(unhex(t, c.seed)), [32]byte(unhex(t, c.label)), [80]byte(unhex(t, c.proof))
		expectMake(t, seed, c.a, want, proof, api.OK)
		expectCheck(t, "a known label", eddsa.Public(seed), c.a, proof, want, api.OK)
	}
}

func TestWhatIsMadeIsAccepted(t *testing.T) {
	r := rand.New(rand.NewSource(2))
	seeds := [][32]byte{{}, filled(255), {1}, {31: 128}}
	hold := func(seed [32]byte, a asked) {
		t.Helper()
		want, proof, e := plainMake(seed, a)
		if e != api.OK {
			t.Fatalf("%x, %+v: %v", seed, a, e)
		}
		expectMake(t, seed, a, want, proof, api.OK)
		expectCheck(t, "what was made", eddsa.Public(seed), a, proof, want, api.OK)
	}
	for i, a := range asks() {
		hold(seeds[i%len(seeds)], a)
	}
	for range 200 {
		hold([32]byte(drawn(r, 32)), drawnAsk(r))
	}
}

// Each account, version and stale, and each seed, has a label of its own.
func TestLabelsAreApart(t *testing.T) {
	seen := map[[32]byte]asked{}
	for _, seed := range [][32]byte{{}, {1}} {
		for _, a := range asks() {
			_, l, _ := made(t, seed, a)
			if other, there := seen[l]; there {
				t.Errorf("%+v and %+v have one label", a, other)
			}
			seen[l] = a
		}
	}
}

// What is refused.

func TestMakeOfWrongInputs(t *testing.T) {
	for _, seed := range [][32]byte{{}, filled(255)} {
		for _, stale := range []bool{false, true} {
			for _, name := range noAccounts() {
				expectMake(t, seed, asked{name, 1, stale}, [32]byte{}, [80]byte{}, api.ErrArg)
				expectMake(t, seed, asked{name, 0, stale}, [32]byte{}, [80]byte{}, api.ErrArg)
			}
			for _, name := range accounts() {
				expectMake(t, seed, asked{name, 0, stale}, [32]byte{}, [80]byte{}, api.ErrArg)
			}
		}
	}
}

// wrongKeys are no points, and points of small order.
func wrongKeys() [][32]byte {
	minus := [32]byte{0: 0xec, 31: 0x7f}
	for i := 1; i < 31; i++ {
		minus[i] = 0xff
	}
	beyond := minus
	beyond[0] = 0xed
	return [][32]byte{{2}, filled(255), {0: 1, 31: 128}, beyond, point.Zero(), minus, {}, {31: 128}}
}

// wrongProofs have a G that is no point, or a t that isn't canonical.
func wrongProofs(proof [80]byte) [][80]byte {
	none, full := [32]byte{2}, filled(255)
	return [][80]byte{
		[80]byte(slices.Concat(proof[:48], full[:])),
		[80]byte(slices.Concat(none[:], proof[32:])),
		[80]byte(slices.Concat(none[:], proof[32:48], full[:])),
	}
}

// What is asked of the account and the version comes first.
func TestCheckAsksInOrder(t *testing.T) {
	right := asked{"a", 1, false}
	public, _, proof := made(t, [32]byte{1}, right)
	wrong := []asked{{"a", 0, false}, {"a", 0, true}, {"A", 1, false}, {"", 1, true}, {"", 0, false}}
	for _, name := range noAccounts() {
		wrong = append(wrong, asked{name, 1, false})
	}
	for _, a := range wrong {
		refuse(t, "no input", public, a, proof, api.ErrArg)
		refuse(t, "no input, no proof", public, a, [80]byte{}, api.ErrArg)
		for _, key := range wrongKeys() {
			refuse(t, "no input, no key", key, a, proof, api.ErrArg)
		}
		for _, other := range wrongProofs(proof) {
			refuse(t, "no input, no form", public, a, other, api.ErrArg)
		}
	}
	for _, a := range []asked{right, {"a", 1, true}, {"b", 1, false}} {
		for _, key := range wrongKeys() {
			refuse(t, "no key", key, a, proof, api.ErrForm)
		}
		for _, other := range wrongProofs(proof) {
			refuse(t, "no form", public, a, other, api.ErrForm)
		}
	}
}

// A proof is one of its account, its version, fresh or stale, under its key.
func TestProofsOfOtherInputs(t *testing.T) {
	seed := filled(3)
	list := []asked{{"a", 1, false}, {"a", 1, true}, {"a", 2, false}, {"a", 256, false}, {"aa", 1, false}, {"b", 1, false}, {"b", 1, true}, {"a.", 1 << 32, true}}
	for _, a := range list {
		public, l, proof := made(t, seed, a)
		for _, b := range list {
			if a == b {
				expectCheck(t, "its own", public, b, proof, l, api.OK)
			} else {
				refuse(t, "another's", public, b, proof, api.ErrSig)
			}
		}
		refuse(t, "another's key", eddsa.Public(filled(4)), a, proof, api.ErrSig)
	}
}

func TestTurnedProofs(t *testing.T) {
	a := asked{"turned", 7, true}
	public, _, proof := made(t, filled(5), a)
	told := map[api.Errno]int{}
	for bit := range 640 {
		other := proof
		other[bit/8] ^= 1 << (bit % 8)
		_, want := plainCheck(public, a, other)
		told[want]++
		refuse(t, "a bit of the proof", public, a, other, want)
	}
	if told[api.OK] != 0 || told[api.ErrForm] == 0 || told[api.ErrSig] == 0 {
		t.Errorf("turned proofs are answered %v", told)
	}
	for bit := range 256 {
		other := public
		other[bit/8] ^= 1 << (bit % 8)
		want := api.ErrForm
		if point.Check(other) == api.OK {
			want = api.ErrSig
		}
		refuse(t, "a bit of the key", other, a, proof, want)
	}
}

// anotherProof is one by another k than the chapter's: it holds too, but no owner
// of the key gets another label by it.
func anotherProof(t *testing.T, seed, k [32]byte, alpha []byte) [80]byte {
	t.Helper()
	h := sha2.Sum512(seed[:])
	number := [32]byte(h[:32])
	number[0] &= 248
	number[31] = number[31]&127 | 64
	public, base := eddsa.Public(seed), point.Base(k)
	input := inputPoint(t, public, alpha)
	gamma, _ := point.Mul(number, input)
	times, _ := point.Mul(k, input)
	c := sha2.Sum512(slices.Concat([]byte{3, 2}, public[:], input[:], gamma[:], base[:], times[:], []byte{0}))
	var n [32]byte
	copy(n[:16], c[:16])
	last := scalar.MulAdd(n, number, k)
	return [80]byte(slices.Concat(gamma[:], c[:16], last[:]))
}

func inputPoint(t *testing.T, public [32]byte, alpha []byte) [32]byte {
	t.Helper()
	for c := range 256 {
		h := sha2.Sum512(slices.Concat([]byte{3, 1}, public[:], alpha, []byte{byte(c), 0}))
		if p, e := point.Clear([32]byte(h[:32])); e == api.OK && p != point.Zero() {
			return p
		}
	}
	t.Fatal("no point of the input")
	return [32]byte{}
}

func TestOneLabelWhateverTheProof(t *testing.T) {
	r := rand.New(rand.NewSource(6))
	for range 20 {
		seed, a := [32]byte(drawn(r, 32)), drawnAsk(r)
		public, l, proof := made(t, seed, a)
		input, _ := plainInput(a)
		for k := range byte(4) {
			other := anotherProof(t, seed, [32]byte{k + 1}, input)
			if other == proof {
				t.Fatal("the same proof")
			}
			expectCheck(t, "another proof", public, a, other, l, api.OK)
		}
	}
}

func TestCheckAtAnyBytes(t *testing.T) {
	r := rand.New(rand.NewSource(7))
	for range 300 {
		public, proof, a := [32]byte(drawn(r, 32)), [80]byte(drawn(r, 80)), drawnAsk(r)
		proof[79] &= byte(r.Intn(32))
		if r.Intn(2) == 0 {
			public = eddsa.Public(public)
		}
		if r.Intn(5) == 0 {
			a.account = string(drawn(r, r.Intn(5)))
		}
		want, e := plainCheck(public, a, proof)
		expectCheck(t, "any bytes", public, a, proof, want, e)
	}
}

func FuzzCheck(f *testing.F) {
	f.Add([]byte{1}, "a", uint64(1), false, []byte{})
	f.Add([]byte{}, "A", uint64(0), true, []byte{1})
	f.Fuzz(func(t *testing.T, key []byte, account string, version uint64, stale bool, last []byte) {
		var public [32]byte
		var proof [80]byte
		copy(public[:], key)
		copy(proof[:], last)
		a := asked{account, version, stale}
		want, e := plainCheck(public, a, proof)
		expectCheck(t, "fuzz", public, a, proof, want, e)
		want, made, e := plainMake(public, a)
		expectMake(t, public, a, want, made, e)
		if l, f := label.Check(eddsa.Public(public), account, version, stale, made); l != want || f != e {
			t.Errorf("%x, %v", l, f)
		}
	})
}
