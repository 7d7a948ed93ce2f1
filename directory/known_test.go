package directory_test

import (
	"encoding/hex"
	"testing"

	"beacon/api"
	"beacon/directory"
	"beacon/wire"
)

// What the chapters' words came to in another language, with none of this program:
// the hashes of steps, lookups and certificates as bytes.

func expectHash(t *testing.T, what string, b []byte, want string) {
	t.Helper()
	if got := hash(b); hex.EncodeToString(got[:]) != want {
		t.Errorf("%s: %x; want %s", what, got, want)
	}
}

func joined(devices [][32]byte) (b []byte) {
	for _, d := range devices {
		b = append(b, d[:]...)
	}
	return b
}

func joinedNodes(nodes []api.Node) (b []byte) {
	for _, n := range nodes {
		b = append(b, nodeBytes(n)...)
	}
	return b
}

func historyBytes(h api.History) []byte {
	parts := [][]byte{wire.EncodeRoot(h.Root), []byte(h.Account)}
	for i, list := range h.Versions {
		parts = append(parts, joined(list), h.Fresh[i].Proof[:], joinedNodes(h.Fresh[i].Nodes))
	}
	return written(append(parts, h.Next.Proof[:], joinedNodes(h.Next.Nodes))...)
}

func certBytes(c api.Cert) []byte {
	var b []byte
	b = append(b, number(c.Keys.Gen)...)
	b = append(b, c.Keys.Sign[:]...)
	b = append(b, c.Keys.Vrf[:]...)
	b = append(b, number(c.Epoch)...)
	return append(b, c.Sig[:]...)
}

func expectKnownSteps(t *testing.T, d *directory.Dir, want ...string) {
	t.Helper()
	for epoch, w := range want {
		s, _ := d.Step(uint64(epoch))
		b, e := wire.EncodeStep(s)
		if e != api.OK {
			t.Error(epoch, e)
		}
		expectHash(t, "step "+string(rune('0'+epoch)), b, w)
	}
	if d.Root().Epoch != uint64(len(want))-1 {
		t.Error(d.Root())
	}
}

func expectKnownAccounts(t *testing.T, d *directory.Dir, want [][3]string) {
	t.Helper()
	for _, w := range want {
		l, e := d.Lookup(w[0])
		b, f := wire.EncodeLookup(l)
		h, g := d.History(w[0])
		if e != api.OK || f != api.OK || g != api.OK {
			t.Error(w[0], e, f, g)
		}
		expectHash(t, "lookup "+w[0], b, w[1])
		expectHash(t, "history "+w[0], historyBytes(h), w[2])
	}
}

func first(b ...byte) (list [][32]byte) {
	for _, d := range b {
		list = append(list, [32]byte{d})
	}
	return list
}

func rotated(t *testing.T, d *directory.Dir, secret [32]byte) {
	t.Helper()
	if _, e := d.Rotate(secret); e != api.OK {
		t.Fatal(e)
	}
	if _, done, e := d.Move(1000); !done || e != api.OK {
		t.Fatal(done, e)
	}
}

func TestKnownStory(t *testing.T) {
	d := directory.New([32]byte{1})
	d.Publish([]api.Update{{Account: "a", Devices: first(1)}, {Account: "b", Devices: first(2, 3)}})
	d.Publish([]api.Update{{Account: "a", Devices: first(4)}, {Account: "c.x_y-9"}})
	d.Publish([]api.Update{{Account: "a"}, {Account: "b", Devices: first(2)}, {Account: "z", Devices: first(0, 1, 2, 3, 4, 5, 6, 7)}})
	expectKnownAccounts(t, d, [][3]string{
		{"a", "27993e7a2744038b20120d159f69756895f5128e5d96ea6476c38a9bec63b471", "df0a92e0b438ab45fdc26ef1e06c9c785ee02687f01f567e8c963331d28673d0"},
		{"b", "04b7d2144117fb4071071217320a976353ce9075f68f6f548232d8a9e2e6a2fe", "c82c089c0d5c1b28b6888bcef5c27dd110c887346a72bc4eecf6f65df57f74ea"},
		{"c.x_y-9", "75f1247df3446939a95e04d22d6927854e9f7159dfb75417210b3d6e60781afd", "317465cd2d6b9880a76900cfc1112e81827d197a26d51a950bf096fa811f26a8"},
		{"z", "d99977016db594f200b957a7005d637288424bcb0b05243fa0334da52932dc58", "88dbf1089c2151e75bd22a0685ad00ab49547907f365dd543a0ffbd106f5d027"},
		{"nobody", "95051561033c7f7afe77cc8661ca93d7530af893d5882ae60dc57a67fe09cacd", "fadcd0282f6a62485a7451a9b31339f94b4d7d5d978d2839794be47ec4f1ce2c"},
	})
	rotated(t, d, [32]byte{2})
	d.Publish([]api.Update{{Account: "a", Devices: first(9)}})
	rotated(t, d, [32]byte{3})
	rotated(t, d, [32]byte{3})
	expectKnownAccounts(t, d, [][3]string{
		{"a", "e659d65abbc784096044619628a5d6eedf97b8e891157afe207e8a5a618bfe9b", "fd1d8f2e2309c47d0fe56f22bc68b9d600c58b0ebc114e712f17057ddac4013e"},
		{"b", "7bfd9c2ceb78d0660c2e5ae6ffa613c83c507f6579720d82819e6a847deb7e3f", "54a7b6c638722b8f5051bcf8613f990f95ec5009aa71a864785578cd70aef8c1"},
		{"c.x_y-9", "3f393aa07c37f5fa3ac34b442e9ac2e61404a3c770fb9e31f5126ffd0453da9b", "fe77ff520807b6152f0476bf0597dde8c129040320d11a1ce3c39775ca54d81c"},
		{"z", "fe25ef2d081b3b4bd0c4da0006d27dead6990be1324d19e2e0dd3c121026302d", "bc9ee1ec40b3465d441cae9d4dab9c24346ae921db85a89f9f2d42b8577c80c9"},
		{"nobody", "32dd49023e43f8982bee6de0f9bf04652a963eb45cd0ff6b6491d1241bca226c", "734ec09f3c38200c9e2e99137aaa664d618c73ba4d386d8e7ab634a9d16aed0d"},
	})
	expectKnownSteps(t, d,
		"abaad932a0d11fcc2b41cfea322f62a153a20b8a33590e8cfbec4b26bb44fbdb",
		"91305dd42e6b90f29759cec856f34f6fa307e4977d0c8b987f83ec462e177240",
		"c55ec80c03c975a060930e8970e269d3dc52779a710b25c194eac242c1acd07c",
		"dfa26412f6be9172925ac2dcb2ba75ee1790d670ab4902c6000f972ffb5720c0",
		"6bd66d686a94e5532f52479d8d529c2a5d05f0c1b40494c11e68d3160d2ebf8e",
		"49cc7222a9c7b712a56f20f7fbd1db1337440cb6b736cca44d9c64ef7de68b7e",
		"044e0677a6f9c1b6fb64e3b98b2acf89ac847fdf47690817da9eb2e07daa229e",
		"db4ec3f7f44ef66f258b8440f444ae220608811c0178719d07df65c30a881a37",
	)
	want := []string{
		"f06d04f5d3d2f527ff3f095005aa7a4df60ef116d9a65d65e8646257251c9698",
		"69e42308e5f830bb283e208082129f445f21ba5ea8d18662cdbe5cfb1e412405",
		"b03bbb21dd9453fc35b3fdb74b5936258a9b938bde976a3cd830c84e95b32a4d",
	}
	certs := d.Certs()
	if len(certs) != len(want) {
		t.Fatal(certs)
	}
	for i, c := range certs {
		expectHash(t, "certificate", certBytes(c), want[i])
	}
}

// A move ahead of any update has no labels to make.
func TestKnownStoryOfNoLeaves(t *testing.T) {
	var ones [32]byte
	for i := range ones {
		ones[i] = 255
	}
	d := directory.New(ones)
	rotated(t, d, [32]byte{})
	d.Publish([]api.Update{{Account: "only"}})
	expectKnownSteps(t, d,
		"5f02a71ed671e574500b696e420085419fecb8a08d19d091dbdee2d68c336bde",
		"4cb5d3dec197b04c27d2b971797cf2a7ace793090662a6e880b3c5633f06d84c",
		"9e51fd618f6e6f983f05b7bdcb95b0968bf456304a2683d5d80a0be95a0d9ac9",
	)
}
