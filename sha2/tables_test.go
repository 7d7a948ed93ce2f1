package sha2

import (
	"math/big"
	"testing"
)

func firstPrimes(n int) []int64 {
	var out []int64
	for k := int64(2); len(out) < n; k++ {
		if big.NewInt(k).ProbablyPrime(0) {
			out = append(out, k)
		}
	}
	return out
}

// fractionOfRoot is the first bits of the fraction of p's square root (power 2) or cube root (power 3).
func fractionOfRoot(p int64, power, bits uint) uint64 {
	want := new(big.Int).Lsh(big.NewInt(p), power*bits)
	root := new(big.Int)
	for i := int(bits) + 8; i >= 0; i-- {
		root.SetBit(root, i, 1)
		if new(big.Int).Exp(root, big.NewInt(int64(power)), nil).Cmp(want) > 0 {
			root.SetBit(root, i, 0)
		}
	}
	all := new(big.Int).Lsh(big.NewInt(1), bits)
	return root.Mod(root, all).Uint64()
}

func TestConstantsAreFractionsOfRoots(t *testing.T) {
	for i, p := range firstPrimes(80) {
		if i < len(squares256) && uint64(squares256[i]) != fractionOfRoot(p, 2, 32) {
			t.Errorf("squares256[%d] = %08x", i, squares256[i])
		}
		if i < len(cubes256) && uint64(cubes256[i]) != fractionOfRoot(p, 3, 32) {
			t.Errorf("cubes256[%d] = %08x", i, cubes256[i])
		}
		if i < len(squares512) && squares512[i] != fractionOfRoot(p, 2, 64) {
			t.Errorf("squares512[%d] = %016x", i, squares512[i])
		}
		if cubes512[i] != fractionOfRoot(p, 3, 64) {
			t.Errorf("cubes512[%d] = %016x", i, cubes512[i])
		}
	}
}
