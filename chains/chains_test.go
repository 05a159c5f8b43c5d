package chains_test

import (
	"slices"
	"testing"

	"quorate/api"
	"quorate/chains"
	"quorate/hash"
)

// digest is a digest by a small number, unlike for unlike ones.
func digest(n int) api.Digest {
	return hash.Of(200, []byte{byte(n >> 8), byte(n)})
}

// filled is a digest of one byte.
func filled(c byte) api.Digest {
	var d api.Digest
	for i := range d {
		d[i] = c
	}
	return d
}

// digests is digests of all kinds: of one byte each, with one other byte, and mixed.
func digests() []api.Digest {
	list := []api.Digest{filled(0), filled(255), filled(0x1B), filled(0xE4), filled(0x40), filled(0x01)}
	for i := range api.DigestSize {
		d := filled(0)
		d[i] = 0x6C
		list = append(list, d)
	}
	for n := range 20 {
		list = append(list, digest(n))
	}
	return list
}

// digits is what the document says of a digest's digits.
func digits(d api.Digest) []int {
	var list []int
	sum := 0
	for i := range 64 {
		digit := int(d[i/4]) / []int{64, 16, 4, 1}[i%4] % 4
		list = append(list, digit)
		sum += 3 - digit
	}
	return append(list, sum/64, sum/16%4, sum/4%4, sum%4)
}

// secret, step and public are the document's words, by Of.
func secret(seed api.Digest, leaf, i int) api.Digest {
	return hash.Of(1, seed[:], []byte{byte(leaf)}, []byte{byte(i)})
}

func step(x api.Digest, leaf, i, k int) api.Digest {
	return hash.Of(2, x[:], []byte{byte(leaf)}, []byte{byte(i)}, []byte{byte(k)})
}

func public(seed api.Digest, leaf int) api.Digest {
	var ends []byte
	for i := range 68 {
		x := secret(seed, leaf, i)
		for k := range 3 {
			x = step(x, leaf, i, k)
		}
		ends = append(ends, x[:]...)
	}
	return hash.Of(3, []byte{byte(leaf)}, ends)
}

var wrongLeaves = []int{-1, 32, 33, 255, 256, 257, -255, 1 << 40, -1 << 63, 1<<63 - 1}

// P3.1: Digits.
func TestDigits(t *testing.T) {
	for _, d := range digests() {
		if got := chains.Digits(d); !slices.Equal(got, digits(d)) {
			t.Errorf("Digits of %x answers %v, want %v", d, got, digits(d))
		}
	}
	want := append(make([]int, 64), 3, 0, 0, 0)
	if got := chains.Digits(api.Digest{}); !slices.Equal(got, want) {
		t.Errorf("Digits of 0s answers %v", got)
	}
	want = append(slices.Repeat([]int{3}, 64), 0, 0, 0, 0)
	if got := chains.Digits(filled(255)); !slices.Equal(got, want) {
		t.Errorf("Digits of 255s answers %v", got)
	}
	if got := chains.Digits(filled(0x1B))[:8]; !slices.Equal(got, []int{0, 1, 2, 3, 0, 1, 2, 3}) {
		t.Errorf("Digits of 1Bs begins with %v", got)
	}
	a := chains.Digits(digest(1))
	clear(a)
	if !slices.Equal(chains.Digits(digest(1)), digits(digest(1))) {
		t.Error("a change of an answer shows in the next one")
	}
}

// P3.1: Secret, of any numbers.
func TestSecret(t *testing.T) {
	for _, seed := range []api.Digest{{}, digest(1), filled(255)} {
		for _, leaf := range []int{0, 1, 31, 32, 255, 256, -1, 1 << 40} {
			for _, i := range []int{0, 1, 67, 68, 255, 257, -2, -1 << 63} {
				if got := chains.Secret(seed, leaf, i); got != secret(seed, leaf, i) {
					t.Errorf("Secret(%x, %d, %d) answers %x", seed, leaf, i, got)
				}
			}
		}
	}
}

// P3.1: Run between all places, and of any numbers.
func TestRun(t *testing.T) {
	x := digest(7)
	for _, from := range []int{-1 << 63, -2, -1, 0, 1, 2, 3, 4, 1<<63 - 1} {
		for _, to := range []int{-1 << 63, -1, 0, 1, 2, 3, 4, 100, 1<<63 - 1} {
			for _, leaf := range []int{0, 5, 31, -1, 300} {
				for _, i := range []int{0, 1, 67, 256, -3} {
					want := x
					for k := range 3 {
						if k >= from && k < to {
							want = step(want, leaf, i, k)
						}
					}
					if got := chains.Run(x, leaf, i, from, to); got != want {
						t.Errorf("Run(x, %d, %d, %d, %d) answers %x, want %x", leaf, i, from, to, got, want)
					}
				}
			}
		}
	}
}

// P3.1: Public of all leaves, and of none.
func TestPublic(t *testing.T) {
	for _, seed := range []api.Digest{{}, digest(1)} {
		for leaf := range api.Leaves {
			if got, err := chains.Public(seed, leaf); err != nil || got != public(seed, leaf) {
				t.Errorf("Public(%x, %d) answers %x, %v", seed, leaf, got, err)
			}
		}
		for _, leaf := range wrongLeaves {
			if got, err := chains.Public(seed, leaf); err != api.ErrRange || got != (api.Digest{}) {
				t.Errorf("Public(%x, %d) answers %x, %v", seed, leaf, got, err)
			}
		}
	}
}

// P3.1: Sign: each chain's secret behind as many steps as its digit.
func TestSign(t *testing.T) {
	seed := digest(3)
	for n, d := range digests() {
		leaf := n % api.Leaves
		got, err := chains.Sign(seed, leaf, d)
		if err != nil || len(got) != api.Chains {
			t.Fatalf("Sign by leaf %d answers %d chains, %v", leaf, len(got), err)
		}
		for i, digit := range digits(d) {
			want := secret(seed, leaf, i)
			for k := range digit {
				want = step(want, leaf, i, k)
			}
			if got[i] != want {
				t.Errorf("Sign of %x by leaf %d: chain %d is %x, want %x", d, leaf, i, got[i], want)
			}
		}
	}
	for _, leaf := range wrongLeaves {
		if got, err := chains.Sign(seed, leaf, digest(1)); err != api.ErrRange || got != nil {
			t.Errorf("Sign by leaf %d answers %v, %v", leaf, got, err)
		}
	}
}

// P3.1: Recover of any chains: what the steps from the digits on come to.
func TestRecoverOfAnyChains(t *testing.T) {
	for n, d := range digests() {
		leaf := (5 * n) % api.Leaves
		list := make([]api.Digest, api.Chains)
		for i := range list {
			list[i] = digest(100*n + i)
		}
		kept := slices.Clone(list)
		var ends []byte
		for i, digit := range digits(d) {
			x := list[i]
			for k := digit; k < 3; k++ {
				x = step(x, leaf, i, k)
			}
			ends = append(ends, x[:]...)
		}
		want := hash.Of(3, []byte{byte(leaf)}, ends)
		if got, err := chains.Recover(leaf, list, d); err != nil || got != want {
			t.Errorf("Recover(%d, .., %x) answers %x, %v, want %x", leaf, d, got, err, want)
		}
		if !slices.Equal(list, kept) {
			t.Fatal("Recover changes the chains")
		}
	}
}

// P3.1: Recover's errors, the leaf's ahead of the chains'.
func TestRecoverOfWrongThings(t *testing.T) {
	d := digest(1)
	list, _ := chains.Sign(digest(2), 4, d)
	for _, n := range []int{0, 1, 64, 67} {
		if got, err := chains.Recover(4, list[:n], d); err != api.ErrForm || got != (api.Digest{}) {
			t.Errorf("Recover of %d chains answers %x, %v", n, got, err)
		}
	}
	for _, more := range []int{1, 68, 1000} {
		if got, err := chains.Recover(4, append(slices.Clone(list), make([]api.Digest, more)...), d); err != api.ErrForm || got != (api.Digest{}) {
			t.Errorf("Recover of %d chains too many answers %x, %v", more, got, err)
		}
	}
	if got, err := chains.Recover(4, nil, d); err != api.ErrForm || got != (api.Digest{}) {
		t.Errorf("Recover of no chains answers %x, %v", got, err)
	}
	for _, leaf := range wrongLeaves {
		for _, c := range [][]api.Digest{list, list[:67], nil} {
			if got, err := chains.Recover(leaf, c, d); err != api.ErrRange || got != (api.Digest{}) {
				t.Errorf("Recover by leaf %d of %d chains answers %x, %v", leaf, len(c), got, err)
			}
		}
	}
}

// P3.2: what is signed is recovered, by each leaf and of all digests; by another one, or of another digest, it isn't.
func TestSignedIsRecovered(t *testing.T) {
	seed := digest(9)
	for n, d := range digests() {
		for _, leaf := range []int{n % api.Leaves, 31 - n%api.Leaves} {
			list, err := chains.Sign(seed, leaf, d)
			if err != nil {
				t.Fatal(err)
			}
			want, _ := chains.Public(seed, leaf)
			if got, err := chains.Recover(leaf, list, d); err != nil || got != want {
				t.Errorf("%x signed by leaf %d is recovered to %x, %v, want %x", d, leaf, got, err, want)
			}
			if got, _ := chains.Recover((leaf+1)%api.Leaves, list, d); got == want {
				t.Errorf("%x signed by leaf %d is recovered by another leaf", d, leaf)
			}
			other := d
			other[n%api.DigestSize] ^= 1 << (n % 8)
			if got, _ := chains.Recover(leaf, list, other); got == want {
				t.Errorf("%x signed by leaf %d is recovered of another digest", d, leaf)
			}
			list[n%api.Chains][3] ^= 1
			if got, _ := chains.Recover(leaf, list, d); got == want {
				t.Errorf("%x signed by leaf %d is recovered by a chain that was changed", d, leaf)
			}
		}
	}
}

// P3.2: no digest's digits are all at least another one's, so that nobody goes on with the chains of one to sign the other.
func TestDigitsAreNeverAllAhead(t *testing.T) {
	all := digests()
	for _, a := range all {
		for _, b := range all {
			if a == b {
				continue
			}
			x, y := chains.Digits(a), chains.Digits(b)
			behind := false
			for i := range x {
				behind = behind || x[i] < y[i]
			}
			if !behind {
				t.Errorf("the digits of %x are all at least those of %x", a, b)
			}
		}
	}
}
