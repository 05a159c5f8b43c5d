package keys_test

import (
	"slices"
	"testing"

	"quorate/api"
	"quorate/chains"
	"quorate/hash"
	"quorate/keys"
	"quorate/trees"
)

// digest is a digest by a small number, unlike for unlike ones.
func digest(n int) api.Digest {
	return hash.Of(200, []byte{byte(n >> 8), byte(n)})
}

// publics is the public digests of a seed's leaves.
func publics(t *testing.T, seed api.Digest) []api.Digest {
	t.Helper()
	var list []api.Digest
	for leaf := range 32 {
		p, err := chains.Public(seed, leaf)
		if err != nil {
			t.Fatal(err)
		}
		list = append(list, p)
	}
	return list
}

func sign(t *testing.T, k *keys.Key, leaf int, d api.Digest) api.Sig {
	t.Helper()
	s, err := k.Sign(leaf, d)
	if err != nil {
		t.Fatalf("Sign by leaf %d answers %v", leaf, err)
	}
	return s
}

// clone is a signature that shares nothing with one.
func clone(s api.Sig) api.Sig {
	return api.Sig{Leaf: s.Leaf, Chains: slices.Clone(s.Chains), Path: slices.Clone(s.Path)}
}

// P5.1: Root of several seeds.
func TestRoot(t *testing.T) {
	var seen []api.Digest
	for _, seed := range []api.Digest{{}, digest(1), digest(2), {255, 255, 255}} {
		want, err := trees.Root(publics(t, seed))
		if err != nil {
			t.Fatal(err)
		}
		k := keys.New(seed)
		if k.Root() != want || k.Root() != want || keys.New(seed).Root() != want {
			t.Errorf("the root of %x is %x, want %x", seed, k.Root(), want)
		}
		if slices.Contains(seen, want) {
			t.Errorf("two seeds have the root %x", want)
		}
		seen = append(seen, want)
	}
}

// P5.1 and P5.2: signatures by every leaf hold what layers 3 and 4 say, and are right.
func TestSign(t *testing.T) {
	seed := digest(5)
	k := keys.New(seed)
	list := publics(t, seed)
	for leaf := range api.Leaves {
		d := digest(100 + leaf)
		s := sign(t, k, leaf, d)
		row, _ := chains.Sign(seed, leaf, d)
		path, _ := trees.Path(list, leaf)
		if s.Leaf != leaf || !slices.Equal(s.Chains, row) || !slices.Equal(s.Path, path) {
			t.Errorf("Sign by leaf %d answers another signature: %v", leaf, s)
		}
		if !keys.Verify(k.Root(), d, s) {
			t.Errorf("a signature by leaf %d isn't right", leaf)
		}
	}
}

// P5.1: Sign by leaves that there aren't.
func TestSignByNoLeaf(t *testing.T) {
	k := keys.New(digest(5))
	for _, c := range []struct {
		leaf int
		want error
	}{
		{-1, api.ErrRange}, {-32, api.ErrRange}, {-1 << 63, api.ErrRange},
		{32, api.ErrSpent}, {33, api.ErrSpent}, {256, api.ErrSpent}, {1 << 40, api.ErrSpent}, {1<<63 - 1, api.ErrSpent},
	} {
		if s, err := k.Sign(c.leaf, digest(1)); err != c.want || s.Leaf != 0 || s.Chains != nil || s.Path != nil {
			t.Errorf("Sign by leaf %d answers %v, %v, want %v", c.leaf, s, err, c.want)
		}
	}
}

// P5.1: one key signs the same as often as it is asked, whatever becomes of what it answered.
func TestAnswersAreTheCallersOwn(t *testing.T) {
	k := keys.New(digest(6))
	root := k.Root()
	a := sign(t, k, 3, digest(1))
	kept := clone(a)
	clear(a.Chains)
	clear(a.Path)
	if b := sign(t, k, 3, digest(1)); !keys.Same(b, kept) || !keys.Verify(root, digest(1), b) {
		t.Error("a change of a signature shows in the next one")
	}
	if s := sign(t, k, 2, digest(1)); !keys.Verify(root, digest(1), s) || k.Root() != root {
		t.Error("a change of a signature shows in another leaf's")
	}
	keys.Verify(root, digest(1), kept)
	if !keys.Same(kept, sign(t, k, 3, digest(1))) {
		t.Error("Verify changes the signature")
	}
}

// P5.2: two digests by one leaf are both right: a key doesn't know which leaves were used.
func TestOneLeafTwice(t *testing.T) {
	k := keys.New(digest(7))
	for _, d := range []api.Digest{{}, digest(1), {255, 255}} {
		if !keys.Verify(k.Root(), d, sign(t, k, 9, d)) {
			t.Errorf("%x signed by leaf 9 isn't right", d)
		}
	}
}

// P5.1: Verify of another root, digest, leaf, chain, or way up.
func TestVerifyOfWrongThings(t *testing.T) {
	k, d := keys.New(digest(8)), digest(50)
	root := k.Root()
	for _, leaf := range []int{0, 1, 17, 31} {
		s := sign(t, k, leaf, d)
		for i := range api.DigestSize {
			other := root
			other[i] ^= 4
			if keys.Verify(other, d, s) {
				t.Errorf("leaf %d: right for another root", leaf)
			}
			other = d
			other[i] ^= 32
			if keys.Verify(root, other, s) {
				t.Errorf("leaf %d: right for another digest", leaf)
			}
		}
		for i := range s.Chains {
			c := clone(s)
			c.Chains[i][i%api.DigestSize] ^= 1
			if keys.Verify(root, d, c) {
				t.Errorf("leaf %d: right with chain %d changed", leaf, i)
			}
		}
		for i := range s.Path {
			c := clone(s)
			c.Path[i][i] ^= 1
			if keys.Verify(root, d, c) {
				t.Errorf("leaf %d: right with height %d changed", leaf, i)
			}
		}
		for _, n := range []int{-1, 32, leaf + 32, leaf + 256, leaf - 256, leaf ^ 1, leaf ^ 16, 1<<63 - 1, -1 << 63} {
			c := clone(s)
			c.Leaf = n
			if keys.Verify(root, d, c) {
				t.Errorf("leaf %d: right as of leaf %d", leaf, n)
			}
		}
	}
}

// P5.1: Verify of signatures with too few or too many digests.
func TestVerifyOfOtherLengths(t *testing.T) {
	k, d := keys.New(digest(8)), digest(50)
	s := sign(t, k, 4, d)
	for _, c := range []api.Sig{
		{}, {Leaf: 4}, {Leaf: 4, Chains: s.Chains}, {Leaf: 4, Path: s.Path},
		{Leaf: 4, Chains: s.Chains[:67], Path: s.Path}, {Leaf: 4, Chains: s.Chains, Path: s.Path[:4]},
		{Leaf: 4, Chains: append(slices.Clone(s.Chains), api.Digest{}), Path: s.Path},
		{Leaf: 4, Chains: s.Chains, Path: append(slices.Clone(s.Path), api.Digest{})},
		{Leaf: 4, Chains: make([]api.Digest, 1000), Path: make([]api.Digest, 1000)},
	} {
		if keys.Verify(k.Root(), d, c) || keys.Verify(api.Digest{}, d, c) {
			t.Errorf("a signature of %d chains and %d digests is right", len(c.Chains), len(c.Path))
		}
	}
	if !keys.Verify(k.Root(), d, s) {
		t.Error("the signature itself isn't right")
	}
}

// P5.1: right is what recovers and climbs, whoever made it: a leaf's public digest at the end of its own way.
func TestVerifyOfAnyWay(t *testing.T) {
	var s api.Sig
	s.Leaf = 21
	for i := range 68 {
		s.Chains = append(s.Chains, digest(i))
	}
	for i := range 5 {
		s.Path = append(s.Path, digest(500+i))
	}
	public, _ := chains.Recover(21, s.Chains, digest(1))
	root, _ := trees.Climb(public, 21, s.Path)
	if !keys.Verify(root, digest(1), s) || keys.Verify(root, digest(2), s) {
		t.Error("Verify answers otherwise than Recover and Climb")
	}
}

// P5.1: Same of signatures that differ in one place.
func TestSame(t *testing.T) {
	k := keys.New(digest(9))
	s := sign(t, k, 11, digest(1))
	if !keys.Same(s, s) || !keys.Same(s, clone(s)) || !keys.Same(api.Sig{}, api.Sig{}) {
		t.Error("Same of the same is no")
	}
	if !keys.Same(api.Sig{}, api.Sig{Chains: []api.Digest{}, Path: []api.Digest{}}) {
		t.Error("Same of nil and empty lists is no")
	}
	var others []api.Sig
	for i := range s.Chains {
		c := clone(s)
		c.Chains[i][15] ^= 1
		others = append(others, c)
	}
	for i := range s.Path {
		c := clone(s)
		c.Path[i][0] ^= 128
		others = append(others, c)
	}
	others = append(others, api.Sig{}, api.Sig{Leaf: 12, Chains: s.Chains, Path: s.Path},
		api.Sig{Leaf: 11, Chains: s.Chains[:67], Path: s.Path}, api.Sig{Leaf: 11, Chains: s.Chains, Path: s.Path[:4]},
		api.Sig{Leaf: 11, Chains: s.Chains}, api.Sig{Leaf: 11, Path: s.Path})
	for i, c := range others {
		if keys.Same(s, c) || keys.Same(c, s) {
			t.Errorf("Same of other %d is yes", i)
		}
		if !keys.Same(c, clone(c)) {
			t.Errorf("Same of other %d and itself is no", i)
		}
	}
}

// P5.1: Left.
func TestLeft(t *testing.T) {
	for leaf := range 33 {
		if got := keys.Left(leaf); got != 32-leaf {
			t.Errorf("Left(%d) answers %d", leaf, got)
		}
	}
	for _, leaf := range []int{-1, -2, -1000, -1 << 63} {
		if got := keys.Left(leaf); got != 32 {
			t.Errorf("Left(%d) answers %d", leaf, got)
		}
	}
	for _, leaf := range []int{33, 64, 1 << 40, 1<<63 - 1} {
		if got := keys.Left(leaf); got != 0 {
			t.Errorf("Left(%d) answers %d", leaf, got)
		}
	}
}
