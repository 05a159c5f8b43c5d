package trees_test

import (
	"slices"
	"testing"

	"quorate/api"
	"quorate/hash"
	"quorate/trees"
)

// digest is a digest by a small number, unlike for unlike ones.
func digest(n int) api.Digest {
	return hash.Of(200, []byte{byte(n >> 8), byte(n)})
}

// leaves is n digests, from a number on.
func leaves(from, n int) []api.Digest {
	list := make([]api.Digest, n)
	for i := range list {
		list[i] = digest(from + i)
	}
	return list
}

// join is the document's word, by Of.
func join(a, b api.Digest) api.Digest {
	return hash.Of(4, a[:], b[:])
}

// over is the root over as many leaves as a power of two.
func over(list []api.Digest) api.Digest {
	if len(list) == 1 {
		return list[0]
	}
	return join(over(list[:len(list)/2]), over(list[len(list)/2:]))
}

// way is the way up of leaf i, from the leaves on.
func way(list []api.Digest, i int) []api.Digest {
	if len(list) == 1 {
		return nil
	}
	half := len(list) / 2
	if i < half {
		return append(way(list[:half], i), over(list[half:]))
	}
	return append(way(list[half:], i-half), over(list[:half]))
}

var (
	wrongNumbers = []int{-1, -32, 32, 33, 64, 1 << 40, -1 << 63, 1<<63 - 1}
	wrongLengths = []int{0, 1, 2, 16, 31, 33, 64, 100}
)

// P4.1: Join, and that its two aren't told apart by nothing.
func TestJoin(t *testing.T) {
	all := append(leaves(0, 5), api.Digest{})
	for _, a := range all {
		for _, b := range all {
			if got := trees.Join(a, b); got != join(a, b) {
				t.Errorf("Join(%x, %x) answers %x", a, b, got)
			}
			if a != b && trees.Join(a, b) == trees.Join(b, a) {
				t.Errorf("Join of %x and %x is the same both ways", a, b)
			}
		}
	}
}

// P4.1: Root of any leaves, the same ones among them.
func TestRoot(t *testing.T) {
	for _, list := range [][]api.Digest{leaves(0, 32), leaves(77, 32), make([]api.Digest, 32), slices.Repeat(leaves(3, 1), 32)} {
		kept := slices.Clone(list)
		if got, err := trees.Root(list); err != nil || got != over(list) {
			t.Errorf("Root answers %x, %v, want %x", got, err, over(list))
		}
		if !slices.Equal(list, kept) {
			t.Fatal("Root changes the leaves")
		}
	}
	list := leaves(0, 32)
	root, _ := trees.Root(list)
	for i := range list {
		other := slices.Clone(list)
		other[i][i%api.DigestSize] ^= 1
		if got, err := trees.Root(other); err != nil || got == root {
			t.Errorf("with leaf %d changed Root answers %x, %v", i, got, err)
		}
	}
}

// P4.1: Root and Path of a wrong number of leaves, which comes ahead of a wrong number of a leaf.
func TestWrongNumberOfLeaves(t *testing.T) {
	for _, n := range wrongLengths {
		if got, err := trees.Root(leaves(0, n)); err != api.ErrForm || got != (api.Digest{}) {
			t.Errorf("Root of %d leaves answers %x, %v", n, got, err)
		}
		for _, i := range append([]int{0, 1, 31}, wrongNumbers...) {
			if got, err := trees.Path(leaves(0, n), i); err != api.ErrForm || got != nil {
				t.Errorf("Path of %d leaves and %d answers %x, %v", n, i, got, err)
			}
		}
	}
	if got, err := trees.Root(nil); err != api.ErrForm || got != (api.Digest{}) {
		t.Errorf("Root of none answers %x, %v", got, err)
	}
}

// P4.1: Path of all leaves.
func TestPath(t *testing.T) {
	list := leaves(0, 32)
	kept := slices.Clone(list)
	for i := range list {
		got, err := trees.Path(list, i)
		if err != nil || !slices.Equal(got, way(list, i)) {
			t.Errorf("Path of leaf %d answers %x, %v, want %x", i, got, err, way(list, i))
		}
		clear(got)
		if !slices.Equal(list, kept) {
			t.Fatalf("Path of leaf %d, or a change of its answer, changes the leaves", i)
		}
	}
	for _, i := range wrongNumbers {
		if got, err := trees.Path(list, i); err != api.ErrRange || got != nil {
			t.Errorf("Path of leaf %d answers %x, %v", i, got, err)
		}
	}
}

// P4.1: Climb by any way.
func TestClimb(t *testing.T) {
	for i := range api.Leaves {
		leaf, path := digest(i), leaves(50+i, 5)
		kept := slices.Clone(path)
		want := leaf
		for height, at := 0, i; height < 5; height, at = height+1, at/2 {
			if at%2 == 0 {
				want = join(want, path[height])
			} else {
				want = join(path[height], want)
			}
		}
		if got, err := trees.Climb(leaf, i, path); err != nil || got != want {
			t.Errorf("Climb from %d answers %x, %v, want %x", i, got, err, want)
		}
		if !slices.Equal(path, kept) {
			t.Fatal("Climb changes the way")
		}
	}
}

// P4.1: Climb's errors, the number's ahead of the way's.
func TestClimbOfWrongThings(t *testing.T) {
	for _, n := range []int{0, 1, 4, 6, 10, 100} {
		for _, i := range []int{0, 1, 31} {
			if got, err := trees.Climb(digest(1), i, leaves(0, n)); err != api.ErrForm || got != (api.Digest{}) {
				t.Errorf("Climb from %d by %d digests answers %x, %v", i, n, got, err)
			}
		}
	}
	for _, i := range wrongNumbers {
		for _, n := range []int{0, 4, 5, 6} {
			if got, err := trees.Climb(digest(1), i, leaves(0, n)); err != api.ErrRange || got != (api.Digest{}) {
				t.Errorf("Climb from %d by %d digests answers %x, %v", i, n, got, err)
			}
		}
	}
}

// P4.2: each leaf climbs to the root by its way up; another leaf, a leaf elsewhere, and a way that was changed don't.
func TestLeavesClimbToTheRoot(t *testing.T) {
	list := leaves(300, 32)
	root, err := trees.Root(list)
	if err != nil {
		t.Fatal(err)
	}
	for i, leaf := range list {
		path, err := trees.Path(list, i)
		if err != nil {
			t.Fatal(err)
		}
		if got, err := trees.Climb(leaf, i, path); err != nil || got != root {
			t.Errorf("leaf %d climbs to %x, %v, want %x", i, got, err, root)
		}
		if got, _ := trees.Climb(digest(999), i, path); got == root {
			t.Errorf("another leaf climbs to the root from %d", i)
		}
		for j := range list {
			if got, _ := trees.Climb(leaf, j, path); j != i && got == root {
				t.Errorf("leaf %d climbs to the root from %d", i, j)
			}
		}
		for height := range path {
			other := slices.Clone(path)
			other[height][15] ^= 128
			if got, _ := trees.Climb(leaf, i, other); got == root {
				t.Errorf("leaf %d climbs to the root by a way that was changed at height %d", i, height)
			}
		}
	}
}
