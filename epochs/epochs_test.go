package epochs_test

import (
	"fmt"
	"slices"
	"testing"

	"quorate/api"
	"quorate/craft"
	"quorate/epochs"
	"quorate/keys"
	"quorate/powers"
	"quorate/proofs"
)

func must(t *testing.T, err error) {
	t.Helper()
	if err != nil {
		t.Fatalf("the error is %v", err)
	}
}

// wrong is validators that aren't right.
func wrong() [][]api.Validator {
	twins := craft.Validators(craft.Keys(2))
	twins[1].Key = twins[0].Key
	return [][]api.Validator{nil, {}, {{}}, twins, make([]api.Validator, 8), {{Power: api.MaxPower + 1}}}
}

// is asks a ground's parts.
func is(t *testing.T, name string, g proofs.Ground, epoch int, v []api.Validator, genesis api.Digest) {
	t.Helper()
	if g.Epoch != epoch || !powers.Same(g.Validators, v) || g.Genesis != genesis {
		t.Errorf("%s answers %v", name, g)
	}
}

// zero asks that a ground is the zero one.
func zero(g proofs.Ground) bool {
	return g.Epoch == 0 && g.Validators == nil && g.Genesis == api.Digest{}
}

// P20.1: Genesis.
func TestGenesis(t *testing.T) {
	for _, epoch := range []int{0, 1, 7, api.MaxEpoch, -1, 1<<63 - 1} {
		for _, d := range []api.Digest{{}, craft.Digest(3)} {
			if got := epochs.Genesis(epoch, d); fmt.Sprint(got) != fmt.Sprint(api.Block{Epoch: epoch, Parent: d}) {
				t.Errorf("Genesis(%d, %x) answers %v", epoch, d, got)
			}
		}
	}
}

// P20.1: First.
func TestFirst(t *testing.T) {
	for n := 1; n <= 7; n++ {
		v := craft.Validators(craft.Keys(n), 5, 4, 3)
		g, err := epochs.First(v)
		must(t, err)
		want := slices.Clone(v)
		is(t, "First", g, 1, want, craft.ID(api.Block{Epoch: 1}))
		v[0].Power = 99
		is(t, "First, behind a change of the list,", g, 1, want, craft.ID(api.Block{Epoch: 1}))
	}
	for _, v := range wrong() {
		if g, err := epochs.First(v); err != api.ErrSet || !zero(g) {
			t.Errorf("First of %v answers %v, %v", v, g, err)
		}
	}
}

// P20.1: Next.
func TestNext(t *testing.T) {
	next := craft.Validators(craft.Keys(3), 1, 2)
	id := craft.Digest(6)
	for _, epoch := range []int{0, 1, 2, 1000, api.MaxEpoch - 1} {
		for _, of := range [][]api.Validator{nil, craft.Validators(craft.Keys(2))} {
			g, err := epochs.Next(proofs.Ground{Epoch: epoch, Validators: of, Genesis: craft.Digest(1)}, id, next)
			must(t, err)
			is(t, "Next", g, epoch+1, next, craft.ID(api.Block{Epoch: epoch + 1, Parent: id}))
			g.Validators[0].Power = 77
		}
	}
	if next[0].Power != 1 {
		t.Error("a change of the answer shows")
	}
	for _, epoch := range []int{-1, api.MaxEpoch, api.MaxEpoch + 1, -1 << 63, 1<<63 - 1} {
		if g, err := epochs.Next(proofs.Ground{Epoch: epoch}, id, next); err != api.ErrEpoch || !zero(g) {
			t.Errorf("Next of epoch %d answers %v, %v", epoch, g, err)
		}
		for _, v := range wrong() {
			if g, err := epochs.Next(proofs.Ground{Epoch: epoch}, id, v); err != api.ErrSet || !zero(g) {
				t.Errorf("Next of epoch %d and %v answers %v, %v", epoch, v, g, err)
			}
		}
	}
}

// change is a Change of a ground by these keys, its first block of a round, behind a QC; everyone votes.
func change(ks []*keys.Key, first api.QC, round int, next []api.Validator, who ...int) api.Change {
	var c api.Change
	q := first
	for i := range c.Blocks {
		b := craft.Child(q, round+i)
		if i == 0 {
			b.Next = next
		}
		c.Blocks[i] = b
		q = craft.Certify(ks, b, who...)
	}
	c.QC = q
	return c
}

// begin is the first ground of keys, and the QC of its genesis.
func begin(t *testing.T, ks []*keys.Key) (proofs.Ground, api.QC) {
	t.Helper()
	g, err := epochs.First(craft.Validators(ks))
	must(t, err)
	return g, api.QC{Epoch: g.Epoch, Block: g.Genesis}
}

// again makes a Change's ids, certificates and votes fit each other, behind a change of its blocks.
func again(ks []*keys.Key, c *api.Change) {
	for i := range 2 {
		q := craft.Certify(ks, c.Blocks[i], 0, 1, 2)
		c.Blocks[i+1].Parent, c.Blocks[i+1].Justify = q.Block, q
	}
	c.QC = craft.Certify(ks, c.Blocks[2], 0, 1, 2)
}

// P20.1: Check: each thing that may be wrong, and of each two of unlike kinds the first one in the order of the words.
func TestCheck(t *testing.T) {
	ks := craft.Keys(4)
	g, q := begin(t, ks)
	next := craft.Validators(ks[1:])
	type fault struct {
		name string
		err  error
		make func(c *api.Change) // the others are made to fit behind this
		bend func(c *api.Change) // and this comes last
	}
	faults := []fault{
		{"epoch of a", api.ErrEpoch, func(c *api.Change) { c.Blocks[0].Epoch = 2 }, nil},
		{"epoch of b", api.ErrEpoch, func(c *api.Change) { c.Blocks[1].Epoch = 0 }, nil},
		{"epoch of c", api.ErrEpoch, func(c *api.Change) { c.Blocks[2].Epoch = -1 }, nil},
		{"a without id", api.ErrParent, nil, func(c *api.Change) { c.Blocks[0].Justify.Round = -1 }},
		{"b without id", api.ErrParent, nil, func(c *api.Change) { c.Blocks[1].Payload = make([][]byte, 5) }},
		{"c without id", api.ErrParent, nil, func(c *api.Change) { c.Blocks[2].Payload = make([][]byte, 5) }},
		{"parent of b", api.ErrParent, nil, func(c *api.Change) { c.Blocks[1].Parent[0] ^= 1 }},
		{"parent of c", api.ErrParent, nil, func(c *api.Change) { c.Blocks[2].Parent = c.Blocks[1].Parent }},
		{"rounds 0 1 2", api.ErrRound, func(c *api.Change) { rounds(c, 0, 1, 2) }, nil},
		{"rounds 5 7 8", api.ErrRound, func(c *api.Change) { rounds(c, 5, 7, 8) }, nil},
		{"rounds 5 6 8", api.ErrRound, func(c *api.Change) { rounds(c, 5, 6, 8) }, nil},
		{"rounds 5 6 6", api.ErrRound, func(c *api.Change) { rounds(c, 5, 6, 6) }, nil},
		{"rounds 6 5 4", api.ErrRound, func(c *api.Change) { rounds(c, 6, 5, 4) }, nil},
		{"rounds up to one above", api.ErrRound, func(c *api.Change) { rounds(c, api.MaxRound-1, api.MaxRound, api.MaxRound+1) }, nil},
		{"QC of another round", api.ErrProof, nil, func(c *api.Change) { c.QC.Round++ }},
		{"QC of another epoch", api.ErrProof, nil, func(c *api.Change) { c.QC.Epoch++ }},
		{"QC of another block", api.ErrProof, nil, func(c *api.Change) { c.QC = c.Blocks[2].Justify }},
		{"QC of two", api.ErrProof, nil, func(c *api.Change) { c.QC.Votes = c.QC.Votes[:2] }},
		{"QC of a wrong vote", api.ErrProof, nil, func(c *api.Change) { c.QC.Votes[1].Sig.Leaf ^= 1 }},
		{"no QC", api.ErrProof, nil, func(c *api.Change) { c.QC = api.QC{} }},
		{"no Next", api.ErrSet, func(c *api.Change) { c.Blocks[0].Next = nil }, nil},
		{"a wrong Next", api.ErrSet, func(c *api.Change) { c.Blocks[0].Next = []api.Validator{{}} }, nil},
	}
	try := func(name string, want error, list ...fault) {
		t.Helper()
		c := change(ks, q, 5, slices.Clone(next), 0, 1, 2)
		for _, f := range list {
			if f.make != nil {
				f.make(&c)
			}
		}
		again(ks, &c)
		for _, f := range list {
			if f.bend != nil {
				f.bend(&c)
			}
		}
		before := fmt.Sprint(c)
		if err := epochs.Check(g, c); err != want {
			t.Errorf("%s: Check answers %v, want %v", name, err, want)
		}
		if fmt.Sprint(c) != before {
			t.Fatalf("%s: Check changes the Change", name)
		}
	}
	try("right", nil)
	for i, f := range faults {
		try(f.name, f.err, f)
		for _, h := range faults[i+1:] {
			if h.err != f.err && !(h.name == "a wrong Next" && f.name == "a without id") {
				try(f.name+" and "+h.name, f.err, f, h)
			}
		}
	}
	for _, v := range wrong() {
		bad := g
		bad.Validators = v
		if err := epochs.Check(bad, api.Change{}); err != api.ErrSet {
			t.Errorf("of the validators %v Check answers %v", v, err)
		}
	}
}

// rounds sets a Change's rounds.
func rounds(c *api.Change, list ...int) {
	for i, r := range list {
		c.Blocks[i].Round = r
	}
}

// P20.1: the certificates within the blocks: they have to fit, and to be right.
func TestCertificatesWithin(t *testing.T) {
	ks := craft.Keys(4)
	g, q := begin(t, ks)
	next := craft.Validators(ks[1:])
	for i := 1; i <= 2; i++ {
		for name, bend := range map[string]func(q *api.QC){
			"another round":   func(q *api.QC) { q.Round++ },
			"another epoch":   func(q *api.QC) { q.Epoch++ },
			"another block":   func(q *api.QC) { q.Block[4] ^= 1 },
			"two votes":       func(q *api.QC) { q.Votes = q.Votes[:2] },
			"a wrong vote":    func(q *api.QC) { q.Votes[0].Sig.Chains[3][3] ^= 1 },
			"the same voters": func(q *api.QC) { q.Votes[1] = q.Votes[0] },
		} {
			c := change(ks, q, 5, next, 0, 1, 2)
			bend(&c.Blocks[i].Justify)
			for j := i + 1; j < 3; j++ {
				p := craft.Certify(ks, c.Blocks[j-1], 0, 1, 2)
				c.Blocks[j].Parent, c.Blocks[j].Justify = p.Block, p
			}
			c.QC = craft.Certify(ks, c.Blocks[2], 0, 1, 2)
			if err := epochs.Check(g, c); err != api.ErrProof {
				t.Errorf("block %d with a QC of %s: Check answers %v", i, name, err)
			}
		}
	}
	c := change(ks, q, 5, next, 0, 1, 2)
	c.Blocks[0].Justify = api.QC{Epoch: 9, Round: 9}
	c.Blocks[0].Parent = craft.Digest(8)
	again(ks, &c)
	if err := epochs.Check(g, c); err != nil {
		t.Errorf("whatever the first block is behind: Check answers %v", err)
	}
	for _, round := range []int{1, api.MaxRound - 2} {
		if err := epochs.Check(g, change(ks, q, round, next, 1, 2, 3)); err != nil {
			t.Errorf("from round %d on Check answers %v", round, err)
		}
	}
	c = change(ks, q, 5, next, 0, 1, 2)
	c.Blocks[1].Parent = craft.Digest(8)
	p := craft.Certify(ks, c.Blocks[1], 0, 1, 2)
	c.Blocks[2].Parent, c.Blocks[2].Justify = p.Block, p
	c.QC = craft.Certify(ks, c.Blocks[2], 0, 1, 2)
	if err := epochs.Check(g, c); err != api.ErrParent {
		t.Errorf("with a second block behind another one Check answers %v", err)
	}
	late := change(ks, q, 5, nil, 0, 1, 2)
	late.Blocks[1].Next = next
	again(ks, &late)
	if err := epochs.Check(g, late); err != api.ErrSet {
		t.Errorf("with Next in the second block Check answers %v", err)
	}
}

// P20.1: an epoch whose blocks have no bytes.
func TestEpochsWithoutBytes(t *testing.T) {
	ks := craft.Keys(4)
	for _, epoch := range []int{-1, 1 << 32} {
		g := proofs.Ground{Epoch: epoch, Validators: craft.Validators(ks)}
		c := change(ks, api.QC{Epoch: epoch}, 1, craft.Validators(ks), 0, 1, 2)
		if err := epochs.Check(g, c); err != api.ErrParent {
			t.Errorf("of epoch %d Check answers %v", epoch, err)
		}
	}
}

// grow is grounds, each behind the one ahead of it, and the Changes between them.
func grow(t *testing.T, n int) ([]proofs.Ground, []api.Change) {
	t.Helper()
	ks := craft.Keys(5)
	at := ks[:4]
	g, _ := begin(t, at)
	grounds := []proofs.Ground{g}
	var list []api.Change
	for i := range n {
		next := ks[i%2 : i%2+4]
		c := change(at, api.QC{Epoch: g.Epoch, Block: g.Genesis}, 1+i, craft.Validators(next, i%3+1), 0, 1, 2, 3)
		id := craft.ID(c.Blocks[0])
		g = proofs.Ground{Epoch: g.Epoch + 1, Validators: c.Blocks[0].Next, Genesis: craft.ID(api.Block{Epoch: g.Epoch + 1, Parent: id})}
		grounds, list, at = append(grounds, g), append(list, c), next
	}
	return grounds, list
}

// P20.1: Walk.
func TestWalk(t *testing.T) {
	grounds, list := grow(t, 9)
	for from := range 4 {
		for n := range 9 - from {
			g, walked, err := epochs.Walk(grounds[from], list[from:from+n]...)
			want := grounds[from+n]
			if err != nil || walked != n {
				t.Fatalf("Walk over %d from %d answers %d, %v", n, from, walked, err)
			}
			is(t, fmt.Sprintf("Walk over %d from %d", n, from), g, want.Epoch, want.Validators, want.Genesis)
		}
	}
	if g, n, err := epochs.Walk(grounds[0], list...); err != api.ErrFull || n != 0 || fmt.Sprint(g) != fmt.Sprint(grounds[0]) {
		t.Errorf("Walk over 9 answers %v, %d, %v", g, n, err)
	}
	bad := slices.Clone(list)
	bad[0], bad[3] = api.Change{}, api.Change{}
	if g, n, err := epochs.Walk(grounds[0], bad...); err != api.ErrFull || n != 0 || fmt.Sprint(g) != fmt.Sprint(grounds[0]) {
		t.Errorf("Walk over 9, wrong ones among them, answers %v, %d, %v", g, n, err)
	}
	g, n, err := epochs.Walk(grounds[1], bad[1:8]...)
	if err != api.ErrEpoch || n != 2 {
		t.Errorf("Walk up to a wrong one answers %d, %v", n, err)
	}
	is(t, "Walk up to a wrong one", g, grounds[3].Epoch, grounds[3].Validators, grounds[3].Genesis)
	if _, n, err := epochs.Walk(grounds[0], list[0], list[0]); err != api.ErrEpoch || n != 1 {
		t.Errorf("Walk over one twice answers %d, %v", n, err)
	}
}

// P20.1: Walk over none, and from grounds that aren't right; Next's error.
func TestWalkOfWrongGrounds(t *testing.T) {
	for _, g := range []proofs.Ground{{}, {Epoch: -4, Genesis: craft.Digest(1)}} {
		got, n, err := epochs.Walk(g)
		if err != nil || n != 0 || fmt.Sprint(got) != fmt.Sprint(g) {
			t.Errorf("Walk over none answers %v, %d, %v", got, n, err)
		}
		got, n, err = epochs.Walk(g, api.Change{})
		if err != api.ErrSet || n != 0 || fmt.Sprint(got) != fmt.Sprint(g) {
			t.Errorf("Walk from a wrong ground answers %v, %d, %v", got, n, err)
		}
	}
	ks := craft.Keys(4)
	for _, epoch := range []int{api.MaxEpoch, api.MaxEpoch + 1} {
		g := proofs.Ground{Epoch: epoch, Validators: craft.Validators(ks)}
		c := change(ks, api.QC{Epoch: epoch}, 1, craft.Validators(ks), 0, 1, 2)
		got, n, err := epochs.Walk(g, c)
		if err != api.ErrEpoch || n != 0 || fmt.Sprint(got) != fmt.Sprint(g) {
			t.Errorf("Walk from epoch %d answers %v, %d, %v", epoch, got, n, err)
		}
	}
	g := proofs.Ground{Epoch: api.MaxEpoch - 1, Validators: craft.Validators(ks)}
	c := change(ks, api.QC{Epoch: g.Epoch}, 1, craft.Validators(ks), 0, 1, 2)
	got, n, err := epochs.Walk(g, c)
	if err != nil || n != 1 || got.Epoch != api.MaxEpoch {
		t.Errorf("Walk to the last epoch answers %v, %d, %v", got, n, err)
	}
}

// P20.1 and the rules: the ground that is answered is the caller's own.
func TestCopies(t *testing.T) {
	grounds, list := grow(t, 1)
	before := fmt.Sprint(grounds[0], list)
	g, _, err := epochs.Walk(grounds[0])
	must(t, err)
	clear(g.Validators)
	g, _, err = epochs.Walk(grounds[0], list...)
	must(t, err)
	clear(g.Validators)
	g, _, _ = epochs.Walk(grounds[0], api.Change{})
	clear(g.Validators)
	if fmt.Sprint(grounds[0], list) != before {
		t.Error("a change of an answer shows")
	}
}
