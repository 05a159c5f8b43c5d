package proofs_test

import (
	"fmt"
	"slices"
	"testing"

	"quorate/api"
	"quorate/craft"
	"quorate/keys"
	"quorate/proofs"
)

const epoch = 7

var genesis = craft.Digest(1)

// bench is a ground of four validators of power 1, and their keys.
func bench() (proofs.Ground, []*keys.Key) {
	ks := craft.Keys(4)
	return proofs.Ground{Epoch: epoch, Validators: craft.Validators(ks), Genesis: genesis}, ks
}

// badSets is validators that aren't right.
func badSets(g proofs.Ground) [][]api.Validator {
	twins := slices.Clone(g.Validators)
	twins[3].Key = twins[0].Key
	weak := slices.Clone(g.Validators)
	weak[2].Power = 0
	return [][]api.Validator{nil, {}, twins, weak, make([]api.Validator, 8)}
}

// grounds asks that of each bad ground a call answers ErrSet.
func grounds(t *testing.T, name string, call func(g proofs.Ground) error) {
	t.Helper()
	g, _ := bench()
	for i, v := range badSets(g) {
		g.Validators = v
		if err := call(g); err != api.ErrSet {
			t.Errorf("%s: of bad ground %d the answer is %v", name, i, err)
		}
	}
}

// fault is one thing wrong with a message, and the error that it has. seal faults come behind the signing.
type fault[T any] struct {
	name string
	err  error
	make func(x *T)
	seal func(x *T)
}

// instead changes a number, if it is the right one still.
func instead(n *int, right, other int) {
	if *n == right {
		*n = other
	}
}

// asks asks a right message, each fault, and of each two faults the first one (they are told in the order of the document's words).
func asks[T any](t *testing.T, name string, right func() T, sign func(x *T), faults []fault[T], call func(x T) error) {
	t.Helper()
	one := func(label string, want error, list ...fault[T]) {
		x := right()
		for _, f := range list {
			if f.make != nil {
				f.make(&x)
			}
		}
		sign(&x)
		for _, f := range list {
			if f.seal != nil {
				f.seal(&x)
			}
		}
		before := fmt.Sprint(x)
		if err := call(x); err != want {
			t.Errorf("%s: %s: the answer is %v, want %v", name, label, err, want)
		}
		if fmt.Sprint(x) != before {
			t.Fatalf("%s: %s: the message is changed", name, label)
		}
	}
	one("right", nil)
	for i, f := range faults {
		one(f.name, f.err, f)
		for _, h := range faults[i+1:] {
			if h.err != f.err {
				one(f.name+" and "+h.name, f.err, f, h)
			}
		}
	}
}

// P11.1: QCs of round 0.
func TestFirstQC(t *testing.T) {
	g, ks := bench()
	asks(t, "QC of round 0", func() api.QC { return api.QC{Epoch: epoch, Block: genesis} }, func(*api.QC) {}, []fault[api.QC]{
		{"epoch less", api.ErrEpoch, func(q *api.QC) { q.Epoch = epoch - 1 }, nil},
		{"epoch more", api.ErrEpoch, func(q *api.QC) { q.Epoch = epoch + 1 }, nil},
		{"another block", api.ErrProof, func(q *api.QC) { q.Block[15] ^= 1 }, nil},
		{"a right vote", api.ErrProof, func(q *api.QC) { q.Votes = craft.QC(ks, epoch, 0, genesis, 0).Votes }, nil},
		{"a quorum", api.ErrProof, func(q *api.QC) { q.Votes = craft.QC(ks, epoch, 0, genesis, 0, 1, 2).Votes }, nil},
	}, g.QC)
	if err := g.QC(api.QC{Epoch: epoch, Block: genesis, Votes: []api.Signed{}}); err != nil {
		t.Errorf("with an empty list of votes QC answers %v", err)
	}
	grounds(t, "QC of round 0", func(g proofs.Ground) error { return g.QC(api.QC{Epoch: 99}) })
}

// P11.1: QCs of other rounds.
func TestQC(t *testing.T) {
	g, ks := bench()
	block := craft.Digest(5)
	right := func() api.QC { return api.QC{Epoch: epoch, Round: 6, Block: block} }
	who := []int{0, 1, 3}
	sign := func(q *api.QC) { q.Votes = craft.QC(ks, q.Epoch, q.Round, q.Block, who...).Votes }
	asks(t, "QC", right, sign, []fault[api.QC]{
		{"epoch less", api.ErrEpoch, func(q *api.QC) { q.Epoch-- }, nil},
		{"epoch far", api.ErrEpoch, func(q *api.QC) { q.Epoch = 1<<63 - 1 }, nil},
		{"epoch of other votes", api.ErrEpoch, nil, func(q *api.QC) { q.Epoch = 0 }},
		{"round -1", api.ErrRound, func(q *api.QC) { q.Round = -1 }, nil},
		{"round above", api.ErrRound, func(q *api.QC) { q.Round = api.MaxRound + 1 }, nil},
		{"round far", api.ErrRound, nil, func(q *api.QC) { q.Round = -1 << 63 }},
		{"another round", api.ErrProof, nil, func(q *api.QC) { instead(&q.Round, 6, 7) }},
		{"another block", api.ErrProof, nil, func(q *api.QC) { q.Block[0] ^= 1 }},
		{"two votes", api.ErrProof, nil, func(q *api.QC) { q.Votes = q.Votes[:2] }},
		{"no votes", api.ErrProof, nil, func(q *api.QC) { q.Votes = nil }},
		{"a vote twice", api.ErrProof, nil, func(q *api.QC) { q.Votes[1] = q.Votes[0] }},
		{"a vote more, twice", api.ErrProof, nil, func(q *api.QC) { q.Votes = append(q.Votes, q.Votes[2]) }},
		{"falling", api.ErrProof, nil, func(q *api.QC) { slices.Reverse(q.Votes) }},
		{"two turned", api.ErrProof, nil, func(q *api.QC) { q.Votes[0], q.Votes[1] = q.Votes[1], q.Votes[0] }},
		{"who is -1", api.ErrProof, nil, func(q *api.QC) { q.Votes[0].Who = -1 }},
		{"who is 4", api.ErrProof, nil, func(q *api.QC) { q.Votes[2].Who = 4 }},
		{"who is far", api.ErrProof, nil, func(q *api.QC) { q.Votes[2].Who = 1<<63 - 1 }},
		{"another's name", api.ErrProof, nil, func(q *api.QC) { q.Votes[2].Who = 2 }},
		{"a wrong vote", api.ErrProof, nil, func(q *api.QC) { q.Votes[1].Sig.Chains[7][2] ^= 1 }},
		{"a vote without signature", api.ErrProof, nil, func(q *api.QC) { q.Votes[2].Sig = api.Sig{} }},
		{"three votes and a wrong one", api.ErrProof, nil, func(q *api.QC) {
			q.Votes = slices.Insert(q.Votes, 2, api.Signed{Who: 2, Sig: q.Votes[0].Sig})
		}},
		{"as of round 0", api.ErrProof, nil, func(q *api.QC) { instead(&q.Round, 6, 0) }},
	}, g.QC)
	grounds(t, "QC", func(g proofs.Ground) error { return g.QC(craft.QC(ks, epoch+1, -1, block, 0, 1, 2)) })
	for _, round := range []int{1, 2, api.MaxRound} {
		if err := g.QC(craft.QC(ks, epoch, round, block, 1, 2, 3)); err != nil {
			t.Errorf("of round %d QC answers %v", round, err)
		}
	}
	if err := g.QC(craft.QC(ks, epoch, 3, block, 0, 1, 2, 3)); err != nil {
		t.Errorf("of all four QC answers %v", err)
	}
	if err := g.QC(craft.QC(ks, epoch, 3, genesis, 0, 1, 2)); err != nil {
		t.Errorf("of a round, for the genesis, QC answers %v", err)
	}
}

// P11.1: a quorum is one of power, of whichever validators.
func TestQuorumOfPower(t *testing.T) {
	_, ks := bench()
	g := proofs.Ground{Epoch: 1, Validators: craft.Validators(ks, 5, 1, 1, 2), Genesis: genesis}
	for bits := range 16 {
		var who []int
		power := 0
		for i := range 4 {
			if bits>>i&1 == 1 {
				who = append(who, i)
				power += g.Validators[i].Power
			}
		}
		var want error = api.ErrProof
		if 3*power > 18 {
			want = nil
		}
		if err := g.QC(craft.QC(ks, 1, 4, craft.Digest(2), who...)); err != want {
			t.Errorf("of %v QC answers %v", who, err)
		}
		if err := g.TC(craft.TC(ks, 1, 4, 2, who...)); err != want {
			t.Errorf("of %v TC answers %v", who, err)
		}
	}
}

// P11.1: TCs.
func TestTC(t *testing.T) {
	g, ks := bench()
	type tc = api.TC
	highs := []int{3, 0, 5}
	right := func() tc { return tc{Epoch: epoch, Round: 6} }
	sign := func(x *tc) {
		x.Lates = nil
		for i, who := range []int{0, 2, 3} {
			x.Lates = append(x.Lates, craft.Late(ks, x.Epoch, x.Round, highs[i], who))
		}
	}
	again := func(i, high int) func(x *tc) {
		return func(x *tc) { x.Lates[i] = craft.Late(ks, x.Epoch, x.Round, high, x.Lates[i].Who) }
	}
	asks(t, "TC", right, sign, []fault[tc]{
		{"epoch less", api.ErrEpoch, func(x *tc) { x.Epoch-- }, nil},
		{"epoch more", api.ErrEpoch, nil, func(x *tc) { x.Epoch++ }},
		{"round 0", api.ErrRound, func(x *tc) { x.Round = 0 }, nil},
		{"round -1", api.ErrRound, func(x *tc) { x.Round = -1 }, nil},
		{"round above", api.ErrRound, func(x *tc) { x.Round = api.MaxRound + 1 }, nil},
		{"another round", api.ErrProof, nil, func(x *tc) { instead(&x.Round, 6, 7) }},
		{"high -1", api.ErrProof, nil, again(1, -1)},
		{"high of the round", api.ErrProof, nil, again(1, 6)},
		{"high above", api.ErrProof, nil, again(2, 1<<63-1)},
		{"another high", api.ErrProof, nil, func(x *tc) { x.Lates[0].High = 4 }},
		{"two words", api.ErrProof, nil, func(x *tc) { x.Lates = x.Lates[1:] }},
		{"no words", api.ErrProof, nil, func(x *tc) { x.Lates = nil }},
		{"a word twice", api.ErrProof, nil, func(x *tc) { x.Lates[1] = x.Lates[0] }},
		{"a word more, twice", api.ErrProof, nil, func(x *tc) { x.Lates = append(x.Lates, x.Lates[2]) }},
		{"falling", api.ErrProof, nil, func(x *tc) { slices.Reverse(x.Lates) }},
		{"who is -1", api.ErrProof, nil, func(x *tc) { x.Lates[0].Who = -1 }},
		{"who is 4", api.ErrProof, nil, func(x *tc) { x.Lates[2].Who = 4 }},
		{"another's name", api.ErrProof, nil, func(x *tc) { x.Lates[0].Who = 1 }},
		{"a wrong word", api.ErrProof, nil, func(x *tc) { x.Lates[2].Sig.Path[4][0] ^= 8 }},
		{"three words and one of a high above", api.ErrProof, nil, func(x *tc) {
			x.Lates = slices.Insert(x.Lates, 1, craft.Late(ks, epoch, 6, 6, 1))
		}},
	}, g.TC)
	grounds(t, "TC", func(g proofs.Ground) error { return g.TC(craft.TC(ks, epoch+1, 0, 0, 0, 1, 2)) })
	for _, c := range [][2]int{{1, 0}, {2, 1}, {api.MaxRound, api.MaxRound - 1}} {
		if err := g.TC(craft.TC(ks, epoch, c[0], c[1], 0, 1, 2)); err != nil {
			t.Errorf("of round %d and high %d TC answers %v", c[0], c[1], err)
		}
	}
}

// P11.1: votes.
func TestVote(t *testing.T) {
	g, ks := bench()
	type vote = api.Vote
	right := func() vote { return vote{Epoch: epoch, Round: 3, Block: craft.Digest(9), From: api.Signed{Who: 2}} }
	sign := func(v *vote) { v.From = craft.Vote(ks, v.Epoch, v.Round, v.Block, v.From.Who).From }
	asks(t, "Vote", right, sign, []fault[vote]{
		{"epoch less", api.ErrEpoch, func(v *vote) { v.Epoch-- }, nil},
		{"epoch more", api.ErrEpoch, nil, func(v *vote) { v.Epoch = 1 << 40 }},
		{"round 0", api.ErrRound, func(v *vote) { v.Round = 0 }, nil},
		{"round -1", api.ErrRound, func(v *vote) { v.Round = -1 }, nil},
		{"round above", api.ErrRound, func(v *vote) { v.Round = api.MaxRound + 1 }, nil},
		{"who is -1", api.ErrProof, nil, func(v *vote) { v.From.Who = -1 }},
		{"who is 4", api.ErrProof, nil, func(v *vote) { v.From.Who = 4 }},
		{"who is far", api.ErrProof, nil, func(v *vote) { v.From.Who = -1 << 63 }},
		{"another's name", api.ErrProof, nil, func(v *vote) { v.From.Who = 0 }},
		{"another round", api.ErrProof, nil, func(v *vote) { instead(&v.Round, 3, 4) }},
		{"another block", api.ErrProof, nil, func(v *vote) { v.Block[3] ^= 1 }},
		{"a wrong signature", api.ErrProof, nil, func(v *vote) { v.From.Sig.Leaf ^= 1 }},
		{"no signature", api.ErrProof, nil, func(v *vote) { v.From.Sig = api.Sig{} }},
	}, g.Vote)
	grounds(t, "Vote", func(g proofs.Ground) error { return g.Vote(vote{Epoch: 99}) })
	for who := range 4 {
		for _, round := range []int{1, api.MaxRound} {
			if err := g.Vote(craft.Vote(ks, epoch, round, craft.Digest(1), who)); err != nil {
				t.Errorf("of round %d and place %d Vote answers %v", round, who, err)
			}
		}
	}
}

// ways is QCs and TCs with which one comes into round 6, or doesn't.
type way struct {
	name string
	err  error
	q    api.QC
	last api.TC
}

func ways(ks []*keys.Key) []way {
	block := craft.Digest(5)
	qc := func(round int) api.QC { return craft.QC(ks, epoch, round, block, 0, 1, 2) }
	tc := func(round, high int) api.TC { return craft.TC(ks, epoch, round, high, 1, 2, 3) }
	zero := api.QC{Epoch: epoch, Block: genesis}
	wrong := tc(5, 2)
	wrong.Lates[1].Sig.Chains[0][0] ^= 1
	return []way{
		{"by a QC", nil, qc(5), api.TC{}},
		{"by a QC, with an empty list", nil, qc(5), api.TC{Lates: []api.Late{}}},
		{"by a QC, and a TC", api.ErrProof, qc(5), tc(5, 2)},
		{"by a QC, and the epoch of no TC", api.ErrProof, qc(5), api.TC{Epoch: epoch}},
		{"by a QC, and the round of no TC", api.ErrProof, qc(5), api.TC{Round: 5}},
		{"by a QC, and a late word", api.ErrProof, qc(5), api.TC{Lates: make([]api.Late, 1)}},
		{"by a QC of the round", api.ErrProof, qc(6), api.TC{}},
		{"by a QC of the round, and a TC", api.ErrProof, qc(6), tc(5, 2)},
		{"by a QC of a round above, and a TC", api.ErrProof, qc(9), tc(5, 2)},
		{"by a TC", nil, qc(4), tc(5, 4)},
		{"by a TC, far from the QC", nil, qc(1), tc(5, 1)},
		{"by a TC, and the first QC", nil, zero, tc(5, 0)},
		{"by a TC that tells of a higher QC", nil, qc(1), tc(5, 4)},
		{"by a TC of a round less", api.ErrProof, qc(3), tc(4, 3)},
		{"by a TC of the round", api.ErrProof, qc(3), tc(6, 3)},
		{"by no TC", api.ErrEpoch, qc(4), api.TC{}},
		{"by a TC of another epoch", api.ErrEpoch, qc(4), craft.TC(ks, epoch+1, 5, 4, 0, 1, 2)},
		{"by a TC of round 0", api.ErrRound, qc(4), tc(0, 0)},
		{"by a TC of a round above all", api.ErrRound, qc(4), tc(api.MaxRound+1, 0)},
		{"by a TC that isn't right", api.ErrProof, qc(2), wrong},
		{"by a TC of two", api.ErrProof, qc(2), craft.TC(ks, epoch, 5, 2, 0, 1)},
		{"by a TC without words", api.ErrProof, qc(2), api.TC{Epoch: epoch, Round: 5}},
	}
}

// P11.1: timeouts.
func TestTimeout(t *testing.T) {
	g, ks := bench()
	type timeout = api.Timeout
	block := craft.Digest(5)
	right := func() timeout {
		return timeout{Epoch: epoch, Round: 6, High: craft.QC(ks, epoch, 4, block, 0, 1, 2), Last: craft.TC(ks, epoch, 5, 4, 1, 2, 3), From: api.Signed{Who: 3}}
	}
	sign := func(x *timeout) { x.From = craft.Timeout(ks, x.Epoch, x.Round, x.High, x.Last, x.From.Who).From }
	asks(t, "Timeout", right, sign, []fault[timeout]{
		{"epoch less", api.ErrEpoch, func(x *timeout) { x.Epoch-- }, nil},
		{"round 0", api.ErrRound, func(x *timeout) { x.Round = 0 }, nil},
		{"round above", api.ErrRound, func(x *timeout) { x.Round = api.MaxRound + 1 }, nil},
		{"a QC that isn't right", api.ErrProof, func(x *timeout) { x.High.Votes[0].Who = 3 }, nil},
		{"no TC", api.ErrEpoch, func(x *timeout) { x.Last = api.TC{} }, nil},
		{"who is 4", api.ErrProof, nil, func(x *timeout) { x.From.Who = 4 }},
		{"who is -1", api.ErrProof, nil, func(x *timeout) { x.From.Who = -1 }},
		{"another's name", api.ErrProof, nil, func(x *timeout) { x.From.Who = 1 }},
		{"a wrong signature", api.ErrProof, nil, func(x *timeout) { x.From.Sig.Chains[1][1] ^= 1 }},
	}, g.Timeout)
	for _, c := range []struct {
		name string
		q    api.QC
		want error
	}{
		{"of another epoch", craft.QC(ks, epoch+1, 4, block, 0, 1, 2), api.ErrEpoch},
		{"of round -1", craft.QC(ks, epoch, -1, block, 0, 1, 2), api.ErrRound},
		{"of round 0, not the genesis'", api.QC{Epoch: epoch, Block: block}, api.ErrProof},
		{"of two", craft.QC(ks, epoch, 4, block, 0, 1), api.ErrProof},
	} {
		x := right()
		x.High = c.q
		x.Last = api.TC{}
		sign(&x)
		if err := g.Timeout(x); err != c.want {
			t.Errorf("with a QC %s Timeout answers %v, want %v", c.name, err, c.want)
		}
	}
	for _, w := range ways(ks) {
		x := right()
		x.High, x.Last = w.q, w.last
		sign(&x)
		if err := g.Timeout(x); err != w.err {
			t.Errorf("%s: Timeout answers %v, want %v", w.name, err, w.err)
		}
		x.From.Sig.Leaf ^= 2
		want := w.err
		if want == nil {
			want = api.ErrProof
		}
		if err := g.Timeout(x); err != want {
			t.Errorf("%s, with a wrong signature: Timeout answers %v, want %v", w.name, err, want)
		}
	}
	x := right()
	sign(&x)
	x.From = craft.Timeout(ks, epoch, 6, craft.QC(ks, epoch, 3, block, 0, 1, 2), x.Last, 3).From
	if err := g.Timeout(x); err != api.ErrProof {
		t.Errorf("with the signature of another high Timeout answers %v", err)
	}
	grounds(t, "Timeout", func(g proofs.Ground) error { return g.Timeout(timeout{Epoch: 99}) })
	first := craft.Timeout(ks, epoch, 1, api.QC{Epoch: epoch, Block: genesis}, api.TC{}, 0)
	if err := g.Timeout(first); err != nil {
		t.Errorf("of round 1 Timeout answers %v", err)
	}
}

// P11.1: proposals.
func TestProposal(t *testing.T) {
	g, ks := bench()
	type proposal = api.Proposal
	const leader = 2
	parent := craft.QC(ks, epoch, 4, craft.Digest(5), 0, 1, 2)
	right := func() proposal {
		b := craft.Child(craft.QC(ks, epoch, 4, craft.Digest(5), 0, 1, 2), 6, []byte("a"), []byte("b"))
		b.Next = craft.Validators(ks, 1, 2, 3)
		return proposal{Block: b, Last: craft.TC(ks, epoch, 5, 4, 1, 2, 3), From: api.Signed{Who: leader}}
	}
	sign := func(p *proposal) { p.From = craft.Proposal(ks, p.Block, p.Last, p.From.Who).From }
	call := func(p proposal) error { return g.Proposal(p, leader) }
	asks(t, "Proposal", right, sign, []fault[proposal]{
		{"epoch less", api.ErrEpoch, func(p *proposal) { p.Block.Epoch-- }, nil},
		{"epoch far", api.ErrEpoch, func(p *proposal) { p.Block.Epoch = -1 << 63 }, nil},
		{"round 0", api.ErrRound, func(p *proposal) { p.Block.Round = 0 }, nil},
		{"round above", api.ErrRound, func(p *proposal) { p.Block.Round = api.MaxRound + 1 }, nil},
		{"not the leader", api.ErrLeader, func(p *proposal) { p.From.Who = 1 }, nil},
		{"nobody", api.ErrLeader, func(p *proposal) { p.From.Who = -1 }, nil},
		{"a QC that isn't right", api.ErrProof, func(p *proposal) { p.Block.Justify.Votes[1].Sig.Leaf ^= 1 }, nil},
		{"another parent", api.ErrProof, func(p *proposal) { p.Block.Parent[9] ^= 1 }, nil},
		{"no TC", api.ErrEpoch, func(p *proposal) { p.Last = api.TC{} }, nil},
		{"an empty transaction", api.ErrForm, func(p *proposal) { p.Block.Payload[1] = nil }, nil},
		{"a next without power", api.ErrSet, func(p *proposal) { p.Block.Next[1].Power = 0 }, nil},
		{"one next alone, without power", api.ErrSet, func(p *proposal) { p.Block.Next = []api.Validator{{Key: craft.Digest(1)}} }, nil},
		{"eight nexts", api.ErrSet, func(p *proposal) { p.Block.Next = craft.Validators(craft.Keys(8)) }, nil},
		{"nexts twice", api.ErrSet, func(p *proposal) { p.Block.Next = append(p.Block.Next, p.Block.Next[0]) }, nil},
		{"a wrong signature", api.ErrProof, nil, func(p *proposal) { p.From.Sig.Leaf ^= 1 }},
		{"another's signature", api.ErrProof, nil, func(p *proposal) { p.From.Sig = craft.Proposal(ks, p.Block, p.Last, 0).From.Sig }},
		{"another block", api.ErrProof, nil, func(p *proposal) { p.Block.Payload[0][0] ^= 1 }},
	}, call)
	for _, w := range ways(ks) {
		p := right()
		p.Block = craft.Child(w.q, 6)
		p.Last = w.last
		sign(&p)
		if err := call(p); err != w.err {
			t.Errorf("%s: Proposal answers %v, want %v", w.name, err, w.err)
		}
	}
	for i, q := range []api.QC{craft.QC(ks, epoch-1, 5, craft.Digest(5), 0, 1, 2), {Epoch: epoch - 1, Block: genesis}} {
		p := right()
		p.Block.Justify, p.Block.Parent = q, craft.Digest(6)
		sign(&p)
		if err := call(p); err != api.ErrEpoch {
			t.Errorf("with QC %d of another epoch Proposal answers %v", i, err)
		}
	}
	p := right()
	p.Block = craft.Child(craft.QC(ks, epoch, api.MaxRound+1, craft.Digest(5), 0, 1, 2), 6)
	sign(&p)
	if err := call(p); err != api.ErrRound {
		t.Errorf("with a QC of a round above Proposal answers %v", err)
	}
	p = right()
	p.Block = craft.Child(parent, 6)
	sign(&p)
	if err := call(p); err != nil {
		t.Errorf("without transactions and Next Proposal answers %v", err)
	}
	grounds(t, "Proposal", func(g proofs.Ground) error { return g.Proposal(proposal{}, 3) })
}

// P11.1: a proposal of a leader who is no validator isn't right, and one of an epoch without bytes neither.
func TestProposalOfNoLeader(t *testing.T) {
	g, ks := bench()
	b := craft.Child(api.QC{Epoch: epoch, Block: genesis}, 1)
	for _, who := range []int{-1, 4, 5, 1 << 40} {
		p := craft.Proposal(ks, b, api.TC{}, 0)
		p.From.Who = who
		if err := g.Proposal(p, who); err != api.ErrProof {
			t.Errorf("of the leader %d Proposal answers %v", who, err)
		}
	}
	for _, e := range []int{-1, 1 << 32, -1 << 63} {
		far := g
		far.Epoch = e
		b := craft.Child(api.QC{Epoch: e, Block: genesis}, 1)
		if err := far.Proposal(craft.Proposal(ks, b, api.TC{}, 1), 1); err != api.ErrProof {
			t.Errorf("of the epoch %d Proposal answers %v", e, err)
		}
	}
}

// P11.1: payloads.
func TestPayload(t *testing.T) {
	g, ks := bench()
	tx := func(n, length int) []byte { return append([]byte{byte(n)}, make([]byte, length-1)...) }
	for i, c := range []struct {
		list [][]byte
		want error
	}{
		{nil, nil}, {[][]byte{}, nil}, {[][]byte{tx(1, 1)}, nil}, {[][]byte{tx(1, 16)}, nil},
		{[][]byte{tx(1, 1), tx(2, 1), tx(3, 1), tx(4, 1)}, nil}, {[][]byte{tx(1, 1), tx(1, 2)}, nil},
		{[][]byte{nil}, api.ErrForm}, {[][]byte{{}}, api.ErrForm}, {[][]byte{tx(1, 17)}, api.ErrForm}, {[][]byte{tx(1, 1000)}, api.ErrForm},
		{[][]byte{tx(1, 3), tx(2, 3), tx(3, 3), nil}, api.ErrForm}, {[][]byte{tx(1, 3), tx(2, 17)}, api.ErrForm},
		{[][]byte{tx(1, 1), tx(2, 1), tx(3, 1), tx(4, 1), tx(5, 1)}, api.ErrForm},
		{[][]byte{tx(1, 5), tx(1, 5)}, api.ErrForm}, {[][]byte{tx(1, 5), tx(2, 5), tx(3, 5), tx(1, 5)}, api.ErrForm},
		{[][]byte{tx(2, 5), tx(1, 5), tx(1, 5)}, api.ErrForm},
	} {
		if err := g.Payload(c.list); err != c.want {
			t.Errorf("list %d: Payload answers %v, want %v", i, err, c.want)
		}
		b := craft.Child(api.QC{Epoch: epoch, Block: genesis}, 1, c.list...)
		if len(c.list) < 5 {
			if err := g.Proposal(craft.Proposal(ks, b, api.TC{}, 1), 1); i < 6 && err != nil || c.want != nil && err != c.want {
				t.Errorf("list %d: Proposal answers %v, want %v", i, err, c.want)
			}
		}
	}
	grounds(t, "Payload", func(g proofs.Ground) error { return g.Payload(nil) })
	grounds(t, "Payload", func(g proofs.Ground) error { return g.Payload([][]byte{nil}) })
}

// P11.1: High and No.
func TestHighAndNo(t *testing.T) {
	tc := func(highs ...int) api.TC {
		x := api.TC{Epoch: 3, Round: 9}
		for i, h := range highs {
			x.Lates = append(x.Lates, api.Late{Who: i, High: h})
		}
		return x
	}
	for _, c := range []struct {
		tc   api.TC
		want int
	}{
		{tc(), 0}, {tc(0), 0}, {tc(5), 5}, {tc(1, 2, 3), 3}, {tc(3, 2, 1), 3}, {tc(2, 7, 2, 0), 7}, {tc(-4), 0}, {tc(-4, -1), 0},
		{tc(-1, 1), 1}, {tc(1<<63-1, 2), 1<<63 - 1}, {tc(-1<<63, 0), 0}, {api.TC{}, 0},
	} {
		if got := proofs.High(c.tc); got != c.want {
			t.Errorf("High of %v answers %d, want %d", c.tc, got, c.want)
		}
	}
	if !proofs.No(api.TC{}) || !proofs.No(api.TC{Lates: []api.Late{}}) {
		t.Error("No of no TC is no")
	}
	for _, x := range []api.TC{tc(1), tc(0, 0, 0), {Lates: make([]api.Late, 1)}} {
		if proofs.No(x) {
			t.Errorf("No of %v is yes", x)
		}
	}
}
