package node_test

import (
	"fmt"
	"testing"

	"quorate/api"
	"quorate/codec"
	"quorate/craft"
	"quorate/disk"
	"quorate/node"
	"quorate/rules"
	"quorate/slots"
)

// seven is the node of one of seven validators, the first three of whom are a quorum.
func seven(t *testing.T, me int) *bench {
	t.Helper()
	ks := craft.Keys(7)
	return startWith(t, ks, craft.Validators(ks, 10, 10, 10), me)
}

// state is a guard's state in epoch 1.
func state(voted, locked, proposed, leaf int) rules.State {
	return rules.State{Epoch: 1, Voted: voted, Locked: locked, Proposed: proposed, Leaf: leaf}
}

// P21.1: a node as it begins.
func TestFormat(t *testing.T) {
	for me := range 4 {
		b := start(t, 4, me)
		same(t, "the round", b.n.Round(), 1)
		same(t, "the ground", b.n.Ground(), b.ground())
		same(t, "the place", b.n.Place(), me)
		same(t, "the state", b.n.State(), state(0, 0, 0, 0))
		same(t, "High", b.n.High(), b.first())
		same(t, "the commits", b.n.Commits(), ids())
		same(t, "the tree", b.n.Tree(), []api.Digest{b.ground().Genesis})
		same(t, "how many wait", b.n.Waits(), 0)
	}
	ks := craft.Keys(3)
	b := startWith(t, ks, craft.Validators(ks[:2]), 2)
	same(t, "an outsider's place", b.n.Place(), -1)
}

// P21.1: Format's errors, in their order.
func TestFormatOfWrongThings(t *testing.T) {
	ks := craft.Keys(2)
	v := craft.Validators(ks)
	small := func(sectors int) *disk.Disk {
		d, err := disk.New(sectors)
		must(t, err)
		return d
	}
	for _, wrong := range [][]api.Validator{nil, {{}}, append(v, v...)} {
		if n, err := node.Format(small(1), ks[0], wrong); err != api.ErrSet || n != nil {
			t.Errorf("Format of %v answers %v, %v", wrong, n, err)
		}
		if n, err := node.Open(small(1), ks[0], wrong); err != api.ErrSet || n != nil {
			t.Errorf("Open of %v answers %v, %v", wrong, n, err)
		}
	}
	for sectors := 1; sectors <= 3; sectors++ {
		n, err := node.Format(small(sectors), ks[0], v)
		if sectors < 3 && (err != api.ErrRange || n != nil) || sectors == 3 && err != nil {
			t.Errorf("Format of %d sectors answers %v, %v", sectors, n, err)
		}
	}
	for lasts := range 8 {
		d := small(9)
		d.Arm(lasts)
		n, err := node.Format(d, ks[0], v)
		if lasts < 7 && (err != api.ErrPower || n != nil) || lasts == 7 && err != nil {
			t.Errorf("Format with %d operations answers %v, %v", lasts, n, err)
		}
	}
}

// P21.1: one validator alone: a Tick a round, until its key is spent; a block is committed with the QC of the second round behind it.
func TestAlone(t *testing.T) {
	b := start(t, 1, 0)
	b.Helper()
	for k := 1; k <= 16; k++ {
		got := b.tick(nil)
		b.kinds(fmt.Sprint("tick ", k), got, kind(api.KindProposal, everyone))
		same(t, "the round", b.n.Round(), k+1)
		same(t, "High's round", b.n.High().Round, k)
		same(t, "how many commits", len(b.n.Commits()), max(0, k-2))
		same(t, "the state", b.n.State(), state(k, max(0, k-2), k, 2*k))
		same(t, "the length of the tree", len(b.n.Tree()), min(k+1, 3))
		if err := b.ground().QC(b.n.High()); err != nil {
			t.Errorf("High isn't right: %v", err)
		}
	}
	before := b.look()
	b.kinds("a tick without leaves", b.tick(api.ErrSpent))
	same(t, "the node", b.look(), before)
}

// P21.1: who leads proposes once, behind a call without an error, and votes.
func TestLead(t *testing.T) {
	b := start(t, 4, 1)
	outs, err := b.n.Submit([]byte{})
	if err != api.ErrForm || outs != nil {
		t.Errorf("Submit of no bytes answers %v, %v", outs, err)
	}
	if outs, err := b.n.Deliver([]byte{9}); err != api.ErrForm || outs != nil {
		t.Errorf("Deliver of no message answers %v, %v", outs, err)
	}
	outs, err = b.n.Submit([]byte("a"))
	must(t, err)
	got := b.read(outs)
	b.kinds("Submit", got, kind(api.KindProposal, everyone), kind(api.KindVote, 2))
	p, v := got[0].m.Proposal, got[1].m.Vote
	want := craft.Child(b.first(), 1, []byte("a"))
	same(t, "the block", p.Block, want)
	same(t, "the TC", p.Last, api.TC{})
	if err := b.ground().Proposal(p, 1); err != nil {
		t.Errorf("the proposal isn't right: %v", err)
	}
	if err := b.ground().Vote(v); err != nil || v.Block != craft.ID(want) || v.Round != 1 || v.From.Who != 1 {
		t.Errorf("the vote is %v, %v", v, err)
	}
	same(t, "the state", b.n.State(), state(1, 0, 1, 2))
	same(t, "the tree", b.n.Tree(), append([]api.Digest{b.ground().Genesis}, craft.ID(want)))
	same(t, "how many wait", b.n.Waits(), 1)
	b.kinds("a tick", b.tick(nil))
	outs, err = b.n.Submit([]byte("b"))
	must(t, err)
	b.kinds("Submit again", b.read(outs))
	b.reopen()
	b.kinds("a tick behind a crash", b.tick(nil))
	for me := range 4 {
		if me != 1 {
			other := start(t, 4, me)
			outs, err := other.n.Submit([]byte("a"))
			must(t, err)
			other.kinds("Submit at another node", other.read(outs))
			same(t, "the state", other.n.State(), state(0, 0, 0, 0))
			if _, err := other.n.Submit([]byte("a")); err != api.ErrTwice {
				t.Errorf("Submit of what waits answers %v", err)
			}
		}
	}
}

// P21.1: who follows votes for each block, and commits by three rounds in a row.
func TestFollow(t *testing.T) {
	b := seven(t, 6)
	for _, tx := range []string{"tx1", "tx9", "tx2"} {
		_, err := b.n.Submit([]byte(tx))
		must(t, err)
	}
	list := b.row(b.first(), 1, 2, 3, 4, 5)
	root := b.ground().Genesis
	for i, x := range list {
		got := b.proposal(b.propose(x), nil)
		if i < 4 {
			b.kinds("a proposal", got, kind(api.KindVote, x.Round+1))
			v := got[0].m.Vote
			if err := b.ground().Vote(v); err != nil || v.Round != x.Round || v.Block != craft.ID(x) || v.From.Who != 6 {
				t.Errorf("the vote in round %d is %v, %v", x.Round, v, err)
			}
		} else {
			b.kinds("the proposal ahead of its own round", got)
		}
		same(t, "the round", b.n.Round(), x.Round)
		same(t, "High", b.n.High(), x.Justify)
		same(t, "the state", b.n.State(), state(x.Round, max(0, x.Round-2), 0, i+1))
		commits := list[:max(0, i-2)]
		same(t, "the commits", b.n.Commits(), ids(commits...))
		tree := append([]api.Digest{root}, ids(list[:i+1]...)...)
		same(t, "the tree", b.n.Tree(), tree[len(commits):])
		same(t, "how many wait", b.n.Waits(), 3-min(len(commits), 2))
		before := b.look()
		b.kinds("the same proposal again", b.proposal(b.propose(x), nil))
		same(t, "the node behind the same proposal", b.look(), before)
	}
	var seq []string
	for tx := range b.n.Sequence() {
		seq = append(seq, string(tx))
	}
	same(t, "the sequence", seq, []string{"tx1", "tx2"})
	n := 0
	for x, q := range b.n.Committed() {
		same(t, "a commit", x, list[n])
		same(t, "its certificate", q, list[n+1].Justify)
		n++
	}
	same(t, "how many are told", n, 2)
}

// P21.1: a block of a round that was is kept, and gets no vote; one that isn't safe neither.
func TestNoVote(t *testing.T) {
	b := seven(t, 6)
	list := b.row(b.first(), 1, 2, 3, 4)
	b.follow(list)
	old := craft.Child(b.certify(list[1]), 3, []byte("other"))
	b.kinds("a proposal of a round that was", b.proposal(b.propose(old), nil))
	same(t, "the state", b.n.State(), state(4, 2, 0, 4))
	unsafe := craft.Child(b.certify(list[0]), 5, []byte("unsafe"))
	b.kinds("a proposal that isn't safe", b.proposal(b.propose(unsafe), nil))
	same(t, "the round", b.n.Round(), 5)
	same(t, "the state", b.n.State(), state(4, 2, 0, 4))
	same(t, "the tree", b.n.Tree(), ids(list[0], list[1], list[2], list[3], old, unsafe))
	ks := craft.Keys(5)
	out := startWith(t, ks, craft.Validators(ks[:4]), 4)
	x := out.row(out.first(), 1, 2, 3, 4)
	out.follow(x)
	same(t, "an outsider's state", out.n.State(), state(0, 0, 0, 0))
	same(t, "an outsider's commits", out.n.Commits(), ids(x[0]))
	out.kinds("an outsider's ticks", append(out.tick(nil), append(out.tick(nil), out.tick(nil)...)...))
}

// spend leaves a node's key without leaves, behind the guard's back.
func (b *bench) spend(s rules.State) {
	b.Helper()
	x, err := slots.Open(b.d, 0)
	must(b.T, err)
	form, err := s.Bytes()
	must(b.T, err)
	must(b.T, x.Put(form))
	b.reopen()
}

// P21.1: without leaves a vote, a late word and a proposal are errors; what came ahead of them is done.
func TestSpent(t *testing.T) {
	b := start(t, 4, 3)
	b.spend(state(0, 0, 0, 32))
	x := b.row(b.first(), 1)[0]
	b.kinds("a proposal", b.proposal(b.propose(x), api.ErrSpent))
	same(t, "the tree", b.n.Tree(), append([]api.Digest{b.ground().Genesis}, craft.ID(x)))
	b.tick(nil)
	b.kinds("a tick", b.tick(api.ErrSpent))
	b = start(t, 4, 1)
	b.spend(state(0, 0, 0, 31))
	b.kinds("a tick of the leader's", b.tick(api.ErrSpent), kind(api.KindProposal, everyone))
	same(t, "the state", b.n.State(), state(0, 0, 1, 32))
	b = start(t, 4, 1)
	b.spend(state(0, 0, 0, 32))
	b.kinds("a tick of the leader's", b.tick(api.ErrSpent))
	same(t, "the tree", b.n.Tree(), []api.Digest{b.ground().Genesis})
}

// P21.1: a block whose parent isn't there: its QC is taken, the sender is asked, once, and behind four ticks again.
func TestUnknownParent(t *testing.T) {
	b := seven(t, 6)
	list := b.row(b.first(), 1, 2, 3)
	got := b.proposal(b.propose(list[2]), nil)
	b.kinds("a proposal without parent", got, kind(api.KindWant, 3))
	same(t, "what is asked", got[0].m.Want, api.Want{From: b.ks[6].Root(), Block: b.ground().Genesis})
	same(t, "High", b.n.High(), list[2].Justify)
	same(t, "the round", b.n.Round(), 3)
	same(t, "the tree", b.n.Tree(), []api.Digest{b.ground().Genesis})
	b.kinds("the same again", b.proposal(b.propose(list[2]), nil))
	b.kinds("another one's timeout", b.timeout(craft.Timeout(b.ks, 1, 3, list[2].Justify, api.TC{}, 4), nil), kind(api.KindWant, 4))
	b.tick(nil)
	b.tick(nil)
	b.tick(nil)
	b.kinds("again behind three ticks", b.proposal(b.propose(list[2]), nil))
	b.tick(nil)
	b.kinds("again behind four ticks", b.proposal(b.propose(list[2]), nil), kind(api.KindWant, 3))
	b.reply(list[0], nil)
	b.reply(list[1], nil)
	b.kinds("the proposal behind its parents", b.proposal(b.propose(list[2]), nil))
	same(t, "the tree", b.n.Tree(), append([]api.Digest{b.ground().Genesis}, ids(list...)...))
	same(t, "the state", b.n.State(), state(3, 0, 0, 1))
	b = seven(t, 6)
	b.kinds("its own timeout", b.timeout(craft.Timeout(b.ks, 1, 3, list[2].Justify, api.TC{}, 6), nil))
	same(t, "the round", b.n.Round(), 3)
}

// P21.1: votes are counted to a QC by who leads the round behind, and it proposes.
func TestCountVotes(t *testing.T) {
	b := start(t, 4, 2)
	x := b.row(b.first(), 1)[0]
	id := craft.ID(x)
	b.kinds("a proposal", b.proposal(b.propose(x), nil))
	same(t, "the state", b.n.State(), state(1, 0, 0, 1))
	b.kinds("a vote", b.vote(craft.Vote(b.ks, 1, 1, id, 3), nil))
	b.kinds("the same vote", b.vote(craft.Vote(b.ks, 1, 1, id, 3), api.ErrTwice))
	b.kinds("another vote of one", b.vote(craft.Vote(b.ks, 1, 1, craft.Digest(4), 3), api.ErrTwice))
	same(t, "the round", b.n.Round(), 1)
	got := b.vote(craft.Vote(b.ks, 1, 1, id, 0), nil)
	b.kinds("the third vote", got, kind(api.KindProposal, everyone), kind(api.KindVote, 3))
	p := got[0].m.Proposal
	q := p.Block.Justify
	if err := b.ground().QC(q); err != nil || len(q.Votes) != 3 || q.Votes[0].Who != 0 || q.Votes[1].Who != 2 || q.Votes[2].Who != 3 {
		t.Errorf("the QC is %v, %v", q, err)
	}
	if err := b.ground().Proposal(p, 2); err != nil || p.Block.Parent != id || p.Block.Round != 2 {
		t.Errorf("the proposal is %v, %v", p, err)
	}
	same(t, "High", b.n.High(), q)
	same(t, "the round", b.n.Round(), 2)
	same(t, "the state", b.n.State(), state(2, 0, 2, 3))
	b.kinds("a fourth vote", b.vote(craft.Vote(b.ks, 1, 1, id, 1), nil))
	same(t, "High", b.n.High(), q)
}

// P21.1: votes for a block that isn't there: the voter who makes the quorum is asked; behind the answer it leads.
func TestVotesForUnknownBlock(t *testing.T) {
	b := start(t, 4, 2)
	list := b.row(b.first(), 1)
	id := craft.ID(list[0])
	b.vote(craft.Vote(b.ks, 1, 1, id, 0), nil)
	b.vote(craft.Vote(b.ks, 1, 1, craft.Digest(5), 1), nil)
	b.kinds("two votes and another one", b.vote(craft.Vote(b.ks, 1, 1, id, 2), nil))
	got := b.vote(craft.Vote(b.ks, 1, 1, id, 3), nil)
	b.kinds("the third vote", got, kind(api.KindWant, 3))
	same(t, "the round", b.n.Round(), 2)
	same(t, "High's round", b.n.High().Round, 1)
	b.kinds("the block", b.reply(list[0], nil), kind(api.KindProposal, everyone), kind(api.KindVote, 3))
	same(t, "the state", b.n.State(), state(2, 0, 2, 2))
}

// P21.1: a vote's errors, in their order, and the rounds that are counted.
func TestVoteErrors(t *testing.T) {
	b := start(t, 4, 2)
	id := craft.Digest(7)
	bad := func(v api.Vote) api.Vote {
		v.From.Sig.Leaf ^= 1
		return v
	}
	before := b.look()
	b.kinds("another's round", b.vote(craft.Vote(b.ks, 1, 2, id, 0), api.ErrLeader))
	b.kinds("another's round, wrong", b.vote(bad(craft.Vote(b.ks, 1, 2, id, 0)), api.ErrProof))
	b.kinds("a wrong vote", b.vote(bad(craft.Vote(b.ks, 1, 1, id, 0)), api.ErrProof))
	b.kinds("an epoch that was", b.vote(craft.Vote(b.ks, 0, 1, id, 0), api.ErrEpoch))
	b.kinds("no round", b.vote(craft.Vote(b.ks, 1, 0, id, 0), api.ErrRound))
	b.kinds("a round far above", b.vote(craft.Vote(b.ks, 1, 13, id, 0), api.ErrFull))
	b.kinds("a round farther above", b.vote(craft.Vote(b.ks, 1, api.MaxRound-3, id, 0), api.ErrFull))
	same(t, "the node", b.look(), before)
	for who := range 3 {
		b.vote(craft.Vote(b.ks, 1, 9, id, who), nil)
	}
	same(t, "the round", b.n.Round(), 10)
	for _, round := range []int{1, 5} {
		b.vote(craft.Vote(b.ks, 1, round, id, 0), api.ErrOld)
		b.vote(craft.Vote(b.ks, 1, round, id, 0), api.ErrOld)
	}
	b.vote(craft.Vote(b.ks, 1, 9, id, 0), api.ErrTwice)
	b.vote(craft.Vote(b.ks, 1, 9, id, 3), nil)
	b.vote(craft.Vote(b.ks, 1, 13, id, 3), nil)
	b.vote(craft.Vote(b.ks, 1, 17, id, 3), nil)
	b.vote(craft.Vote(b.ks, 1, 21, id, 3), api.ErrFull)
	b = start(t, 4, 2)
	b.timeout(craft.Timeout(b.ks, 1, 3, b.first(), craft.TC(b.ks, 1, 2, 0, 0, 1, 2), 3), nil)
	b.vote(craft.Vote(b.ks, 1, 1, id, 0), api.ErrOld)
	out := startWith(t, b.ks, b.v[:3], 3)
	out.kinds("an outsider's vote", out.vote(craft.Vote(b.ks, 1, 1, id, 0), api.ErrLeader))
}

// P21.1: a round that has lasted too long: a timeout, told again and again; with those of others a TC.
func TestTimeouts(t *testing.T) {
	b := start(t, 4, 0)
	b.kinds("the first tick", b.tick(nil))
	got := b.tick(nil)
	b.kinds("the second tick", got, kind(api.KindTimeout, everyone))
	x := got[0].m.Timeout
	if err := b.ground().Timeout(x); err != nil || x.Round != 1 || x.From.Who != 0 {
		t.Errorf("the timeout is %v, %v", x, err)
	}
	same(t, "its QC", x.High, b.first())
	same(t, "its TC", x.Last, api.TC{})
	same(t, "the state", b.n.State(), state(1, 0, 0, 1))
	for range 3 {
		b.kinds("a tick", b.tick(nil))
		again := b.tick(nil)
		b.kinds("the second tick behind it", again, kind(api.KindTimeout, everyone))
		same(t, "the timeout", again[0].m, got[0].m)
	}
	same(t, "the state", b.n.State(), state(1, 0, 0, 1))
	b.kinds("its own timeout", b.timeout(x, api.ErrTwice))
	b.timeout(craft.Timeout(b.ks, 1, 1, b.first(), api.TC{}, 3), nil)
	b.timeout(craft.Timeout(b.ks, 1, 1, b.first(), api.TC{}, 3), api.ErrTwice)
	same(t, "the round", b.n.Round(), 1)
	b.kinds("the third timeout", b.timeout(craft.Timeout(b.ks, 1, 1, b.first(), api.TC{}, 1), nil))
	same(t, "the round", b.n.Round(), 2)
	b.kinds("a fourth timeout", b.timeout(craft.Timeout(b.ks, 1, 1, b.first(), api.TC{}, 2), nil))
	for range 3 {
		b.kinds("a tick in the next round", b.tick(nil))
	}
	got = b.tick(nil)
	b.kinds("the fourth tick in the next round", got, kind(api.KindTimeout, everyone))
	x = got[0].m.Timeout
	if err := b.ground().Timeout(x); err != nil || x.Round != 2 || len(x.Last.Lates) != 3 || x.Last.Lates[0].Who != 0 || x.Last.Lates[1].Who != 1 || x.Last.Lates[2].Who != 3 {
		t.Errorf("the timeout of round 2 is %v, %v", x, err)
	}
	same(t, "the state", b.n.State(), state(2, 0, 0, 2))
}

// P21.1: who leads a round that began by a TC proposes with it, and one who follows votes for that.
func TestLeadByTC(t *testing.T) {
	b := start(t, 4, 2)
	for who := range 2 {
		b.timeout(craft.Timeout(b.ks, 1, 1, b.first(), api.TC{}, who), nil)
	}
	got := b.timeout(craft.Timeout(b.ks, 1, 1, b.first(), api.TC{}, 3), nil)
	b.kinds("the third timeout", got, kind(api.KindProposal, everyone), kind(api.KindVote, 3))
	p := got[0].m.Proposal
	if err := b.ground().Proposal(p, 2); err != nil || p.Last.Round != 1 || len(p.Last.Lates) != 3 || p.Block.Round != 2 {
		t.Errorf("the proposal is %v, %v", p, err)
	}
	same(t, "the QC", p.Block.Justify, b.first())
	other := start(t, 4, 0)
	got = other.proposal(p, nil)
	other.kinds("the proposal", got, kind(api.KindVote, 3))
	same(t, "the round", other.n.Round(), 2)
	for range 3 {
		other.kinds("a tick", other.tick(nil))
	}
	got = other.tick(nil)
	other.kinds("the fourth tick", got, kind(api.KindTimeout, everyone))
	same(t, "the TC", got[0].m.Timeout.Last, p.Last)
}

// P21.1: a timeout's QC and TC are taken, also of a round far above; its errors in their order.
func TestTimeoutsBringRounds(t *testing.T) {
	b := start(t, 4, 0)
	list := b.row(b.first(), 1, 2)
	b.kinds("a timeout with a QC", b.timeout(craft.Timeout(b.ks, 1, 6, b.certify(list[1]), craft.TC(b.ks, 1, 5, 2, 0, 1, 2), 3), nil), kind(api.KindWant, 3))
	same(t, "the round", b.n.Round(), 6)
	same(t, "High's round", b.n.High().Round, 2)
	b.kinds("ticks", append(b.tick(nil), append(b.tick(nil), b.tick(nil)...)...))
	got := b.tick(nil)
	b.kinds("the fourth tick", got, kind(api.KindTimeout, everyone))
	same(t, "the TC", got[0].m.Timeout.Last, craft.TC(b.ks, 1, 5, 2, 0, 1, 2))
	b.timeout(craft.Timeout(b.ks, 1, 5, b.certify(list[1]), craft.TC(b.ks, 1, 4, 2, 0, 1, 2), 1), nil)
	b.timeout(craft.Timeout(b.ks, 1, 6, b.certify(list[1]), craft.TC(b.ks, 1, 5, 2, 0, 1, 2), 3), api.ErrTwice)
	far := craft.Timeout(b.ks, 1, 15, b.certify(list[1]), craft.TC(b.ks, 1, 14, 2, 0, 1, 2), 1)
	b.timeout(far, nil)
	same(t, "the round", b.n.Round(), 15)
	before := b.look()
	far.From.Sig.Leaf ^= 1
	b.timeout(far, api.ErrProof)
	b.timeout(craft.Timeout(b.ks, 0, 1, b.first(), api.TC{}, 1), api.ErrEpoch)
	b.timeout(craft.Timeout(b.ks, 1, 0, b.first(), api.TC{}, 1), api.ErrRound)
	same(t, "the node", b.look(), before)
}

// P21.1: a timeout of a round above its own counts in that round. (Its way makes the round that of the node, but at the end of rounds.)
func TestLastRound(t *testing.T) {
	const last = api.MaxRound
	b := start(t, 4, 1)
	before := craft.QC(b.ks, 1, last-1, craft.Digest(3), 0, 1, 2)
	b.timeout(craft.Timeout(b.ks, 1, last, before, api.TC{}, 3), nil)
	same(t, "the round", b.n.Round(), last)
	b.tick(nil)
	b.kinds("a tick in the last round", b.tick(nil), kind(api.KindTimeout, everyone))
	b.timeout(craft.Timeout(b.ks, 1, last, before, api.TC{}, 0), nil)
	same(t, "the round", b.n.Round(), last)
	for _, who := range []int{0, 2, 3} {
		b.vote(craft.Vote(b.ks, 1, last, craft.Digest(4), who), nil)
	}
	same(t, "the round", b.n.Round(), last)
	same(t, "High's round", b.n.High().Round, last)
	b.kinds("ticks", append(b.tick(nil), b.tick(nil)...), kind(api.KindTimeout, everyone))
	b = start(t, 4, 1)
	b.timeout(craft.Timeout(b.ks, 1, last, before, api.TC{}, 3), nil)
	for _, who := range []int{0, 2, 3} {
		b.vote(craft.Vote(b.ks, 1, last, craft.Digest(4), who), nil)
	}
	b.kinds("ticks without a way", append(b.tick(nil), b.tick(nil)...))
	same(t, "the state", b.n.State(), state(0, 0, 0, 0))
}

// P21.1: ErrFull of timeouts: none can be so far above behind its own way, but at the end of rounds; so it is asked of those that count.
func TestOldTimeouts(t *testing.T) {
	b := start(t, 4, 0)
	list := b.row(b.first(), 1, 2, 3)
	b.follow(list[:2])
	x := craft.Timeout(b.ks, 1, 1, b.first(), api.TC{}, 1)
	before := b.look()
	for range 2 {
		b.kinds("a timeout of a round that was", b.timeout(x, nil))
	}
	same(t, "the node", b.look(), before)
	b.tick(nil)
	b.kinds("a round that lasts", b.tick(nil), kind(api.KindTimeout, everyone))
	b.kinds("the next round", b.proposal(b.propose(list[2]), nil))
	same(t, "the state", b.n.State(), state(3, 1, 0, 4))
	b.tick(nil)
	got := b.tick(nil)
	b.kinds("a round that lasts, again", got, kind(api.KindTimeout, everyone))
	same(t, "its round", got[0].m.Timeout.Round, 3)
	same(t, "its QC", got[0].m.Timeout.High, list[2].Justify)
}

// P21.1: what it proposes: the transactions that aren't on the way already, and Next once.
func TestWhatIsProposed(t *testing.T) {
	b := start(t, 4, 1)
	for me, tx := range []string{"a", "tx2", "b", "tx3", "c", "d", "e", "f"} {
		_, err := b.n.Submit([]byte(tx))
		if me == 0 {
			must(t, err)
		}
	}
	first := craft.Child(b.first(), 1, []byte("a"))
	list := append([]api.Block{first}, b.row(b.certify(first), 2, 3, 4)...)
	b.follow(list[1:])
	same(t, "the commits", b.n.Commits(), ids(first))
	same(t, "how many wait", b.n.Waits(), 7)
	next := craft.Validators(b.ks[:3], 2)
	if outs, err := b.n.Reconfigure(next[:0]); err != api.ErrSet || outs != nil {
		t.Errorf("Reconfigure of none answers %v, %v", outs, err)
	}
	outs, err := b.n.Reconfigure(next)
	must(t, err)
	b.kinds("Reconfigure", b.read(outs))
	next[0].Power = 5
	for who := range 3 {
		if who == 1 {
			continue
		}
		got := b.vote(craft.Vote(b.ks, 1, 4, craft.ID(list[3]), who), nil)
		if who == 2 {
			b.kinds("the third vote", got, kind(api.KindProposal, everyone), kind(api.KindVote, 2))
			p := got[0].m.Proposal
			want := craft.Child(p.Block.Justify, 5, []byte("b"), []byte("c"), []byte("d"), []byte("e"))
			want.Next = craft.Validators(b.ks[:3], 2)
			same(t, "the block", p.Block, want)
		}
	}
}

// P21.1: it doesn't propose Next behind a block that has it; behind another one it does.
func TestNextOnce(t *testing.T) {
	for _, has := range []bool{true, false} {
		b := start(t, 4, 2)
		x := craft.Child(b.first(), 1, []byte("x"))
		if has {
			x.Next = craft.Validators(b.ks[:1])
		}
		_, err := b.n.Reconfigure(craft.Validators(b.ks[1:]))
		must(t, err)
		b.proposal(b.propose(x), nil)
		b.vote(craft.Vote(b.ks, 1, 1, craft.ID(x), 0), nil)
		got := b.vote(craft.Vote(b.ks, 1, 1, craft.ID(x), 3), nil)
		b.kinds("the third vote", got, kind(api.KindProposal, everyone), kind(api.KindVote, 3))
		if n := len(got[0].m.Proposal.Block.Next); has && n != 0 || !has && n != 3 {
			t.Errorf("behind a block with Next (%v) it proposes %d validators", has, n)
		}
	}
}

// P21.1: a tree that is full: who leads can't propose.
func TestFullTree(t *testing.T) {
	b := start(t, 4, 1)
	b.tickless(15)
	same(t, "the length of the tree", len(b.n.Tree()), 16)
	high := b.n.High()
	x := craft.Timeout(b.ks, 1, 33, high, craft.TC(b.ks, 1, 32, high.Round, 0, 1, 2), 3)
	b.kinds("a timeout by which it leads", b.timeout(x, api.ErrFull))
	same(t, "the round", b.n.Round(), 33)
	b.kinds("a tick", b.tick(api.ErrFull))
	b = start(t, 4, 1)
	b.tickless(14)
	high = b.n.High()
	x = craft.Timeout(b.ks, 1, 33, high, craft.TC(b.ks, 1, 32, high.Round, 0, 1, 2), 3)
	b.kinds("a timeout by which it leads, with room", b.timeout(x, nil), kind(api.KindProposal, everyone), kind(api.KindVote, 2))
}

// tickless fills the tree with so many blocks of even rounds, none of which is ever committed.
func (b *bench) tickless(n int) {
	b.Helper()
	q := b.first()
	for i := range n {
		x := craft.Child(q, 2*i+2)
		b.proposal(b.propose(x), nil)
		q = b.certify(x)
	}
}

// P21.1: what is behind a block is told to who asks, block by block.
func TestWant(t *testing.T) {
	b := seven(t, 6)
	list := b.row(b.first(), 1, 2, 3, 4, 5)
	b.follow(list)
	from := craft.Digest(44)
	for i, id := range append([]api.Digest{b.ground().Genesis}, ids(list...)...) {
		got := b.want(from, id, nil)
		same(t, "how many are told", len(got), 5-i)
		for j, s := range got {
			if s.m.Kind != api.KindReply || s.to != nobody {
				t.Errorf("there is told %v", s)
			}
			same(t, "what is told", s.m.Reply.Block, list[i+j])
		}
	}
	b.kinds("another validator asks", b.want(b.ks[2].Root(), craft.ID(list[3]), nil), kind(api.KindReply, 2))
	b.kinds("for what isn't there", b.want(from, craft.Digest(9), nil))
	before := b.look()
	b.kinds("of nobody", b.want(api.Digest{}, craft.ID(list[3]), api.ErrNone))
	b.kinds("of itself", b.want(b.ks[6].Root(), craft.ID(list[3]), api.ErrNone))
	same(t, "the node", b.look(), before)
}

// P21.1: replies: their errors in their order; their blocks are added, and commit.
func TestReply(t *testing.T) {
	b := seven(t, 6)
	list := b.row(b.first(), 1, 2, 3, 4, 5)
	b.kinds("a reply that nobody asked for", b.reply(list[0], api.ErrNone))
	b.proposal(b.propose(list[4]), nil) // it asks
	before := b.look()
	for _, c := range []struct {
		name   string
		err    error
		change func(x *api.Block)
	}{
		{"an epoch that was", api.ErrEpoch, func(x *api.Block) { x.Epoch, x.Round = 0, 0 }},
		{"an epoch to come", api.ErrEpoch, func(x *api.Block) { x.Epoch = 2 }},
		{"round 0", api.ErrRound, func(x *api.Block) { x.Round, x.Justify.Epoch = 0, 3 }},
		{"a round above", api.ErrRound, func(x *api.Block) { x.Round = api.MaxRound + 1 }},
		{"a QC of another epoch", api.ErrEpoch, func(x *api.Block) { x.Justify.Epoch = 3 }},
		{"a wrong QC", api.ErrProof, func(x *api.Block) { x.Justify = craft.QC(b.ks, 1, 7, x.Parent, 3, 4) }},
		{"another parent", api.ErrProof, func(x *api.Block) { x.Parent, x.Payload = craft.Digest(1), [][]byte{{}} }},
		{"an empty transaction", api.ErrForm, func(x *api.Block) { x.Payload, x.Next = [][]byte{{}}, []api.Validator{{}} }},
		{"a wrong Next", api.ErrSet, func(x *api.Block) { x.Next = []api.Validator{{}} }},
	} {
		x := list[0]
		c.change(&x)
		b.kinds(c.name, b.reply(x, c.err))
		same(t, "the node behind "+c.name, b.look(), before)
	}
	b.kinds("a reply without parent", b.reply(list[1], api.ErrParent))
	for i, x := range list {
		b.kinds("a reply", b.reply(x, nil))
		same(t, "the commits", b.n.Commits(), ids(list[:max(0, i-2)]...))
		b.kinds("the same again", b.reply(x, nil))
	}
	same(t, "the round", b.n.Round(), 5)
	same(t, "the tree", b.n.Tree(), ids(list[1:]...))
	same(t, "the state", b.n.State(), state(0, 0, 0, 0))
}

// P21.1 and P21.2: messages that aren't, and ones that fail their checks, change nothing.
func TestWrongMessages(t *testing.T) {
	b := seven(t, 6)
	list := b.row(b.first(), 1, 2, 3, 4)
	b.follow(list[:3])
	before := b.look()
	for _, c := range []struct {
		data []byte
		want error
	}{{nil, api.ErrShort}, {[]byte{}, api.ErrShort}, {[]byte{0}, api.ErrForm}, {[]byte{7, 1}, api.ErrForm}, {make([]byte, 70000), api.ErrForm}, {[]byte{4, 1}, api.ErrShort}} {
		if outs, err := b.n.Deliver(c.data); err != c.want || outs != nil {
			t.Errorf("Deliver of %d bytes answers %v, %v", len(c.data), outs, err)
		}
	}
	good, err := codec.Encode(api.Message{Kind: api.KindProposal, Proposal: b.propose(list[3])})
	must(t, err)
	if outs, err := b.n.Deliver(append(good, 0)); err != api.ErrLong || outs != nil {
		t.Errorf("Deliver of a byte more answers %v, %v", outs, err)
	}
	p := b.propose(list[3])
	p.From.Who = 5
	b.kinds("a proposal of another", b.proposal(p, api.ErrLeader))
	p = b.propose(list[3])
	p.Block.Payload = nil
	b.kinds("another block", b.proposal(p, api.ErrProof))
	p = b.propose(list[3])
	p.Last = craft.TC(b.ks, 1, 3, 2, 0, 1, 2)
	b.kinds("a needless TC", b.proposal(p, api.ErrProof))
	p = b.propose(list[3])
	p.Block.Epoch = 0
	b.kinds("an epoch that was", b.proposal(p, api.ErrEpoch))
	x := craft.Timeout(b.ks, 1, 4, b.certify(list[2]), api.TC{}, 2)
	x.From.Who = 3
	b.kinds("another's timeout", b.timeout(x, api.ErrProof))
	b.kinds("a Change without blocks", b.change(api.Change{}, api.ErrEpoch))
	same(t, "the node", b.look(), before)
}

// P21.1: of QCs of one round the first one stays High.
func TestFirstHigh(t *testing.T) {
	b := seven(t, 6)
	list := b.row(b.first(), 1, 2)
	b.follow(list[:1])
	one := craft.Certify(b.ks, list[0], 0, 1, 2)
	two := craft.Certify(b.ks, list[0], 0, 1, 2, 3)
	b.timeout(craft.Timeout(b.ks, 1, 2, one, api.TC{}, 3), nil)
	b.timeout(craft.Timeout(b.ks, 1, 2, two, api.TC{}, 4), nil)
	same(t, "High", b.n.High(), one)
	b.timeout(craft.Timeout(b.ks, 1, 2, b.first(), craft.TC(b.ks, 1, 1, 0, 0, 1, 2), 5), nil)
	same(t, "High", b.n.High(), one)
}

// P21.1: votes of the round before still make a QC, when the round began by a TC.
func TestVotesOfTheRoundBefore(t *testing.T) {
	b := start(t, 4, 2)
	x := b.row(b.first(), 1)[0]
	b.proposal(b.propose(x), nil)
	b.vote(craft.Vote(b.ks, 1, 1, craft.ID(x), 0), nil)
	b.timeout(craft.Timeout(b.ks, 1, 2, b.first(), craft.TC(b.ks, 1, 1, 0, 0, 1, 3), 3), nil)
	same(t, "the round", b.n.Round(), 2)
	same(t, "High's round", b.n.High().Round, 0)
	b.vote(craft.Vote(b.ks, 1, 1, craft.ID(x), 3), nil)
	same(t, "High's round", b.n.High().Round, 1)
	same(t, "the round", b.n.Round(), 2)
}

// P21.1: a QC that a quorum made for another round than the block's counts as High, and the block that is proposed behind it can't be added.
func TestQCThatDoesntFit(t *testing.T) {
	b := start(t, 4, 2)
	x := b.row(b.first(), 1)[0]
	b.proposal(b.propose(x), nil)
	q := craft.QC(b.ks, 1, 5, craft.ID(x), 0, 1, 3)
	b.kinds("a timeout with it", b.timeout(craft.Timeout(b.ks, 1, 6, q, api.TC{}, 3), api.ErrProof))
	same(t, "High", b.n.High(), q)
	same(t, "the round", b.n.Round(), 6)
	same(t, "the state", b.n.State(), state(1, 0, 6, 2))
	b.kinds("a tick", b.tick(nil))
	y := craft.Child(q, 6)
	other := start(t, 4, 0)
	other.proposal(other.propose(x), nil)
	other.kinds("a proposal with it", other.proposal(craft.Proposal(b.ks, y, api.TC{}, 2), api.ErrProof))
	same(t, "the state", other.n.State(), state(1, 0, 0, 1))
}

// P21.1: a block that finds no room in the tree gets no vote.
func TestProposalToFullTree(t *testing.T) {
	b := start(t, 4, 1)
	b.tickless(15)
	before := b.n.State()
	x := craft.Child(craft.QC(b.ks, 1, 30, b.n.Tree()[15], 0, 1, 2), 31)
	b.kinds("a proposal", b.proposal(b.propose(x), api.ErrFull))
	same(t, "the state", b.n.State(), before)
	same(t, "the round", b.n.Round(), 31)
}

// P21.1: a reply of the last round.
func TestReplyOfTheLastRound(t *testing.T) {
	b := seven(t, 6)
	list := b.row(b.first(), 1, 2, 3)
	b.proposal(b.propose(list[2]), nil)
	x := craft.Child(b.first(), api.MaxRound)
	b.reply(x, nil)
	same(t, "the tree", b.n.Tree(), append([]api.Digest{b.ground().Genesis}, craft.ID(x)))
}

// P21.1: without power nothing is done.
func TestWithoutPower(t *testing.T) {
	b := start(t, 4, 1)
	x := b.row(b.first(), 1)[0]
	b.d.Arm(0)
	b.d.Sync()
	before := b.look()
	for range 5 {
		b.kinds("a tick", b.tick(api.ErrPower))
	}
	b.kinds("a proposal", b.proposal(b.propose(x), api.ErrPower))
	b.kinds("a wrong message", b.vote(api.Vote{}, api.ErrPower))
	if outs, err := b.n.Submit(nil); err != api.ErrPower || outs != nil {
		t.Errorf("Submit answers %v, %v", outs, err)
	}
	if outs, err := b.n.Reconfigure(nil); err != api.ErrPower || outs != nil {
		t.Errorf("Reconfigure answers %v, %v", outs, err)
	}
	same(t, "the node", b.look(), before)
	b.d.Crash()
	b.kinds("a tick with power", b.tick(nil), kind(api.KindProposal, everyone), kind(api.KindVote, 2))
}

// P21.1 and the rules: answers are the caller's own.
func TestCopies(t *testing.T) {
	b := seven(t, 6)
	list := b.row(b.first(), 1, 2, 3, 4, 5)
	b.follow(list)
	before := b.look()
	clear(b.n.Ground().Validators)
	clear(b.n.High().Votes)
	clear(b.n.High().Votes[0].Sig.Chains)
	clear(b.n.Commits())
	clear(b.n.Tree())
	for tx := range b.n.Sequence() {
		clear(tx)
	}
	for x, q := range b.n.Committed() {
		clear(x.Payload)
		clear(q.Votes)
	}
	same(t, "the node", b.look(), before)
	for range b.n.Sequence() {
		break
	}
	for range b.n.Committed() {
		break
	}
	v := craft.Validators(b.ks)
	d, err := disk.New(sectors)
	must(t, err)
	n, err := node.Format(d, b.ks[0], v)
	must(t, err)
	v[0].Power = 99
	same(t, "the power", n.Ground().Validators[0].Power, 1)
	n.Tick()
	outs, err := n.Tick()
	must(t, err)
	clear(outs[0].Data)
	n.Tick()
	outs, err = n.Tick()
	must(t, err)
	if _, err := codec.Decode(outs[0].Data); err != nil {
		t.Errorf("a change of what was sent shows: %v", err)
	}
}
