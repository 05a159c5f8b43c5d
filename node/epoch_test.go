package node_test

import (
	"fmt"
	"testing"

	"quorate/api"
	"quorate/codec"
	"quorate/craft"
	"quorate/disk"
	"quorate/epochs"
	"quorate/keys"
	"quorate/ledger"
	"quorate/node"
	"quorate/proofs"
	"quorate/rules"
	"quorate/slots"
)

// ending is a row of blocks of rounds 1 to 4, the first of which has Next.
func (b *bench) ending(next []api.Validator) []api.Block {
	first := craft.Child(b.first(), 1, []byte("tx1"))
	first.Next = next
	return append([]api.Block{first}, b.row(b.certify(first), 2, 3, 4)...)
}

// proof is the Change of a row, its first three blocks and the QC in the fourth one.
func proof(list []api.Block) api.Change {
	return api.Change{Blocks: [3]api.Block(list[:3]), QC: list[3].Justify}
}

// second is the ground behind a block.
func (b *bench) second(x api.Block) proofs.Ground {
	b.Helper()
	g, err := epochs.Next(b.ground(), craft.ID(x), x.Next)
	must(b.T, err)
	return g
}

// isIn asks that the node is at the beginning of a ground's epoch.
func (b *bench) isIn(g proofs.Ground) {
	b.Helper()
	same(b.T, "the ground", b.n.Ground(), g)
	same(b.T, "the round", b.n.Round(), 1)
	same(b.T, "High", b.n.High(), api.QC{Epoch: g.Epoch, Block: g.Genesis})
	same(b.T, "the tree", b.n.Tree(), []api.Digest{g.Genesis})
}

// P21.1: a block with Next that is committed ends the epoch, with all that belongs to it.
func TestEpochEnds(t *testing.T) {
	b := seven(t, 6)
	next := craft.Validators(b.ks[3:], 1, 2, 3, 4)
	list := b.ending(next)
	_, err := b.n.Submit([]byte("tx1"))
	must(t, err)
	_, err = b.n.Submit([]byte("tx7"))
	must(t, err)
	_, err = b.n.Reconfigure(craft.Validators(b.ks))
	must(t, err)
	b.follow(list[:3])
	b.tick(nil)
	b.tick(nil)
	same(t, "the commits", b.n.Commits(), ids())
	b.proposal(b.propose(list[3]), nil)
	b.isIn(b.second(list[0]))
	same(t, "the place", b.n.Place(), 3)
	same(t, "the commits", b.n.Commits(), ids(list[0]))
	same(t, "how many wait", b.n.Waits(), 1)
	same(t, "the state", b.n.State(), rules.State{Epoch: 2, Leaf: 4})
	b.kinds("the first tick", b.tick(nil))
	got := b.tick(nil)
	b.kinds("the second tick", got, kind(api.KindTimeout, everyone))
	x := got[0].m.Timeout
	if err := b.second(list[0]).Timeout(x); err != nil || x.Round != 1 || x.From.Who != 3 || x.Epoch != 2 {
		t.Errorf("the timeout is %v, %v", x, err)
	}
}

// P21.1: in an epoch that begins Next is forgotten, and who leads its first round proposes at once.
func TestLeadsTheNextEpoch(t *testing.T) {
	b := seven(t, 6)
	list := b.ending(craft.Validators(b.ks[5:]))
	_, err := b.n.Reconfigure(craft.Validators(b.ks))
	must(t, err)
	b.follow(list[:3])
	got := b.proposal(b.propose(list[3]), nil)
	b.kinds("the proposal by which the epoch ends", got, kind(api.KindProposal, everyone), kind(api.KindVote, 5))
	g := b.second(list[0])
	p := got[0].m.Proposal
	if err := g.Proposal(p, 1); err != nil || p.Block.Epoch != 2 || p.Block.Round != 1 || p.Block.Next != nil || p.Block.Parent != g.Genesis {
		t.Errorf("the proposal is %v, %v", p, err)
	}
	same(t, "the state", b.n.State(), rules.State{Epoch: 2, Voted: 1, Proposed: 1, Leaf: 5})
}

// P21.1: one who isn't in the next epoch goes on without a place; nothing of it is signed.
func TestLeavesTheNextEpoch(t *testing.T) {
	b := seven(t, 6)
	list := b.ending(craft.Validators(b.ks[:3]))
	b.follow(list)
	b.isIn(b.second(list[0]))
	same(t, "the place", b.n.Place(), -1)
	for range 5 {
		b.kinds("a tick", b.tick(nil))
	}
	same(t, "the state", b.n.State(), rules.State{Epoch: 2, Leaf: 3})
}

// P21.1: one in an epoch that ended is told the Change of it; whose timeout isn't right, or of an epoch without Change, isn't.
func TestTellsTheEnd(t *testing.T) {
	b := seven(t, 6)
	list := b.ending(craft.Validators(b.ks))
	b.follow(list)
	before := b.look()
	late := craft.Timeout(b.ks, 1, 1, b.first(), api.TC{}, 4)
	got := b.timeout(late, api.ErrEpoch)
	b.kinds("a timeout of the epoch that ended", got, kind(api.KindChange, 4))
	same(t, "the Change", got[0].m.Change, proof(list))
	if err := epochs.Check(b.ground(), got[0].m.Change); err != nil {
		t.Errorf("the Change isn't right: %v", err)
	}
	late.From.Sig.Leaf ^= 1
	b.kinds("a wrong timeout", b.timeout(late, api.ErrEpoch))
	b.kinds("a timeout of epoch 0", b.timeout(craft.Timeout(b.ks, 0, 1, api.QC{}, api.TC{}, 4), api.ErrEpoch))
	b.kinds("a vote of the epoch that ended", b.vote(craft.Vote(b.ks, 1, 5, craft.Digest(1), 4), api.ErrEpoch))
	b.kinds("a proposal of the epoch that ended", b.proposal(b.propose(list[3]), api.ErrEpoch))
	b.kinds("the Change of the epoch that ended", b.change(proof(list), api.ErrEpoch))
	same(t, "the node", b.look(), before)
	b.reopen()
	late.From.Sig.Leaf ^= 1
	b.kinds("a timeout of it behind a crash", b.timeout(late, api.ErrEpoch))
}

// P21.1: who asks for blocks of an epoch that ended is told up to its last one, and the Change of it.
func TestWantOfTheEnd(t *testing.T) {
	b := seven(t, 6)
	plain := b.row(b.first(), 1, 2)
	end := craft.Child(b.certify(plain[1]), 3)
	end.Next = craft.Validators(b.ks[:1])
	list := append(append(plain, end), b.row(b.certify(end), 4, 5, 6)...)
	b.follow(list[:5])
	b.tick(nil)
	b.proposal(craft.Proposal(b.ks, list[5], api.TC{}, 6), nil)
	g := b.second(end)
	b.isIn(g)
	from := b.ks[2].Root()
	got := b.want(from, b.ground().Genesis, nil)
	b.kinds("from the beginning", got, kind(api.KindReply, 2), kind(api.KindReply, 2), kind(api.KindReply, 2), kind(api.KindChange, 2))
	same(t, "the last block", got[2].m.Reply.Block, end)
	same(t, "the Change", got[3].m.Change, api.Change{Blocks: [3]api.Block(list[2:5]), QC: list[5].Justify})
	b.kinds("from the second block on", b.want(from, craft.ID(list[1]), nil), kind(api.KindReply, 2), kind(api.KindChange, 2))
	b.kinds("from the end on", b.want(from, craft.ID(end), nil))
	x := craft.Child(api.QC{Epoch: 2, Block: g.Genesis}, 1)
	b.proposal(craft.Proposal(b.ks, x, api.TC{}, 0), nil)
	b.kinds("in the next epoch", b.want(from, g.Genesis, nil), kind(api.KindReply, 2))
	b.reopen()
	b.kinds("behind a crash", b.want(from, craft.ID(list[1]), nil), kind(api.KindReply, 2))
}

// P21.1: a Change is taken by one who has what is ahead of its blocks; one who hasn't asks all.
func TestChange(t *testing.T) {
	b := seven(t, 6)
	list := b.ending(craft.Validators(b.ks))
	wrong := proof(list)
	wrong.QC.Votes = wrong.QC.Votes[:1]
	before := b.look()
	b.kinds("a wrong Change", b.change(wrong, api.ErrProof))
	same(t, "the node", b.look(), before)
	b.kinds("the Change", b.change(proof(list), nil))
	b.isIn(b.second(list[0]))
	same(t, "the commits", b.n.Commits(), ids(list[0]))
	b.kinds("a timeout of the epoch that ended", b.timeout(craft.Timeout(b.ks, 1, 1, b.first(), api.TC{}, 4), api.ErrEpoch), kind(api.KindChange, 4))

	b = seven(t, 6)
	b.follow(list[:2])
	b.kinds("the Change, its blocks being there", b.change(proof(list), nil))
	b.isIn(b.second(list[0]))

	b = seven(t, 6)
	plain := b.row(b.first(), 1)
	end := craft.Child(b.certify(plain[0]), 3)
	end.Next = craft.Validators(b.ks)
	c := proof(append([]api.Block{end}, b.row(b.certify(end), 4, 5, 6)...))
	got := b.change(c, api.ErrParent)
	b.kinds("a Change behind what isn't there", got, kind(api.KindWant, everyone))
	same(t, "what is asked", got[0].m.Want, api.Want{From: b.ks[6].Root(), Block: b.ground().Genesis})
	b.kinds("the same again", b.change(c, api.ErrParent))
	same(t, "the round", b.n.Round(), 1)
	b.reply(plain[0], nil)
	b.kinds("the Change behind the answer", b.change(c, nil))
	same(t, "the epoch", b.n.Ground().Epoch, 2)
	same(t, "the commits", b.n.Commits(), ids(plain[0], end))
}

// P21.1: messages of an epoch to come: all are asked, once.
func TestEpochToCome(t *testing.T) {
	for i := range 3 {
		b := seven(t, 6)
		tell := []func() []sent{
			func() []sent { return b.vote(craft.Vote(b.ks, 2, 1, craft.Digest(1), 0), api.ErrEpoch) },
			func() []sent {
				return b.timeout(craft.Timeout(b.ks, 9, 1, api.QC{Epoch: 9}, api.TC{}, 0), api.ErrEpoch)
			},
			func() []sent {
				return b.proposal(craft.Proposal(b.ks, api.Block{Epoch: 2, Round: 1}, api.TC{}, 1), api.ErrEpoch)
			},
		}
		before := b.look()
		got := tell[i]()
		b.kinds("a message of an epoch to come", got, kind(api.KindWant, everyone))
		same(t, "what is asked", got[0].m.Want, api.Want{From: b.ks[6].Root(), Block: b.ground().Genesis})
		for _, again := range tell {
			b.kinds("another one", again())
		}
		same(t, "the node", b.look(), before)
		for range 4 {
			b.n.Tick()
		}
		b.kinds("another one behind four ticks", tell[i](), kind(api.KindWant, everyone))
	}
}

// P21.1: of blocks that are committed at once the first one with Next ends the epoch: the others aren't looked at, and nothing proves it.
func TestEndWithinARow(t *testing.T) {
	b := seven(t, 6)
	end := craft.Child(b.first(), 1)
	end.Next = craft.Validators(b.ks)
	list := append([]api.Block{end}, b.row(b.certify(end), 3, 4, 5, 6)...)
	b.follow(list[:4])
	same(t, "the commits", b.n.Commits(), ids())
	b.proposal(craft.Proposal(b.ks, list[4], api.TC{}, 6), nil)
	b.isIn(b.second(end))
	same(t, "the commits", b.n.Commits(), ids(end))
	b.kinds("a timeout of the epoch that ended", b.timeout(craft.Timeout(b.ks, 1, 1, b.first(), api.TC{}, 4), api.ErrEpoch))
	b.kinds("one who asks", b.want(b.ks[2].Root(), b.ground().Genesis, nil), kind(api.KindReply, 2))
}

// P21.1: MaxProofs Changes are kept, the last ones.
func TestMaxProofs(t *testing.T) {
	ks := craft.Keys(4)
	v := craft.Validators(ks[:3])
	b := startWith(t, ks, v, 3)
	g := b.ground()
	var grounds []proofs.Ground
	for range 9 {
		q := api.QC{Epoch: g.Epoch, Block: g.Genesis}
		var c api.Change
		for i := range c.Blocks {
			x := craft.Child(q, 1+i)
			if i == 0 {
				x.Next = v
			}
			c.Blocks[i], q = x, craft.Certify(ks, x, 0, 1, 2)
		}
		c.QC = q
		b.kinds("a Change", b.change(c, nil))
		grounds = append(grounds, g)
		var err error
		g, err = epochs.Next(g, craft.ID(c.Blocks[0]), v)
		must(t, err)
		b.isIn(g)
	}
	for i, old := range grounds {
		x := craft.Timeout(ks, old.Epoch, 1, api.QC{Epoch: old.Epoch, Block: old.Genesis}, api.TC{}, 2)
		got := b.timeout(x, api.ErrEpoch)
		if i < 1 {
			b.kinds("a timeout of an epoch long ago", got)
			continue
		}
		b.kinds("a timeout of an epoch that ended", got, kind(api.KindChange, 2))
		same(t, "the Change's epoch", got[0].m.Change.QC.Epoch, old.Epoch)
	}
}

// P21.1: a ledger that is full: what was appended stays, the tree begins with it, and the error is told.
func TestFullLedger(t *testing.T) {
	for room := range 2 {
		ks := craft.Keys(7)
		v := craft.Validators(ks, 10, 10, 10)
		b := &bench{T: t, ks: ks, v: v, me: 1}
		list := b.row(b.first(), 2, 4, 5, 6, 7)
		d, err := disk.New(2 + 2 + room*probe(t, list[0], list[1].Justify))
		must(t, err)
		b.d = d
		b.n, err = node.Format(d, ks[1], v)
		must(t, err)
		b.follow(list[:4])
		b.kinds("a proposal that commits two", b.proposal(b.propose(list[4]), api.ErrFull))
		same(t, "the commits", b.n.Commits(), ids(list[:room]...))
		tree := append([]api.Digest{b.ground().Genesis}, ids(list[:4]...)...)
		same(t, "the tree", b.n.Tree(), tree[room:])
		same(t, "the round", b.n.Round(), 7)
		b.kinds("a timeout with a QC that commits", b.timeout(craft.Timeout(ks, 1, 7, list[4].Justify, api.TC{}, 4), api.ErrFull))
		x := craft.Child(api.QC{Epoch: 9}, 1)
		b.kinds("a proposal of an epoch to come", b.proposal(craft.Proposal(ks, x, api.TC{}, 1), api.ErrEpoch), kind(api.KindWant, everyone))
		b.kinds("a reply that commits", b.reply(list[4], api.ErrFull))
	}
}

// P21.1: a timeout by whose QC the epoch ends isn't counted in the next one; a reply's block isn't added to its tree.
func TestNothingGoesOver(t *testing.T) {
	b := seven(t, 6)
	list := b.ending(craft.Validators(b.ks, 10, 10, 10))
	b.follow(list[:3])
	b.timeout(craft.Timeout(b.ks, 1, 4, list[3].Justify, api.TC{}, 4), nil)
	g := b.second(list[0])
	b.isIn(g)
	q := craft.QC(b.ks, 2, 3, craft.Digest(5), 0, 1, 2)
	b.timeout(craft.Timeout(b.ks, 2, 4, q, api.TC{}, 4), nil)
	same(t, "the round", b.n.Round(), 4)

	b = seven(t, 6)
	b.proposal(craft.Proposal(b.ks, craft.Child(api.QC{Epoch: 2}, 1), api.TC{}, 1), api.ErrEpoch)
	for _, x := range list {
		b.reply(x, nil)
	}
	b.isIn(g)
	b.kinds("a reply in the next epoch", b.reply(list[3], api.ErrNone))
}

// probe is how many sectors a record needs.
func probe(t *testing.T, x api.Block, q api.QC) int {
	t.Helper()
	d, err := disk.New(400)
	must(t, err)
	l, err := ledger.Format(d, 0)
	must(t, err)
	before := l.Free()
	must(t, l.Append(x, q))
	return before - l.Free()
}

// P21.1: Open behind blocks without Next: from the last one on.
func TestOpen(t *testing.T) {
	b := seven(t, 6)
	list := b.row(b.first(), 1, 2, 3, 4, 5)
	b.reopen()
	b.isIn(b.ground())
	_, err := b.n.Submit([]byte("waits"))
	must(t, err)
	b.follow(list)
	b.reopen()
	same(t, "the ground", b.n.Ground(), b.ground())
	same(t, "the round", b.n.Round(), 3)
	same(t, "High", b.n.High(), list[2].Justify)
	same(t, "the tree", b.n.Tree(), ids(list[1]))
	same(t, "the commits", b.n.Commits(), ids(list[:2]...))
	same(t, "how many wait", b.n.Waits(), 0)
	same(t, "the state", b.n.State(), state(5, 3, 0, 5))
	b.kinds("a vote of a round that it voted in", b.proposal(b.propose(list[2]), nil))
	b.tick(nil)
	got := b.tick(nil)
	b.kinds("a round that lasts", got, kind(api.KindTimeout, everyone))
	same(t, "its QC", got[0].m.Timeout.High, list[2].Justify)
	for n, e := range []error{nil, api.ErrPower} {
		if n == 1 {
			b.d.Arm(0)
			b.d.Sync()
		}
		if x, err := node.Open(b.d, b.ks[6], b.v); err != e || e != nil && x != nil {
			t.Errorf("Open answers %v, %v", x, err)
		}
	}
}

// P21.1: Open behind a block with Next: the next epoch; the guard enters it, if it hadn't.
func TestOpenBehindAnEpoch(t *testing.T) {
	b := seven(t, 6)
	list := b.ending(craft.Validators(b.ks[3:]))
	b.follow(list)
	g := b.second(list[0])
	b.reopen()
	b.isIn(g)
	same(t, "the state", b.n.State(), rules.State{Epoch: 2, Leaf: 3})
	b.spend(rules.State{Epoch: 1, Voted: 3, Leaf: 9})
	b.isIn(g)
	same(t, "the state", b.n.State(), rules.State{Epoch: 2, Leaf: 9})
	b.reopen()
	same(t, "the state behind a crash", b.n.State(), rules.State{Epoch: 2, Leaf: 9})
	x := craft.Child(api.QC{Epoch: 2, Block: g.Genesis}, 1)
	y := craft.Child(craft.Certify(b.ks[3:], x, 0, 1, 2, 3), 2)
	l, err := ledger.Open(b.d, 2)
	must(t, err)
	must(t, l.Append(x, y.Justify))
	b.reopen()
	same(t, "the ground", b.n.Ground(), g)
	same(t, "the round", b.n.Round(), 2)
	same(t, "the tree", b.n.Tree(), ids(x))
	same(t, "High", b.n.High(), y.Justify)
}

// P21.1: Open behind a block whose Next is one validator.
func TestOpenBehindOne(t *testing.T) {
	b := seven(t, 6)
	list := b.ending(craft.Validators(b.ks[4:5]))
	b.follow(list)
	b.isIn(b.second(list[0]))
	b.reopen()
	b.isIn(b.second(list[0]))
}

// closed puts a state on a disk and answers what Open has of it.
func closed(t *testing.T, d *disk.Disk, k *keys.Key, v []api.Validator, s rules.State) (*node.Node, error) {
	t.Helper()
	x, err := slots.Open(d, 0)
	must(t, err)
	form, err := s.Bytes()
	must(t, err)
	must(t, x.Put(form))
	return node.Open(d, k, v)
}

// P21.1: disks that Open refuses.
func TestOpenOfWrongDisks(t *testing.T) {
	b := seven(t, 6)
	fresh, err := disk.New(50)
	must(t, err)
	if n, err := node.Open(fresh, b.ks[6], b.v); err != api.ErrDisk || n != nil {
		t.Errorf("Open of a fresh disk answers %v, %v", n, err)
	}
	if n, err := closed(t, b.d, b.ks[6], b.v, rules.State{Epoch: 2}); err != api.ErrDisk || n != nil {
		t.Errorf("Open with a guard of epoch 2 answers %v, %v", n, err)
	}
	if n, err := closed(t, b.d, b.ks[6], b.v, rules.State{Epoch: 0}); err != nil || n.State().Epoch != 1 {
		t.Errorf("Open with a guard of epoch 0 answers %v", err)
	}
	x := b.row(b.first(), 1)[0]
	for name, c := range map[string]struct {
		block api.Block
	}{
		"wrong validators":  {api.Block{Epoch: 1, Round: 1, Next: []api.Validator{{}}}},
		"rounds at the end": {api.Block{Epoch: 1, Round: api.MaxRound}},
	} {
		w := seven(t, 6)
		l, err := ledger.Open(w.d, 2)
		must(t, err)
		must(t, l.Append(x, b.certify(x)))
		must(t, l.Append(c.block, api.QC{Epoch: 1, Round: c.block.Round, Block: craft.ID(c.block)}))
		if n, err := node.Open(w.d, b.ks[6], b.v); err != api.ErrDisk || n != nil {
			t.Errorf("Open of a ledger with %s answers %v, %v", name, n, err)
		}
	}
	w := seven(t, 6)
	must(t, w.d.Write(2, [64]byte{1}))
	if n, err := node.Open(w.d, b.ks[6], b.v); err != api.ErrDisk || n != nil {
		t.Errorf("Open of a broken ledger answers %v, %v", n, err)
	}
	must(t, w.d.Write(0, [64]byte{1}))
	must(t, w.d.Write(1, [64]byte{1}))
	if n, err := node.Open(w.d, b.ks[6], b.v); err != api.ErrDisk || n != nil {
		t.Errorf("Open of a broken guard answers %v, %v", n, err)
	}
	w = seven(t, 6)
	w.follow(w.ending(craft.Validators(b.ks)))
	w.spend(rules.State{Epoch: 1})
	w.spend(rules.State{Epoch: 2})
	s, err := slots.Open(w.d, 0)
	must(t, err)
	form, err := rules.State{Epoch: 1}.Bytes()
	must(t, err)
	must(t, s.Put(form))
	w.d.Arm(1)
	if n, err := node.Open(w.d, b.ks[6], b.v); err != api.ErrPower || n != nil {
		t.Errorf("Open without power to enter the epoch answers %v, %v", n, err)
	}
}

// P21.1 to P21.3: wherever the power goes, and whatever is kept: behind Open the state covers what was signed, the commits are those that were told, or one more.
func TestPowerGoes(t *testing.T) {
	ks := craft.Keys(7)
	v := craft.Validators(ks, 10, 10, 10)
	plan := &bench{T: t, ks: ks, v: v}
	list := plan.row(plan.first(), 1, 2, 3, 4, 5)
	end := craft.Child(plan.certify(list[4]), 6, []byte("end"))
	end.Next = v
	list = append(append(list, end), plan.row(plan.certify(end), 7, 8, 9)...)
	for lasts := 0; ; lasts += 1 + lasts/40 {
		for keep := range 3 {
			b := startWith(t, ks, v, 6)
			b.d.Arm(lasts)
			voted := 0
			signed := rules.State{}
			var commits []api.Digest
			for _, x := range list {
				outs, err := b.n.Deliver(encode(t, craft.Proposal(ks, x, api.TC{}, x.Round%7)))
				for _, s := range b.read(outs) {
					if s.m.Kind == api.KindVote {
						voted = s.m.Vote.Round
					}
				}
				if err == nil {
					signed = b.n.State()
				}
				commits = b.n.Commits()
			}
			off := b.d.Off()
			var kept []bool
			for i := range b.d.Unsynced() {
				kept = append(kept, keep == 1 || keep == 2 && i%2 == 0)
			}
			b.reopen(kept...)
			if !b.n.State().Covers(signed) || b.n.State().Epoch == 1 && b.n.State().Voted < voted {
				t.Fatalf("with %d operations, keeping %v, the state is %v behind %v, a vote in %d", lasts, kept, b.n.State(), signed, voted)
			}
			now := b.n.Commits()
			if len(now) < len(commits) || len(now) > len(commits)+1 || fmt.Sprint(now[:len(commits)]) != fmt.Sprint(commits) {
				t.Fatalf("with %d operations, keeping %v, there are %d commits behind %d", lasts, kept, len(now), len(commits))
			}
			if !off {
				return
			}
		}
	}
}

// P21.1: an epoch that can't be entered, for the power goes: the block with Next is committed, and Open goes on behind it.
func TestPowerGoesAtTheEnd(t *testing.T) {
	ended := 0
	for lasts := range 200 {
		b := seven(t, 6)
		list := b.ending(craft.Validators(b.ks))
		b.follow(list[:3])
		b.d.Arm(lasts)
		outs, err := b.n.Deliver(encode(t, b.propose(list[3])))
		if err == nil {
			break
		}
		if err != api.ErrPower || outs != nil {
			t.Fatalf("with %d operations the end of an epoch answers %v, %v", lasts, outs, err)
		}
		same(t, "the epoch", b.n.Ground().Epoch, 1)
		root := b.ground().Genesis
		if len(b.n.Commits()) == 1 {
			root = craft.ID(list[0])
			ended++
		}
		same(t, "the tree's root", b.n.Tree()[0], root)
		commits := len(b.n.Commits())
		b.reopen()
		same(t, "the commits behind Open", len(b.n.Commits()), commits)
		same(t, "the epoch behind Open", b.n.Ground().Epoch, 1+commits)
		same(t, "the guard's epoch", b.n.State().Epoch, 1+commits)
	}
	if ended != 2 {
		t.Errorf("the power goes %d times between the commit and the epoch", ended)
	}
}

// encode is a proposal's bytes.
func encode(t *testing.T, p api.Proposal) []byte {
	t.Helper()
	data, err := codec.Encode(api.Message{Kind: api.KindProposal, Proposal: p})
	must(t, err)
	return data
}
