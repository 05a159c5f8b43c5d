package world_test

import (
	"slices"
	"testing"

	"quorate/api"
	"quorate/codec"
	"quorate/craft"
	"quorate/keys"
	"quorate/world"
)

// plot is bad nodes that work together: they see all messages, choose which ones come where, and vote for everything.
type plot struct {
	*testing.T
	w     *world.World
	ks    []*keys.Key
	bad   []int
	votes map[api.Digest][]api.Signed
	lates map[int][]api.Late // by round
	high  api.QC             // the last one that a late word came with
	last  api.TC             // and the TC
	top   api.Block          // the block that was proposed last
}

func plotting(t *testing.T, n int, bad ...int) *plot {
	t.Helper()
	return &plot{T: t, w: fresh(t, ones(n), bad...), ks: craft.Keys(n), bad: bad, votes: map[api.Digest][]api.Signed{}, lates: map[int][]api.Late{}}
}

// first is the QC of the first genesis.
func (p *plot) first() api.QC {
	return api.QC{Epoch: 1, Block: craft.ID(api.Block{Epoch: 1})}
}

// leader is who leads a round.
func (p *plot) leader(round int) int {
	return round % len(p.ks)
}

// raw tells nodes a message; whatever they answer.
func (p *plot) raw(m api.Message, to ...int) {
	p.Helper()
	data, err := codec.Encode(m)
	must(p.T, err)
	for _, i := range to {
		p.w.Do(world.Op{Kind: world.Raw, Node: i, Data: data})
	}
}

// support lets all bad nodes vote for a block, and remembers their votes; the leader is told, if it is one of some.
func (p *plot) support(b api.Block, some ...int) {
	p.Helper()
	id := craft.ID(b)
	for _, i := range p.bad {
		v := craft.Vote(p.ks, b.Epoch, b.Round, id, i)
		p.votes[id] = append(p.votes[id], v.From)
		if leader := p.leader(b.Round + 1); slices.Contains(some, leader) {
			p.raw(api.Message{Kind: api.KindVote, Vote: v}, leader)
		}
	}
}

// propose is a proposal of a bad leader's for some.
func (p *plot) propose(b api.Block, last api.TC, to ...int) {
	p.Helper()
	m := api.Message{Kind: api.KindProposal, Proposal: craft.Proposal(p.ks, b, last, p.leader(b.Round))}
	p.support(b, to...)
	p.raw(m, to...)
}

// see remembers what a message says.
func (p *plot) see(m api.Message) {
	switch m.Kind {
	case api.KindVote:
		p.votes[m.Vote.Block] = append(p.votes[m.Vote.Block], m.Vote.From)
	case api.KindTimeout:
		x := m.Timeout
		p.high, p.last = x.High, x.Last
		p.lates[x.Round] = append(p.lates[x.Round], api.Late{Who: x.From.Who, High: x.High.Round, Sig: x.From.Sig})
	case api.KindProposal:
		p.top = m.Proposal.Block
		if len(p.votes[craft.ID(p.top)]) == 0 {
			p.support(p.top, p.leader(p.top.Round+1))
		}
	}
}

// pump takes all messages off their way; those that keep says are delivered.
func (p *plot) pump(keep func(to int, m api.Message) bool) {
	p.Helper()
	for n := 0; p.w.Pending() > 0 && n < 3000; n++ {
		to, data := p.w.Message(0)
		m, err := codec.Decode(data)
		must(p.T, err)
		p.see(m)
		kind := world.Drop
		if keep(to, m) {
			kind = world.Deliver
		}
		p.w.Do(world.Op{Kind: kind})
	}
}

// among keeps what is for some.
func among(who ...int) func(int, api.Message) bool {
	return func(to int, _ api.Message) bool { return slices.Contains(who, to) }
}

// qc is the QC of a block by all votes that were seen.
func (p *plot) qc(b api.Block) api.QC {
	id := craft.ID(b)
	q := api.QC{Epoch: b.Epoch, Round: b.Round, Block: id}
	for i := range p.ks {
		if at := slices.IndexFunc(p.votes[id], func(s api.Signed) bool { return s.Who == i }); at >= 0 {
			q.Votes = append(q.Votes, p.votes[id][at])
		}
	}
	return q
}

// tc is the TC of a round by all late words that were seen, those of the bad ones among them.
func (p *plot) tc(round int) api.TC {
	t := api.TC{Epoch: 1, Round: round}
	for i := range p.ks {
		if at := slices.IndexFunc(p.lates[round], func(l api.Late) bool { return l.Who == i }); at >= 0 {
			t.Lates = append(t.Lates, p.lates[round][at])
		}
	}
	return t
}

// fail lets a round fail for some: they tick until they tell so, and the bad ones join in.
func (p *plot) fail(round int, who ...int) {
	p.Helper()
	for n := 0; len(p.lates[round]) < len(who) && n < 20; n++ {
		for _, i := range who {
			do(p.T, p.w, world.Op{Kind: world.Tick, Node: i})
		}
		p.pump(among(who...))
	}
	for _, i := range p.bad {
		x := craft.Timeout(p.ks, 1, round, p.high, p.last, i)
		p.see(api.Message{Kind: api.KindTimeout, Timeout: x})
		p.raw(api.Message{Kind: api.KindTimeout, Timeout: x}, who...)
	}
	p.pump(among(who...))
	for _, i := range who {
		if r := p.w.Node(i).Round(); r <= round {
			p.Fatalf("node %d is in round %d still", i, r)
		}
	}
}

// tell tells some a QC, with a bad one's late word.
func (p *plot) tell(q api.QC, to ...int) {
	p.Helper()
	p.raw(api.Message{Kind: api.KindTimeout, Timeout: craft.Timeout(p.ks, 1, q.Round+1, q, api.TC{}, p.bad[0])}, to...)
}

// P1: what one node committed, and the others are locked on, isn't left again, though a bad leader, with right proofs, proposes beside it.
func TestLocked(t *testing.T) {
	p := plotting(t, 4, 1)
	b := craft.Child(p.first(), 1, []byte("b"))
	p.propose(b, api.TC{}, 0, 2, 3)
	p.pump(func(_ int, m api.Message) bool { return m.Kind != api.KindProposal || m.Proposal.Block.Round < 4 })
	same(t, "the commits", commits(p.w), []int{1, 0, 0})
	p.fail(3, 2, 3)
	p.fail(4, 2, 3)
	c := craft.Child(p.first(), 5, []byte("c"))
	p.propose(c, p.tc(4), 2, 3)
	for _, i := range []int{2, 3} {
		n := p.w.Node(i)
		if !slices.Contains(n.Tree(), craft.ID(c)) || n.Round() != 5 {
			t.Errorf("node %d is in round %d, and has the tree %x", i, n.Round(), n.Tree())
		}
	}
	all := func(int, api.Message) bool { return true }
	for range 40 {
		p.pump(all)
		for _, i := range []int{0, 2, 3} {
			p.w.Do(world.Op{Kind: world.Tick, Node: i})
		}
		if !p.w.Same() {
			t.Fatal("commits don't go together")
		}
	}
	for i, n := range commits(p.w) {
		if n == 0 {
			t.Errorf("of the good nodes the one at %d has no commits", i)
		}
	}
}

// P1: bad leaders tell unlike blocks to two halves, and vote for both: only one of them gets its quorums.
func TestTwoHalves(t *testing.T) {
	p := plotting(t, 7, 1, 2)
	a, b := []int{0, 5, 6}, []int{3, 4}
	x, y := craft.Child(p.first(), 1, []byte("x")), craft.Child(p.first(), 1, []byte("y"))
	p.propose(x, api.TC{}, a...)
	p.propose(y, api.TC{}, b...)
	p.pump(among())
	x2, y2 := craft.Child(p.qc(x), 2, []byte("x2")), craft.Child(p.qc(y), 2, []byte("y2"))
	p.propose(x2, api.TC{}, a...)
	p.propose(y2, api.TC{}, b...)
	p.pump(func(to int, m api.Message) bool {
		return slices.Contains(b, to) && (m.Kind != api.KindVote || m.Vote.Block != craft.ID(x2))
	})
	p.tell(p.qc(x2), a...)
	p.pump(among(a...))
	p.fail(3, a...)
	p.fail(4, a...)
	same(t, "the round of the last proposal", p.top.Round, 7)
	p.tell(p.qc(p.top), a...)
	for _, i := range a {
		same(t, "how many commits one half has", len(p.w.Node(i).Commits()), 3)
	}
	if !p.w.Same() {
		t.Error("commits don't go together")
	}
	for _, i := range b {
		same(t, "how many commits the other half has", len(p.w.Node(i).Commits()), 0)
	}
}
