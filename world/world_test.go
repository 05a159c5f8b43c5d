package world_test

import (
	"fmt"
	"slices"
	"testing"

	"quorate/api"
	"quorate/codec"
	"quorate/craft"
	"quorate/powers"
	"quorate/world"
)

// P22.1: the kinds' numbers.
func TestKinds(t *testing.T) {
	same(t, "the kinds", []int{world.Deliver, world.Drop, world.Copy, world.Tick, world.Submit, world.Reconf, world.Arm, world.Crash, world.Raw, world.Forge},
		[]int{1, 2, 3, 4, 5, 6, 7, 8, 9, 10})
}

// P22.1: New.
func TestNew(t *testing.T) {
	for n := 1; n <= 7; n++ {
		for _, bad := range []int{-1, n / 2} {
			is := make([]bool, n)
			if bad >= 0 {
				is[bad] = true
			}
			w, err := world.New(seeds(n), ones(n), is, 3)
			must(t, err)
			var want []api.Digest
			for i, k := range craft.Keys(n) {
				want = append(want, k.Root())
				if w.Bad(i) != (i == bad) || (w.Node(i) == nil) != (i == bad) {
					t.Errorf("of %d nodes, %d being bad, node %d is %v, bad %v", n, bad, i, w.Node(i), w.Bad(i))
				}
				if x := w.Node(i); x != nil {
					same(t, "the validators", x.Ground().Validators, craft.Validators(craft.Keys(n)))
					same(t, "the place", x.Place(), i)
				}
			}
			same(t, "the keys", w.Keys(), want)
			same(t, "how many messages are on their way", w.Pending(), 0)
			if !w.Same() {
				t.Error("Same is no")
			}
		}
	}
}

// P22.1: New's errors, in their order.
func TestNewOfWrongThings(t *testing.T) {
	for i, c := range []struct {
		seeds   []api.Digest
		powers  []int
		bad     []bool
		sectors int
		want    error
	}{
		{seeds(4), ones(3), make([]bool, 4), 10, api.ErrRange}, {seeds(4), ones(4), make([]bool, 5), 10, api.ErrRange},
		{seeds(3), ones(4), make([]bool, 4), 10, api.ErrRange}, {nil, ones(1), nil, 10, api.ErrRange}, {nil, nil, make([]bool, 1), 10, api.ErrRange},
		{seeds(9), ones(8), make([]bool, 9), 10, api.ErrRange},
		{nil, nil, nil, 10, api.ErrSet}, {seeds(8), ones(8), make([]bool, 8), 10, api.ErrSet}, {seeds(2), []int{1, 0}, make([]bool, 2), 10, api.ErrSet},
		{seeds(2), []int{1, api.MaxPower + 1}, make([]bool, 2), 10, api.ErrSet}, {slices.Repeat(seeds(1), 2), ones(2), make([]bool, 2), 10, api.ErrSet},
		{seeds(2), []int{1, -1}, make([]bool, 2), 0, api.ErrSet},
		{seeds(2), ones(2), make([]bool, 2), 0, api.ErrRange}, {seeds(2), ones(2), make([]bool, 2), -1, api.ErrRange},
		{seeds(2), ones(2), make([]bool, 2), 4097, api.ErrRange}, {seeds(2), ones(2), make([]bool, 2), 1, api.ErrRange},
		{seeds(2), ones(2), make([]bool, 2), 2, api.ErrRange}, {seeds(1), ones(1), []bool{true}, 4097, api.ErrRange},
	} {
		if w, err := world.New(c.seeds, c.powers, c.bad, c.sectors); err != c.want || w != nil {
			t.Errorf("case %d: New answers %v, %v, want %v", i, w, err, c.want)
		}
	}
	if _, err := world.New(seeds(1), ones(1), []bool{true}, 1); err != nil {
		t.Errorf("a bad node on one sector: New answers %v", err)
	}
}

// P22.1: what a node sends to all goes to the validators of its ground but itself, in their order; what it sends to a key goes there.
func TestMailOrder(t *testing.T) {
	w := fresh(t, ones(4), 3)
	do(t, w, world.Op{Kind: world.Tick, Node: 1})
	same(t, "what is on its way", mail(t, w), "3>0 3>2 3>3 1>2 ")
	do(t, w, world.Op{Kind: world.Tick, Node: 0})
	do(t, w, world.Op{Kind: world.Tick, Node: 0})
	same(t, "what is on its way", mail(t, w), "3>0 3>2 3>3 1>2 2>1 2>2 2>3 ")
	to, data := w.Message(4)
	if m, err := codec.Decode(data); err != nil || to != 1 || m.Timeout.From.Who != 0 {
		t.Errorf("the fifth message is for %d, %v, %v", to, m, err)
	}
	clear(data)
	same(t, "what is on its way", mail(t, w), "3>0 3>2 3>3 1>2 2>1 2>2 2>3 ")
	for _, i := range []int{-1, 7, 8, -1 << 63, 1<<63 - 1} {
		if to, data := w.Message(i); to != -1 || data != nil {
			t.Errorf("Message(%d) answers %d, %v", i, to, data)
		}
	}
}

// P22.1: messages are delivered, dropped and copied by their places.
func TestDeliverDropCopy(t *testing.T) {
	w := fresh(t, ones(4), 3)
	do(t, w, world.Op{Kind: world.Tick, Node: 1})
	do(t, w, world.Op{Kind: world.Copy, N: 1})
	same(t, "behind Copy there is", mail(t, w), "3>0 3>2 3>3 1>2 3>2 ")
	do(t, w, world.Op{Kind: world.Drop, N: 1})
	same(t, "behind Drop there is", mail(t, w), "3>0 3>3 1>2 3>2 ")
	do(t, w, world.Op{Kind: world.Deliver, N: 1})
	same(t, "behind a delivery to a bad node there is", mail(t, w), "3>0 1>2 3>2 ")
	same(t, "the second node's round", w.Node(2).Round(), 1)
	do(t, w, world.Op{Kind: world.Deliver, N: 2})
	same(t, "behind a delivery there is", mail(t, w), "3>0 1>2 ")
	same(t, "its tree", len(w.Node(2).Tree()), 2)
	do(t, w, world.Op{Kind: world.Deliver})
	same(t, "behind another one there is", mail(t, w), "1>2 1>2 ")
	do(t, w, world.Op{Kind: world.Copy, N: 0})
	do(t, w, world.Op{Kind: world.Deliver, N: 0})
	same(t, "behind two votes and its own there is", mail(t, w), "1>2 1>2 ")
	do(t, w, world.Op{Kind: world.Deliver, N: 0})
	same(t, "behind the third vote there is", mail(t, w), "1>2 3>0 3>1 3>3 1>3 ")
	if err := w.Do(world.Op{Kind: world.Deliver}); err != nil && err != api.ErrTwice {
		t.Errorf("a vote again answers %v", err)
	}
}

// P22.1: an op's error is that of the node's step; what was sent ahead of it is on its way.
func TestErrors(t *testing.T) {
	w := fresh(t, ones(4))
	for i, c := range []struct {
		o    world.Op
		want error
	}{
		{world.Op{Kind: world.Submit}, api.ErrForm}, {world.Op{Kind: world.Submit, Data: []byte("a")}, nil}, {world.Op{Kind: world.Submit, Data: []byte("a")}, api.ErrTwice},
		{world.Op{Kind: world.Raw}, api.ErrShort}, {world.Op{Kind: world.Raw, Data: []byte{7}}, api.ErrForm},
		{world.Op{Kind: world.Reconf}, api.ErrSet}, {world.Op{Kind: world.Reconf, Set: []int{0, 0, -1}}, api.ErrSet}, {world.Op{Kind: world.Reconf, Set: []int{api.MaxPower + 1}}, api.ErrSet},
		{world.Op{Kind: world.Reconf, Set: []int{0, 0, 0, 0, 5}}, api.ErrSet}, {world.Op{Kind: world.Reconf, Set: []int{1}}, nil},
		{world.Op{Kind: world.Arm}, nil}, {world.Op{Kind: world.Tick}, nil}, {world.Op{Kind: world.Tick}, api.ErrPower}, {world.Op{Kind: world.Tick}, api.ErrPower},
		{world.Op{Kind: world.Crash}, nil}, {world.Op{Kind: world.Tick}, nil},
	} {
		if err := w.Do(c.o); err != c.want {
			t.Errorf("op %d answers %v, want %v", i, err, c.want)
		}
	}
	bad, err := codec.Encode(api.Message{Kind: api.KindVote, Vote: craft.Vote(craft.Keys(4), 9, 1, craft.Digest(1), 0)})
	must(t, err)
	if err := w.Do(world.Op{Kind: world.Raw, Node: 2, Data: bad}); err != api.ErrEpoch {
		t.Errorf("a vote of an epoch to come answers %v", err)
	}
	same(t, "what is on its way", mail(t, w), "4>0 4>1 4>3 ")
}

// P22.1: ops that name what there isn't do nothing.
func TestNothing(t *testing.T) {
	w := fresh(t, ones(4), 3)
	do(t, w, world.Op{Kind: world.Tick, Node: 1})
	before := look(w)
	vote, err := codec.Encode(api.Message{Kind: api.KindVote})
	must(t, err)
	for kind := -1; kind <= 13; kind++ {
		for _, i := range []int{-1, 4, 5, 1 << 40, -1 << 63, 1<<63 - 1} {
			if kind != world.Deliver && kind != world.Drop && kind != world.Copy {
				do(t, w, world.Op{Kind: kind, Node: i, Set: []int{1}, Data: vote})
			} else {
				do(t, w, world.Op{Kind: kind, N: i, Data: vote})
			}
		}
		if kind != world.Deliver && kind != world.Drop && kind != world.Copy && kind != world.Forge {
			do(t, w, world.Op{Kind: kind, Node: 3, Set: []int{1}, Data: vote})
		}
	}
	for _, kind := range []int{0, -1, 11, 12, 1 << 40, -1 << 63, 1<<63 - 1} {
		do(t, w, world.Op{Kind: kind})
	}
	same(t, "the world", look(w), before)
	if w.Node(-1) != nil || w.Node(4) != nil || w.Node(3) != nil || w.Bad(-1) || w.Bad(4) || w.Bad(2) || !w.Bad(3) {
		t.Error("there are nodes that there aren't")
	}
}

// P22.1: Submit and Reconf tell a node, and Arm and Crash its disk.
func TestNodesOps(t *testing.T) {
	w := fresh(t, ones(4), 0)
	do(t, w, world.Op{Kind: world.Submit, Node: 1, Data: []byte("tx")})
	same(t, "how many wait", w.Node(1).Waits(), 1)
	_, data := w.Message(0)
	m, err := codec.Decode(data)
	must(t, err)
	same(t, "the payload", m.Proposal.Block.Payload, [][]byte{[]byte("tx")})
	do(t, w, world.Op{Kind: world.Crash, Node: 1})
	same(t, "how many wait behind a crash", w.Node(1).Waits(), 0)
	same(t, "its state", w.Node(1).State().Leaf, 2)

	w = fresh(t, ones(5), 0)
	do(t, w, world.Op{Kind: world.Reconf, Node: 1, Set: []int{3, 0, 2, -4, 7, 9, 9}})
	_, data = w.Message(0)
	m, err = codec.Decode(data)
	must(t, err)
	k := w.Keys()
	same(t, "Next", m.Proposal.Block.Next, []api.Validator{{Key: k[0], Power: 3}, {Key: k[2], Power: 2}, {Key: k[4], Power: 7}})
}

// P22.1: Arm counts operations of a disk that is on; Crash keeps what Keep says.
func TestArmAndCrash(t *testing.T) {
	for n := range 6 {
		for _, keep := range []bool{false, true} {
			w := fresh(t, ones(4))
			do(t, w, world.Op{Kind: world.Arm, Node: 1, N: n})
			err := w.Do(world.Op{Kind: world.Tick, Node: 1}) // a proposal and a vote: twice a write and a sync
			if n < 4 && err != api.ErrPower || n >= 4 && err != nil {
				t.Errorf("with %d operations a Tick answers %v", n, err)
			}
			do(t, w, world.Op{Kind: world.Arm, Node: 1, N: 100})
			if err := w.Do(world.Op{Kind: world.Tick, Node: 1}); n < 4 && err != api.ErrPower || n >= 4 && err != nil {
				t.Errorf("with %d operations, and then more, a Tick answers %v", n, err)
			}
			do(t, w, world.Op{Kind: world.Crash, Node: 1, Keep: []bool{keep, keep}})
			want := n / 2
			if keep && n%2 == 1 {
				want++
			}
			if n >= 4 {
				want = 3 // the second Tick tells that the round lasts
			}
			same(t, fmt.Sprintf("with %d operations, keeping %v, the leaf", n, keep), w.Node(1).State().Leaf, want)
			for range 3 {
				do(t, w, world.Op{Kind: world.Tick, Node: 1})
			}
		}
	}
	w := fresh(t, ones(4))
	do(t, w, world.Op{Kind: world.Arm, Node: 1, N: 0})
	do(t, w, world.Op{Kind: world.Arm, Node: 1, N: -1})
	do(t, w, world.Op{Kind: world.Tick, Node: 1})
}

// P22.1: Raw tells a node what isn't on its way.
func TestRaw(t *testing.T) {
	w := fresh(t, ones(4))
	ks := craft.Keys(4)
	b := craft.Child(api.QC{Epoch: 1, Block: w.Node(0).Ground().Genesis}, 1)
	data, err := codec.Encode(api.Message{Kind: api.KindProposal, Proposal: craft.Proposal(ks, b, api.TC{}, 1)})
	must(t, err)
	kept := slices.Clone(data)
	do(t, w, world.Op{Kind: world.Raw, Node: 0, Data: data})
	same(t, "what is on its way", mail(t, w), "1>2 ")
	same(t, "the bytes", data, kept)
}

// forged is a message of a kind, without signature, of the place who.
func forged(kind, who int, genesis api.Digest) api.Message {
	q := api.QC{Epoch: 1, Block: genesis}
	m := api.Message{Kind: kind}
	m.Vote = api.Vote{Epoch: 1, Round: 1, Block: craft.Digest(3), From: api.Signed{Who: who}}
	m.Timeout = api.Timeout{Epoch: 1, Round: 1, High: q, From: api.Signed{Who: who}}
	m.Proposal = api.Proposal{Block: craft.Child(q, 1), From: api.Signed{Who: who}}
	return m
}

// P22.1: Forge: a bad node's signature, for all that aren't bad.
func TestForge(t *testing.T) {
	ks := craft.Keys(5)
	for kind := 0; kind <= 7; kind++ {
		w := fresh(t, ones(5), 1, 3)
		g := w.Node(0).Ground()
		m := forged(kind, 1, g.Genesis)
		data, err := codec.Encode(m)
		if err != nil {
			data = []byte{byte(kind)}
		}
		kept := slices.Clone(data)
		for _, leaf := range []int{-1, 32, 1 << 40, -1 << 63} {
			do(t, w, world.Op{Kind: world.Forge, Node: 1, N: leaf, Data: data})
		}
		do(t, w, world.Op{Kind: world.Forge, Node: 0, N: 4, Data: data})
		do(t, w, world.Op{Kind: world.Forge, Node: 1, N: 4, Data: append(slices.Clone(data), 0)})
		do(t, w, world.Op{Kind: world.Forge, Node: 1, N: 4})
		same(t, "how many messages are on their way", w.Pending(), 0)
		do(t, w, world.Op{Kind: world.Forge, Node: 1, N: 4, Data: data})
		same(t, "the bytes", data, kept)
		if kind < 1 || kind > 3 {
			same(t, fmt.Sprint("of kind ", kind, " there is on its way"), w.Pending(), 0)
			continue
		}
		same(t, "what is on its way", mail(t, w), fmt.Sprintf("%d>0 %d>2 %d>4 ", kind, kind, kind))
		_, data = w.Message(2)
		got, err := codec.Decode(data)
		must(t, err)
		var from api.Signed
		switch kind {
		case 1:
			err, from = g.Vote(got.Vote), got.Vote.From
		case 2:
			err, from = g.Timeout(got.Timeout), got.Timeout.From
		case 3:
			err, from = g.Proposal(got.Proposal, 1), got.Proposal.From
		}
		if err != nil || from.Sig.Leaf != 4 || from.Who != 1 {
			t.Errorf("of kind %d there is forged %v, %v", kind, from, err)
		}
	}
	w := fresh(t, ones(5), 1, 3)
	q := craft.QC(ks, 1, 6, craft.Digest(8), 0, 1, 2, 3)
	m := api.Message{Kind: api.KindTimeout, Timeout: api.Timeout{Epoch: 1, Round: 7, High: q, From: api.Signed{Who: 3, Sig: api.Sig{Leaf: 9}}}}
	data, err := codec.Encode(m)
	must(t, err)
	do(t, w, world.Op{Kind: world.Forge, Node: 3, N: 31, Data: data})
	_, data = w.Message(0)
	got, err := codec.Decode(data)
	must(t, err)
	if err := w.Node(0).Ground().Timeout(got.Timeout); err != nil || got.Timeout.From.Sig.Leaf != 31 {
		t.Errorf("a forged timeout is %v, %v", got.Timeout.From.Sig.Leaf, err)
	}
	do(t, w, world.Op{Kind: world.Forge, Node: 1, N: 31, Data: data})
	_, data = w.Message(3)
	got, err = codec.Decode(data)
	must(t, err)
	if err := w.Node(0).Ground().Timeout(got.Timeout); err != api.ErrProof || got.Timeout.From.Who != 3 {
		t.Errorf("a timeout forged in another's name is answered by %v", err)
	}
}

// P22.1: 1000 messages at most are on their way.
func TestManyMessages(t *testing.T) {
	w := fresh(t, ones(4), 3)
	do(t, w, world.Op{Kind: world.Tick, Node: 1})
	for w.Pending() < 998 {
		do(t, w, world.Op{Kind: world.Copy, N: 2})
	}
	data, err := codec.Encode(forged(api.KindVote, 3, w.Node(0).Ground().Genesis))
	must(t, err)
	do(t, w, world.Op{Kind: world.Forge, Node: 3, N: 4, Data: data})
	same(t, "how many messages are on their way", w.Pending(), 1000)
	to, _ := w.Message(999)
	same(t, "whom the last one is for", to, 1)
	before := look(w)
	do(t, w, world.Op{Kind: world.Copy})
	do(t, w, world.Op{Kind: world.Forge, Node: 3, N: 4, Data: data})
	same(t, "the world", look(w), before)
	do(t, w, world.Op{Kind: world.Tick, Node: 0})
	do(t, w, world.Op{Kind: world.Tick, Node: 0})
	same(t, "how many messages are on their way", w.Pending(), 1000)
	same(t, "the state", w.Node(0).State().Leaf, 1)
	do(t, w, world.Op{Kind: world.Drop, N: 5})
	do(t, w, world.Op{Kind: world.Copy, N: 0})
	same(t, "how many messages are on their way", w.Pending(), 1000)
}

// P22.1: a calm of no steps does nothing; one of many has 100.
func TestCalmSteps(t *testing.T) {
	for _, c := range [][2]int{{0, 0}, {-1, 0}, {-1 << 63, 0}, {1, 0}, {2, 3}, {3, 0}, {4, 3}, {99, 0}, {100, 3}, {101, 3}, {1001, 3}, {1<<63 - 1, 3}} {
		w := fresh(t, ones(4), 1, 2, 3)
		w.Calm(c[0])
		same(t, fmt.Sprintf("behind Calm(%d) how many messages are on their way", c[0]), w.Pending(), c[1])
	}
	for _, steps := range []int{-1, 0, 1, 2, 3, 7} {
		w := fresh(t, ones(1))
		w.Calm(steps)
		same(t, "the round", w.Node(0).Round(), max(steps, 0)+1)
	}
}

// P22.1: a calm delivers the first message, and what that brings, until there is none, and then ticks.
func TestCalmDelivers(t *testing.T) {
	w, x := fresh(t, ones(4), 2), fresh(t, ones(4), 2)
	for range 6 {
		w.Calm(1)
		for n := 0; n < 2000 && x.Pending() > 0; n++ {
			x.Do(world.Op{Kind: world.Deliver})
		}
		for i := range 4 {
			x.Do(world.Op{Kind: world.Tick, Node: i})
		}
		same(t, "the world", look(w), look(x))
	}
}

// P22.1: a step of a calm delivers 2000 messages, if there are so many.
func TestCalmDeliversMany(t *testing.T) {
	w, end := over(t)
	late := craft.Timeout(craft.Keys(5), 1, 1, api.QC{Epoch: 1, Block: end}, api.TC{}, 4)
	data, err := codec.Encode(api.Message{Kind: api.KindTimeout, Timeout: late})
	must(t, err)
	do(t, w, world.Op{Kind: world.Forge, Node: 4, N: 1, Data: data})
	for w.Pending() < 1000 {
		do(t, w, world.Op{Kind: world.Copy})
	}
	w.Calm(1) // each of them is answered by a Change for the bad node
	same(t, "how many messages are on their way", w.Pending(), 0)
}

// over is a world of five, of whom the fifth is bad, in its second epoch, and the genesis of the first one.
func over(t *testing.T) (*world.World, api.Digest) {
	t.Helper()
	ks := craft.Keys(5)
	w := fresh(t, ones(5), 4)
	genesis := w.Node(0).Ground().Genesis
	q := api.QC{Epoch: 1, Block: genesis}
	var c api.Change
	for i := range c.Blocks {
		b := craft.Child(q, 1+i)
		if i == 0 {
			b.Next = craft.Validators(ks)
		}
		c.Blocks[i], q = b, craft.Certify(ks, b, 0, 1, 2, 3)
	}
	c.QC = q
	data, err := codec.Encode(api.Message{Kind: api.KindChange, Change: c})
	must(t, err)
	for i := range 4 {
		do(t, w, world.Op{Kind: world.Raw, Node: i, Data: data})
		same(t, "the epoch", w.Node(i).Ground().Epoch, 2)
	}
	for w.Pending() > 0 {
		do(t, w, world.Op{Kind: world.Drop})
	}
	return w, genesis
}

// P22.1: Same: nodes' commits go together, or not.
func TestSame(t *testing.T) {
	ks := craft.Keys(4)
	// tell lets a node commit blocks of a mark, so many of them.
	tell := func(w *world.World, who, mark, commits int) {
		q := api.QC{Epoch: 1, Block: w.Node(who).Ground().Genesis}
		for round := 1; round <= commits+3; round++ {
			b := craft.Child(q, round, []byte{byte(mark)})
			if round <= 1 {
				b.Payload = [][]byte{{9}}
			}
			data, err := codec.Encode(api.Message{Kind: api.KindProposal, Proposal: craft.Proposal(ks, b, api.TC{}, round%4)})
			must(t, err)
			do(t, w, world.Op{Kind: world.Raw, Node: who, Data: data})
			q = craft.Certify(ks, b, 0, 1, 2)
		}
		same(t, "how many commits there are", len(w.Node(who).Commits()), commits)
	}
	for _, c := range []struct {
		a, b, marks int
		want        bool
	}{{0, 0, 2, true}, {1, 1, 2, true}, {2, 1, 2, true}, {1, 3, 2, true}, {2, 2, 2, false}, {3, 2, 2, false}, {2, 3, 2, false}, {3, 3, 1, true}, {2, 3, 1, true}} {
		w := fresh(t, ones(4), 0, 2)
		tell(w, 1, 1, c.a)
		tell(w, 3, c.marks, c.b)
		if got := w.Same(); got != c.want {
			t.Errorf("of %d and %d commits, of %d marks, Same answers %v", c.a, c.b, c.marks, got)
		}
	}
	w := fresh(t, ones(4))
	tell(w, 0, 1, 2)
	tell(w, 2, 1, 3)
	tell(w, 3, 2, 2)
	if w.Same() {
		t.Error("of three nodes Same answers yes")
	}
}

// P22.1: a disk whose node is opened again and again stays as it is: nodes don't stop by crashes.
func TestCrashAgain(t *testing.T) {
	w := fresh(t, ones(4))
	w.Calm(3)
	for i := range 4 {
		before := w.Node(i).State()
		for range 3 {
			do(t, w, world.Op{Kind: world.Crash, Node: i})
		}
		same(t, "the state", w.Node(i).State(), before)
	}
	if !powers.Same(w.Node(0).Ground().Validators, craft.Validators(craft.Keys(4))) {
		t.Error("the validators are others behind crashes")
	}
}
