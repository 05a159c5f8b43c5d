package world_test

import (
	"fmt"
	"slices"
	"testing"

	"quorate/api"
	"quorate/codec"
	"quorate/craft"
	"quorate/disk"
	"quorate/keys"
	"quorate/node"
	"quorate/turns"
	"quorate/world"
)

// dice is numbers that look like chance, the same ones each time.
type dice uint32

func (d *dice) next(n int) int {
	*d = *d*1664525 + 1013904223
	return int(*d>>8) % n
}

// lie is a message that a bad node may want to tell: of what it has seen, somewhat otherwise.
func lie(d *dice, w *world.World, who int) []byte {
	if w.Pending() == 0 {
		return nil
	}
	_, data := w.Message(d.next(w.Pending()))
	m, err := codec.Decode(data)
	if err != nil {
		return nil
	}
	switch m.Kind {
	case api.KindVote:
		m.Vote.From.Who = who
		if d.next(2) == 0 {
			m.Vote.Round += d.next(3)
		}
	case api.KindTimeout:
		m.Timeout.From.Who = who
	case api.KindProposal:
		m.Proposal.From.Who = who
		m.Proposal.Block.Payload = [][]byte{{byte(d.next(200))}}
		if d.next(3) == 0 {
			m.Proposal.Block.Round++
		}
	default:
		return nil
	}
	out, _ := codec.Encode(m)
	return out
}

// anything is an op of any kind.
func anything(d *dice, w *world.World, bad int) world.Op {
	n := len(w.Keys())
	o := world.Op{Node: d.next(n)}
	if w.Pending() > 0 {
		o.N = d.next(w.Pending())
		if d.next(3) > 0 {
			o.N = 0
		}
	}
	switch k := d.next(40); {
	case k < 24:
		o.Kind = world.Deliver
	case k < 26:
		o.Kind = world.Drop
	case k < 28:
		o.Kind = world.Copy
	case k < 33:
		o.Kind = world.Tick
	case k < 35:
		o.Kind, o.Data = world.Submit, []byte{byte('a' + d.next(26))}
	case k == 35 && d.next(6) == 0:
		o.Kind, o.Set = world.Reconf, []int{1, 1, 1, 1 + d.next(2), 1}[:n]
	case k == 36:
		o.Kind, o.N = world.Arm, d.next(12)
	case k == 37:
		o.Kind, o.Keep = world.Crash, []bool{d.next(2) == 0, d.next(2) == 0, true}
	default:
		o.Kind, o.Node, o.N = world.Forge, max(bad, 0), d.next(api.Leaves)
		o.Data = lie(d, w, max(bad, 0))
	}
	return o
}

// P1 to P4: whatever happens, with a bad node and without one.
func TestWhateverHappens(t *testing.T) {
	total := 0
	for seed := range 24 {
		power := [][]int{{1, 1, 1, 1}, {1, 1, 1, 1, 1}, {3, 2, 2, 2}, {1}, {1, 1, 1}}[seed%5]
		bad := -1
		var list []int
		if len(power) > 3 && seed%2 == 0 {
			bad = seed / 2 % len(power)
			if power[bad] == 1 || power[bad] == 2 {
				list = []int{bad}
			} else {
				bad = -1
			}
		}
		w := fresh(t, power, list...)
		x := watching(t, w, power)
		d := dice(seed)
		for range 500 {
			x.do(anything(&d, w, bad))
		}
		for i := range power {
			if n := w.Node(i); n != nil {
				joined(t, w, n, x.first)
				total += len(n.Commits())
			}
		}
	}
	if total < 40 {
		t.Errorf("nodes have %d commits in all", total)
	}
}

// P1: a bad leader who tells unlike blocks of one round, and signs votes for all of them, lets nobody commit beside.
func TestTwoBlocksOfOneRound(t *testing.T) {
	for _, split := range []int{1, 2, 3} {
		power := ones(4)
		w := fresh(t, power, 1)
		x := watching(t, w, power)
		q := api.QC{Epoch: 1, Block: w.Node(0).Ground().Genesis}
		for mark := range 2 {
			b := craft.Child(q, 1, []byte{byte(mark)})
			p := api.Message{Kind: api.KindProposal, Proposal: api.Proposal{Block: b, From: api.Signed{Who: 1}}}
			data, err := codec.Encode(p)
			must(t, err)
			x.do(world.Op{Kind: world.Forge, Node: 1, N: mark, Data: data})
			v, err := codec.Encode(api.Message{Kind: api.KindVote, Vote: api.Vote{Epoch: 1, Round: 1, Block: craft.ID(b), From: api.Signed{Who: 1}}})
			must(t, err)
			x.do(world.Op{Kind: world.Forge, Node: 1, N: 2 + mark, Data: v})
		}
		for step := 0; w.Pending() > 0 && step < 400; step++ {
			x.do(world.Op{Kind: world.Deliver, N: step % split % w.Pending()})
			if step%40 == 39 {
				for i := range 4 {
					x.do(world.Op{Kind: world.Tick, Node: i})
				}
			}
		}
		if !w.Same() {
			t.Error("commits don't go together")
		}
	}
}

// P2: wherever a node's power goes, and whatever is kept, it signs nothing twice, and has what it told.
func TestPowerGoesAnywhere(t *testing.T) {
	for lasts := range 24 {
		power := ones(4)
		w := fresh(t, power)
		x := watching(t, w, power)
		who := lasts % 4
		x.do(world.Op{Kind: world.Arm, Node: who, N: lasts * 4})
		for step := range 150 {
			if w.Pending() > 0 {
				x.do(world.Op{Kind: world.Deliver})
			} else {
				x.do(world.Op{Kind: world.Tick, Node: step % 4})
			}
			if step == 110 {
				x.do(world.Op{Kind: world.Crash, Node: who, Keep: []bool{lasts%2 == 0, lasts%3 == 0, true, true, true}})
			}
		}
	}
}

// P2: nobody signs more often than a key has leaves.
func TestKeysAreSpent(t *testing.T) {
	power := ones(4)
	w := fresh(t, power)
	w.Calm(60)
	for i := range 4 {
		if n := w.Node(i).State().Leaf; n > api.Leaves || n < api.Leaves-1 {
			t.Errorf("node %d has the leaf %d", i, n)
		}
	}
	before := commits(w)
	w.Calm(20)
	same(t, "the commits", commits(w), before)
}

// P3: without bad nodes nothing is committed that nobody was told.
func TestNothingOfNobody(t *testing.T) {
	w := fresh(t, ones(4))
	told := []string{"one", "two", "three"}
	for i, tx := range told {
		do(t, w, world.Op{Kind: world.Submit, Node: i, Data: []byte(tx)})
	}
	w.Calm(12)
	for i := range 4 {
		for _, tx := range sequence(w.Node(i)) {
			if !slices.Contains(told, tx) {
				t.Errorf("node %d committed %q", i, tx)
			}
		}
	}
}

// mirror is the document's world once more: nodes of its own, and a plain list of messages.
type mirror struct {
	keys  []*keys.Key
	v     []api.Validator
	nodes []*node.Node
	disks []*disk.Disk
	to    []int
	data  [][]byte
}

// put puts what a node sent on its way.
func (m *mirror) put(from int, outs []node.Out) {
	for _, o := range outs {
		var list []int
		for i, k := range m.keys {
			if o.To == k.Root() {
				list = append(list, i)
			}
		}
		if o.To == (api.Digest{}) {
			for _, v := range m.nodes[from].Ground().Validators {
				for i, k := range m.keys {
					if i != from && v.Key == k.Root() {
						list = append(list, i)
					}
				}
			}
		}
		for _, i := range list {
			m.to, m.data = append(m.to, i), append(m.data, o.Data)
		}
	}
}

// do does an op of those that the test takes.
func (m *mirror) do(o world.Op) error {
	who, data := o.Node, o.Data
	if o.Kind == world.Deliver || o.Kind == world.Drop || o.Kind == world.Copy {
		who, data = m.to[o.N], m.data[o.N]
		if o.Kind == world.Copy {
			m.to, m.data = append(m.to, who), append(m.data, data)
			return nil
		}
		m.to, m.data = slices.Delete(slices.Clone(m.to), o.N, o.N+1), slices.Delete(slices.Clone(m.data), o.N, o.N+1)
	}
	var outs []node.Out
	var err error
	switch o.Kind {
	case world.Deliver:
		outs, err = m.nodes[who].Deliver(data)
	case world.Tick:
		outs, err = m.nodes[who].Tick()
	case world.Submit:
		outs, err = m.nodes[who].Submit(data)
	case world.Reconf:
		var next []api.Validator
		for i, p := range o.Set {
			if p > 0 {
				next = append(next, api.Validator{Key: m.keys[i].Root(), Power: p})
			}
		}
		outs, err = m.nodes[who].Reconfigure(next)
	case world.Arm:
		if !m.disks[who].Off() {
			m.disks[who].Arm(o.N)
		}
	case world.Crash:
		m.disks[who].Crash(o.Keep...)
		m.nodes[who], err = node.Open(m.disks[who], m.keys[who], m.v)
	}
	m.put(who, outs)
	return err
}

// P4 and P22.1: every op answers as the nodes do, and what they send is on its way, in order.
func TestAnswersAreTheNodes(t *testing.T) {
	for n := 1; n <= 5; n++ {
		w := fresh(t, ones(n))
		m := &mirror{keys: craft.Keys(n), v: craft.Validators(craft.Keys(n))}
		for _, k := range m.keys {
			d, err := disk.New(sectors)
			must(t, err)
			x, err := node.Format(d, k, m.v)
			must(t, err)
			m.disks, m.nodes = append(m.disks, d), append(m.nodes, x)
		}
		d := dice(n)
		for step := range 250 {
			o := anything(&d, w, -1)
			if o.Kind == world.Forge || w.Pending() == 0 && o.Kind < world.Tick {
				o = world.Op{Kind: world.Tick, Node: step % n}
			}
			err, want := w.Do(o), m.do(o)
			if err != want {
				t.Fatalf("of %d nodes op %d, %v, answers %v, the node %v", n, step, o, err, want)
			}
			if w.Pending() != len(m.to) {
				t.Fatalf("of %d nodes behind op %d, %v, there are %d messages, want %d", n, step, o, w.Pending(), len(m.to))
			}
			for i := range m.to {
				if to, data := w.Message(i); to != m.to[i] || !slices.Equal(data, m.data[i]) {
					t.Fatalf("of %d nodes behind op %d, %v, message %d is another one", n, step, o, i)
				}
			}
		}
		for i, x := range m.nodes {
			same(t, "the commits", w.Node(i).Commits(), x.Commits())
			same(t, "the state", w.Node(i).State(), x.State())
		}
	}
}

// P5: among good nodes commits grow behind a calm, whatever came ahead of it; what all are told, once, is committed by all, once.
func TestItGoesOn(t *testing.T) {
	for n := 1; n <= 7; n++ {
		w := fresh(t, ones(n))
		for seed := range min(3, n) {
			d := dice(seed + 10*n)
			for range 6 {
				do(t, w, world.Op{Kind: world.Tick, Node: d.next(n)})
				for w.Pending() > 0 && d.next(4) > 0 {
					w.Do(world.Op{Kind: []int{world.Drop, world.Copy, world.Deliver, world.Deliver}[d.next(4)], N: d.next(w.Pending())})
				}
			}
		}
		for i := range n {
			w.Do(world.Op{Kind: world.Submit, Node: i, Data: []byte("told")})
		}
		before := commits(w)
		w.Calm(20)
		for i, c := range commits(w) {
			if c <= before[i] {
				t.Errorf("of %d nodes node %d had %d commits, and has %d behind a calm", n, i, before[i], c)
			}
			same(t, fmt.Sprintf("of %d nodes what node %d committed", n, i), sequence(w.Node(i)), []string{"told"})
		}
		if !w.Same() {
			t.Errorf("of %d nodes commits don't go together", n)
		}
	}
}

// P5: with one of five silent commits grow; there are four good leaders one behind the other.
func TestOneOfFiveSilent(t *testing.T) {
	for who := range 5 {
		if !turns.Row(5, 4, who) {
			t.Errorf("without %d there aren't four leaders one behind the other", who)
		}
		w := fresh(t, ones(5), who)
		w.Calm(25)
		for i, c := range commits(w) {
			if c < 3 {
				t.Errorf("without node %d the node %d of the others has %d commits", who, i, c)
			}
		}
		if !w.Same() {
			t.Errorf("without node %d commits don't go together", who)
		}
	}
}

// P5: also when one of two to four began anew.
func TestOneBeginsAnew(t *testing.T) {
	for n := 2; n <= 4; n++ {
		for who := range n {
			w := fresh(t, ones(n))
			for step := range 12 * n {
				if w.Pending() > 0 {
					w.Do(world.Op{Kind: world.Deliver})
				} else {
					do(t, w, world.Op{Kind: world.Tick, Node: step % n})
				}
			}
			do(t, w, world.Op{Kind: world.Crash, Node: who})
			before := commits(w)
			w.Calm(12)
			for i, c := range commits(w) {
				if c <= before[i] {
					t.Errorf("of %d nodes, %d beginning anew, node %d had %d commits, and has %d", n, who, i, before[i], c)
				}
			}
			if !w.Same() {
				t.Errorf("of %d nodes, %d beginning anew, commits don't go together", n, who)
			}
		}
	}
}

// P5: who heard nothing for a while has what the others have.
func TestWhoHeardNothing(t *testing.T) {
	for who := range 5 {
		w := fresh(t, ones(5))
		deaf := func() {
			for i := w.Pending() - 1; i >= 0; i-- {
				if to, _ := w.Message(i); to == who {
					do(t, w, world.Op{Kind: world.Drop, N: i})
				}
			}
		}
		for step := range 90 {
			deaf()
			if w.Pending() > 0 {
				w.Do(world.Op{Kind: world.Deliver})
			} else if i := step % 5; i != who {
				do(t, w, world.Op{Kind: world.Tick, Node: i})
			}
		}
		deaf()
		others := slices.Max(commits(w))
		w.Calm(20)
		if c := commits(w)[who]; c < others {
			t.Errorf("node %d has %d commits, the others had %d", who, c, others)
		}
		if !w.Same() {
			t.Error("commits don't go together")
		}
	}
}

// P6: when all are told to go on with some of them, these go on in a further epoch, and commit the same.
func TestEpochs(t *testing.T) {
	for _, c := range []struct {
		n   int
		set []int
	}{{4, []int{1, 1, 1}}, {4, []int{0, 1, 1, 1}}, {5, []int{1, 0, 2, 1, 1}}, {4, []int{1, 1, 1, 1}}, {3, []int{0, 0, 5}}, {2, []int{1}}} {
		w := fresh(t, ones(c.n))
		w.Calm(1)
		for i := range c.n {
			do(t, w, world.Op{Kind: world.Reconf, Node: i, Set: c.set})
		}
		w.Calm(20)
		for i := range c.n {
			n := w.Node(i)
			joined(t, w, n, craft.Validators(craft.Keys(c.n)))
			if i >= len(c.set) || c.set[i] == 0 {
				continue
			}
			further := 0
			for b := range n.Committed() {
				if b.Epoch > 1 {
					further++
				}
			}
			if n.Ground().Epoch < 2 || n.Place() < 0 || further == 0 {
				t.Errorf("of %v node %d is in epoch %d, at place %d, with %d commits in further epochs", c.set, i, n.Ground().Epoch, n.Place(), further)
			}
		}
		if !w.Same() {
			t.Errorf("of %v commits don't go together", c.set)
		}
	}
}

// Same and P1: by too many bad nodes good ones are led apart, which the world tells.
func TestTooManyBad(t *testing.T) {
	ks := craft.Keys(4)
	w := fresh(t, ones(4), 1, 2)
	for mark, who := range []int{0, 3} {
		q := api.QC{Epoch: 1, Block: w.Node(0).Ground().Genesis}
		for round := 1; round <= 4; round++ {
			b := craft.Child(q, round, []byte{byte(mark)})
			data, err := codec.Encode(api.Message{Kind: api.KindProposal, Proposal: craft.Proposal(ks, b, api.TC{}, round%4)})
			must(t, err)
			w.Do(world.Op{Kind: world.Raw, Node: who, Data: data})
			q = craft.Certify(ks, b, 0, 1, 2)
		}
	}
	if w.Same() {
		t.Error("Same of unlike commits is yes")
	}
}
