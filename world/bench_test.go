package world_test

import (
	"fmt"
	"testing"

	"quorate/api"
	"quorate/codec"
	"quorate/craft"
	"quorate/node"
	"quorate/proofs"
	"quorate/rules"
	"quorate/world"
)

const sectors = 4000

func must(t *testing.T, err error) {
	t.Helper()
	if err != nil {
		t.Fatalf("the error is %v", err)
	}
}

// same asks that two things are, as texts.
func same(t *testing.T, name string, got, want any) {
	t.Helper()
	if fmt.Sprint(got) != fmt.Sprint(want) {
		t.Errorf("%s is %v, want %v", name, got, want)
	}
}

// seeds is the seeds of n nodes.
func seeds(n int) []api.Digest {
	var list []api.Digest
	for i := range n {
		list = append(list, craft.Seed(i))
	}
	return list
}

// ones is n times power 1.
func ones(n int) []int {
	list := make([]int, n)
	for i := range list {
		list[i] = 1
	}
	return list
}

// fresh is a world of nodes of these powers, some of which are bad.
func fresh(t *testing.T, power []int, bad ...int) *world.World {
	t.Helper()
	is := make([]bool, len(power))
	for _, i := range bad {
		is[i] = true
	}
	w, err := world.New(seeds(len(power)), power, is, sectors)
	must(t, err)
	return w
}

// do does an op without an error.
func do(t *testing.T, w *world.World, o world.Op) {
	t.Helper()
	if err := w.Do(o); err != nil {
		t.Errorf("the op %v answers %v", o, err)
	}
}

// mail is the messages on their way, as kinds and nodes.
func mail(t *testing.T, w *world.World) string {
	t.Helper()
	text := ""
	for i := range w.Pending() {
		to, data := w.Message(i)
		m, err := codec.Decode(data)
		must(t, err)
		text += fmt.Sprintf("%d>%d ", m.Kind, to)
	}
	return text
}

// look is all that one sees of a world, as text.
func look(w *world.World) string {
	text := fmt.Sprint(w.Pending())
	for i := range w.Pending() {
		text += fmt.Sprint(w.Message(i))
	}
	for i := range w.Keys() {
		if n := w.Node(i); n != nil {
			text += fmt.Sprint(n.Round(), n.State(), n.High(), n.Commits(), n.Tree(), n.Waits(), n.Ground())
		}
	}
	return text
}

// commits is how many commits each running node has.
func commits(w *world.World) []int {
	var list []int
	for i := range w.Keys() {
		if n := w.Node(i); n != nil {
			list = append(list, len(n.Commits()))
		}
	}
	return list
}

// sequence is a node's committed transactions, as text.
func sequence(n *node.Node) []string {
	var list []string
	for tx := range n.Sequence() {
		list = append(list, string(tx))
	}
	return list
}

// joined asks P3 of a node: its commits are a row by parents, epoch by epoch, with right certificates, and its tree begins with the last one.
func joined(t *testing.T, w *world.World, n *node.Node, first []api.Validator) {
	t.Helper()
	g := proofs.Ground{Epoch: 1, Validators: first, Genesis: craft.ID(api.Block{Epoch: 1})}
	parent := g.Genesis
	for b, q := range n.Committed() {
		id := craft.ID(b)
		if b.Parent != parent || b.Epoch != g.Epoch || q.Block != id || q.Round != b.Round {
			t.Fatalf("a commit isn't joined to the one ahead of it: %v", b)
		}
		if err := g.QC(q); err != nil {
			t.Fatalf("a commit's certificate isn't right: %v", err)
		}
		parent = id
		if len(b.Next) > 0 {
			parent = craft.ID(api.Block{Epoch: g.Epoch + 1, Parent: id})
			g = proofs.Ground{Epoch: g.Epoch + 1, Validators: b.Next, Genesis: parent}
		}
	}
	if n.Tree()[0] != parent {
		t.Fatalf("a tree begins with %x, want %x", n.Tree()[0], parent)
	}
	same(t, "the ground", n.Ground(), g)
}

// signature is whose leaf, and turn is whose round.
type signature struct{ node, leaf int }
type turn struct{ node, epoch, round int }

// watch holds what good nodes signed and committed, to ask P1 to P4 behind each op.
type watch struct {
	*testing.T
	w       *world.World
	first   []api.Validator
	signed  map[signature]api.Digest
	voted   map[turn]api.Digest
	states  map[int]rules.State
	commits map[int][]api.Digest
}

func watching(t *testing.T, w *world.World, power []int) *watch {
	return &watch{t, w, craft.Validators(craft.Keys(len(power)), power...), map[signature]api.Digest{}, map[turn]api.Digest{},
		map[int]rules.State{}, map[int][]api.Digest{}}
}

// do does an op, and asks all behind it. Copies and forged messages aren't held against good nodes.
func (x *watch) do(o world.Op) {
	x.Helper()
	before := x.w.Pending()
	who := o.Node
	if o.Kind == world.Deliver {
		if o.N < 0 || o.N >= before {
			return
		}
		who, _ = x.w.Message(o.N)
		before--
	}
	err := x.w.Do(o)
	if o.Kind == world.Forge || o.Kind == world.Copy || o.Kind == world.Drop {
		return
	}
	for i := before; i < x.w.Pending(); i++ {
		_, data := x.w.Message(i)
		x.message(who, data)
	}
	if n := x.w.Node(who); n != nil {
		x.node(who, n, o, err)
	} else if o.Kind == world.Crash && !x.w.Bad(who) && who >= 0 && who < len(x.first) {
		x.Fatalf("behind a crash node %d has stopped: %v", who, err)
	}
}

// message asks P2 and P4 of a message of a good node.
func (x *watch) message(who int, data []byte) {
	x.Helper()
	m, err := codec.Decode(data)
	if err != nil {
		x.Fatalf("node %d sends what is no message: %v", who, err)
	}
	var from api.Signed
	var d api.Digest
	switch m.Kind {
	case api.KindVote:
		v := m.Vote
		from, d = v.From, codec.ForVote(v.Epoch, v.Round, v.Block)
		at := turn{who, v.Epoch, v.Round}
		if b, ok := x.voted[at]; ok && b != v.Block {
			x.Fatalf("node %d votes twice in round %d of epoch %d", who, v.Round, v.Epoch)
		}
		x.voted[at] = v.Block
	case api.KindTimeout:
		from, d = m.Timeout.From, codec.ForLate(m.Timeout.Epoch, m.Timeout.Round, m.Timeout.High.Round)
	case api.KindProposal:
		from, d = m.Proposal.From, codec.ForProposal(craft.ID(m.Proposal.Block))
	default:
		return
	}
	by := signature{who, from.Sig.Leaf}
	if old, ok := x.signed[by]; ok && old != d {
		x.Fatalf("node %d signs two things by leaf %d", who, from.Sig.Leaf)
	}
	x.signed[by] = d
	if s := x.w.Node(who).State(); s.Leaf <= from.Sig.Leaf {
		x.Fatalf("node %d signs by leaf %d, and its state is %v", who, from.Sig.Leaf, s)
	}
}

// node asks P1 to P3 of a good node behind an op.
func (x *watch) node(who int, n *node.Node, o world.Op, err error) {
	x.Helper()
	if !n.State().Covers(x.states[who]) {
		x.Fatalf("node %d has the state %v behind %v", who, n.State(), x.states[who])
	}
	x.states[who] = n.State()
	old, now := x.commits[who], n.Commits()
	if len(now) < len(old) || fmt.Sprint(now[:len(old)]) != fmt.Sprint(old) {
		x.Fatalf("node %d has the commits %x behind %x", who, now, old)
	}
	if o.Kind == world.Crash && len(now) > len(old)+1 {
		x.Fatalf("node %d has %d commits behind a crash, and %d ahead of it", who, len(now), len(old))
	}
	if len(now) > len(old) {
		joined(x.T, x.w, n, x.first)
		if !x.w.Same() {
			x.Fatalf("behind the op %v (%v) commits don't go together", o, err)
		}
	}
	x.commits[who] = now
}
