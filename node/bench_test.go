package node_test

import (
	"fmt"
	"slices"
	"testing"

	"quorate/api"
	"quorate/codec"
	"quorate/craft"
	"quorate/disk"
	"quorate/keys"
	"quorate/node"
	"quorate/proofs"
)

const sectors = 4000

func must(t *testing.T, err error) {
	t.Helper()
	if err != nil {
		t.Fatalf("the error is %v", err)
	}
}

// bench is one node of several validators, on its disk; the others are what the test says.
type bench struct {
	*testing.T
	ks []*keys.Key
	v  []api.Validator
	d  *disk.Disk
	n  *node.Node
	me int
}

// start is the node of the validator me among so many of power 1.
func start(t *testing.T, of, me int) *bench {
	t.Helper()
	ks := craft.Keys(of)
	return startWith(t, ks, craft.Validators(ks), me)
}

// startWith is the node of a key; the validators are told.
func startWith(t *testing.T, ks []*keys.Key, v []api.Validator, me int) *bench {
	t.Helper()
	d, err := disk.New(sectors)
	must(t, err)
	n, err := node.Format(d, ks[me], v)
	must(t, err)
	return &bench{t, ks, v, d, n, me}
}

// reopen is what Open has behind a crash.
func (b *bench) reopen(keep ...bool) {
	b.Helper()
	b.d.Crash(keep...)
	n, err := node.Open(b.d, b.ks[b.me], b.v)
	must(b.T, err)
	b.n = n
}

// sent is a message that the node sent: to the validator at a place of the first ones, to all (everyone), or to nobody known.
type sent struct {
	to int
	m  api.Message
}

const (
	everyone = -1
	nobody   = -2
)

// read is what was sent, decoded.
func (b *bench) read(outs []node.Out) []sent {
	b.Helper()
	var list []sent
	for _, o := range outs {
		m, err := codec.Decode(o.Data)
		if err != nil {
			b.Fatalf("what is sent is no message: %v", err)
		}
		to := nobody
		if o.To == (api.Digest{}) {
			to = everyone
		}
		for i, k := range b.ks {
			if k.Root() == o.To {
				to = i
			}
		}
		list = append(list, sent{to, m})
	}
	return list
}

// tell delivers a message; the error is the one that is wanted.
func (b *bench) tell(m api.Message, want error) []sent {
	b.Helper()
	data, err := codec.Encode(m)
	must(b.T, err)
	kept := slices.Clone(data)
	outs, err := b.n.Deliver(data)
	if err != want {
		b.Errorf("a message of kind %d is answered by %v, want %v", m.Kind, err, want)
	}
	if !slices.Equal(data, kept) {
		b.Fatal("Deliver changes the message")
	}
	return b.read(outs)
}

func (b *bench) vote(v api.Vote, want error) []sent {
	b.Helper()
	return b.tell(api.Message{Kind: api.KindVote, Vote: v}, want)
}

func (b *bench) timeout(x api.Timeout, want error) []sent {
	b.Helper()
	return b.tell(api.Message{Kind: api.KindTimeout, Timeout: x}, want)
}

func (b *bench) proposal(p api.Proposal, want error) []sent {
	b.Helper()
	return b.tell(api.Message{Kind: api.KindProposal, Proposal: p}, want)
}

func (b *bench) want(from, block api.Digest, want error) []sent {
	b.Helper()
	return b.tell(api.Message{Kind: api.KindWant, Want: api.Want{From: from, Block: block}}, want)
}

func (b *bench) reply(x api.Block, want error) []sent {
	b.Helper()
	return b.tell(api.Message{Kind: api.KindReply, Reply: api.Reply{Block: x}}, want)
}

func (b *bench) change(c api.Change, want error) []sent {
	b.Helper()
	return b.tell(api.Message{Kind: api.KindChange, Change: c}, want)
}

// tick ticks; the error is the one that is wanted.
func (b *bench) tick(want error) []sent {
	b.Helper()
	outs, err := b.n.Tick()
	if err != want {
		b.Errorf("Tick answers %v, want %v", err, want)
	}
	return b.read(outs)
}

// ground is the first ground.
func (b *bench) ground() proofs.Ground {
	return proofs.Ground{Epoch: 1, Validators: b.v, Genesis: craft.ID(api.Block{Epoch: 1})}
}

// first is the QC of the first genesis.
func (b *bench) first() api.QC {
	return api.QC{Epoch: 1, Block: b.ground().Genesis}
}

// certify is the QC of a block, by the first three validators (or all there are).
func (b *bench) certify(x api.Block) api.QC {
	return craft.Certify(b.ks, x, []int{0, 1, 2}[:min(3, len(b.v))]...)
}

// row is blocks of these rounds, one below the other, from a QC on.
func (b *bench) row(q api.QC, rounds ...int) []api.Block {
	var list []api.Block
	for _, r := range rounds {
		x := craft.Child(q, r, []byte(fmt.Sprint("tx", r)))
		list = append(list, x)
		q = b.certify(x)
	}
	return list
}

// propose is the leader's proposal of a block, with the TC that it needs.
func (b *bench) propose(x api.Block) api.Proposal {
	var last api.TC
	if x.Round != x.Justify.Round+1 {
		last = craft.TC(b.ks, x.Epoch, x.Round-1, x.Justify.Round, 0, 1, 2)
	}
	return craft.Proposal(b.ks, x, last, x.Round%len(b.v))
}

// follow proposes blocks one behind the other.
func (b *bench) follow(list []api.Block) {
	b.Helper()
	for _, x := range list {
		b.proposal(b.propose(x), nil)
	}
}

// look is all that one sees of a node, as text.
func (b *bench) look() string {
	n := b.n
	var seq, com []string
	for tx := range n.Sequence() {
		seq = append(seq, string(tx))
	}
	for x, q := range n.Committed() {
		com = append(com, fmt.Sprint(x, q))
	}
	return fmt.Sprint(n.Round(), n.Ground(), n.Place(), n.State(), n.High(), n.Commits(), n.Tree(), n.Waits(), seq, com)
}

// kinds asks what was sent, as a row of kinds and places.
func (b *bench) kinds(name string, got []sent, want ...sent) {
	b.Helper()
	short := func(list []sent) string {
		text := ""
		for _, s := range list {
			text += fmt.Sprintf(" %d>%d", s.m.Kind, s.to)
		}
		return text
	}
	if short(got) != short(want) {
		b.Errorf("%s: there is sent%s, want%s", name, short(got), short(want))
	}
}

// a message of a kind for a place.
func kind(k, to int) sent {
	return sent{to, api.Message{Kind: k}}
}

// same asks that two things are, as texts.
func same(t *testing.T, name string, got, want any) {
	t.Helper()
	if fmt.Sprint(got) != fmt.Sprint(want) {
		t.Errorf("%s is %v, want %v", name, got, want)
	}
}

func ids(list ...api.Block) []api.Digest {
	var out []api.Digest
	for _, x := range list {
		out = append(out, craft.ID(x))
	}
	return out
}
