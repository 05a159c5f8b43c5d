package codec_test

import (
	"encoding/binary"

	"quorate/api"
	"quorate/hash"
)

// What follows is the document's forms, written once more: bytes put behind bytes.

func num(n, width int) []byte {
	var b [8]byte
	binary.BigEndian.PutUint64(b[:], uint64(n))
	return b[8-width:]
}

func join(parts ...[]byte) []byte {
	var all []byte
	for _, p := range parts {
		all = append(all, p...)
	}
	return all
}

func list[T any](l []T, one func(T) []byte) []byte {
	all := num(len(l), 1)
	for _, x := range l {
		all = append(all, one(x)...)
	}
	return all
}

func digestForm(d api.Digest) []byte { return d[:] }

func sigForm(s api.Sig) []byte {
	return join(num(s.Leaf, 1), list(s.Chains, digestForm), list(s.Path, digestForm))
}

func signedForm(s api.Signed) []byte { return join(num(s.Who, 1), sigForm(s.Sig)) }

func validatorForm(v api.Validator) []byte { return join(v.Key[:], num(v.Power, 6)) }

func qcForm(q api.QC) []byte {
	return join(num(q.Epoch, 4), num(q.Round, 6), q.Block[:], list(q.Votes, signedForm))
}

func lateForm(l api.Late) []byte { return join(num(l.Who, 1), num(l.High, 6), sigForm(l.Sig)) }

func tcForm(t api.TC) []byte {
	return join(num(t.Epoch, 4), num(t.Round, 6), list(t.Lates, lateForm))
}

func txForm(tx []byte) []byte { return join(num(len(tx), 2), tx) }

func blockForm(b api.Block) []byte {
	return join(num(b.Epoch, 4), num(b.Round, 6), b.Parent[:], qcForm(b.Justify), list(b.Payload, txForm), list(b.Next, validatorForm))
}

func changeForm(c api.Change) []byte {
	return join(blockForm(c.Blocks[0]), blockForm(c.Blocks[1]), blockForm(c.Blocks[2]), qcForm(c.QC))
}

func messageForm(m api.Message) []byte {
	head := num(m.Kind, 1)
	switch m.Kind {
	case 1:
		v := m.Vote
		return join(head, num(v.Epoch, 4), num(v.Round, 6), v.Block[:], signedForm(v.From))
	case 2:
		t := m.Timeout
		return join(head, num(t.Epoch, 4), num(t.Round, 6), qcForm(t.High), tcForm(t.Last), signedForm(t.From))
	case 3:
		p := m.Proposal
		return join(head, blockForm(p.Block), tcForm(p.Last), signedForm(p.From))
	case 4:
		return join(head, m.Want.From[:], m.Want.Block[:])
	case 5:
		return join(head, blockForm(m.Reply.Block))
	}
	return join(head, changeForm(m.Change))
}

// maker makes things whose every field is told by a running number, with lists as long as it says.
type maker struct {
	n                                  int
	chains, path, votes, lates, tx, nx int
}

func (k *maker) next(under int) int {
	k.n++
	return int(binary.BigEndian.Uint64(k.bytes(8))>>1) % under
}

func (k *maker) bytes(n int) []byte {
	d := hash.Of(201, num(k.n, 8))
	return d[:n]
}

func (k *maker) digest() api.Digest {
	k.n++
	return api.Digest(k.bytes(16))
}

func many[T any](n int, one func() T) []T {
	var l []T
	for range n {
		l = append(l, one())
	}
	return l
}

func (k *maker) sig() api.Sig {
	return api.Sig{Leaf: k.next(256), Chains: many(k.chains, k.digest), Path: many(k.path, k.digest)}
}

func (k *maker) signed() api.Signed { return api.Signed{Who: k.next(256), Sig: k.sig()} }

func (k *maker) validator() api.Validator {
	return api.Validator{Key: k.digest(), Power: k.next(1 << 48)}
}

func (k *maker) qc() api.QC {
	return api.QC{Epoch: k.next(1 << 32), Round: k.next(1 << 48), Block: k.digest(), Votes: many(k.votes, k.signed)}
}

func (k *maker) late() api.Late {
	return api.Late{Who: k.next(256), High: k.next(1 << 48), Sig: k.sig()}
}

func (k *maker) tc() api.TC {
	return api.TC{Epoch: k.next(1 << 32), Round: k.next(1 << 48), Lates: many(k.lates, k.late)}
}

func (k *maker) transaction() []byte {
	return k.bytes(k.next(17))
}

func (k *maker) block() api.Block {
	return api.Block{Epoch: k.next(1 << 32), Round: k.next(1 << 48), Parent: k.digest(), Justify: k.qc(),
		Payload: many(k.tx, k.transaction), Next: many(k.nx, k.validator)}
}

func (k *maker) change() api.Change {
	return api.Change{Blocks: [3]api.Block{k.block(), k.block(), k.block()}, QC: k.qc()}
}

// message is a message of a kind, all other fields zero.
func (k *maker) message(kind int) api.Message {
	m := api.Message{Kind: kind}
	switch kind {
	case 1:
		m.Vote = api.Vote{Epoch: k.next(1 << 32), Round: k.next(1 << 48), Block: k.digest(), From: k.signed()}
	case 2:
		m.Timeout = api.Timeout{Epoch: k.next(1 << 32), Round: k.next(1 << 48), High: k.qc(), Last: k.tc(), From: k.signed()}
	case 3:
		m.Proposal = api.Proposal{Block: k.block(), Last: k.tc(), From: k.signed()}
	case 4:
		m.Want = api.Want{From: k.digest(), Block: k.digest()}
	case 5:
		m.Reply.Block = k.block()
	case 6:
		m.Change = k.change()
	}
	return m
}

// makers is lists of several lengths, from none to the most.
func makers() []*maker {
	return []*maker{
		{}, {chains: 1, path: 1, votes: 1, lates: 1, tx: 1, nx: 1}, {chains: 2, path: 3, votes: 2, lates: 3, tx: 2, nx: 4},
		{chains: 68, path: 5, votes: 7, lates: 7, tx: 4, nx: 7}, {votes: 3, lates: 2, tx: 3}, {chains: 67, path: 4, votes: 6, lates: 6, nx: 6},
	}
}
