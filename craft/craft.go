// Package craft makes keys, blocks, certificates and signed messages for the tests of the layers: what good and bad validators may say.
package craft

import (
	"quorate/api"
	"quorate/codec"
	"quorate/hash"
	"quorate/keys"
)

const (
	forSeed  = 202 // domains of layer 2's Of, beside those of the document
	forThing = 203
)

// Seed is a seed by a number.
func Seed(n int) api.Digest {
	return hash.Of(forSeed, []byte{byte(n >> 8), byte(n)})
}

// Digest is a digest by a number, unlike for unlike ones.
func Digest(n int) api.Digest {
	return hash.Of(forThing, []byte{byte(n >> 16), byte(n >> 8), byte(n)})
}

// Keys is the keys of the seeds 0 up to n - 1.
func Keys(n int) []*keys.Key {
	var list []*keys.Key
	for i := range n {
		list = append(list, keys.New(Seed(i)))
	}
	return list
}

// Validators is one of each key, of these powers; of power 1, where there are no more.
func Validators(ks []*keys.Key, powers ...int) []api.Validator {
	var list []api.Validator
	for i, k := range ks {
		power := 1
		if i < len(powers) {
			power = powers[i]
		}
		list = append(list, api.Validator{Key: k.Root(), Power: power})
	}
	return list
}

// Sign is a key's signature by a leaf; the zero one, if there is no such leaf.
func Sign(k *keys.Key, leaf int, d api.Digest) api.Sig {
	s, _ := k.Sign(leaf, d)
	return s
}

// leaf is the leaf by which things of a round are signed.
func leaf(round int) int {
	return round & (api.Leaves - 1)
}

// signed is a place and its key's signature; without a key the zero one.
func signed(ks []*keys.Key, who, round int, d api.Digest) api.Signed {
	if who < 0 || who >= len(ks) {
		return api.Signed{Who: who}
	}
	return api.Signed{Who: who, Sig: Sign(ks[who], leaf(round), d)}
}

// ID is a block's id; the zero digest, if it has none.
func ID(b api.Block) api.Digest {
	id, _ := codec.ID(b)
	return id
}

// QC is a QC with the votes of those at some places.
func QC(ks []*keys.Key, epoch, round int, block api.Digest, who ...int) api.QC {
	q := api.QC{Epoch: epoch, Round: round, Block: block}
	for _, i := range who {
		q.Votes = append(q.Votes, signed(ks, i, round, codec.ForVote(epoch, round, block)))
	}
	return q
}

// Certify is the QC of a block.
func Certify(ks []*keys.Key, b api.Block, who ...int) api.QC {
	return QC(ks, b.Epoch, b.Round, ID(b), who...)
}

// Late is one validator's word.
func Late(ks []*keys.Key, epoch, round, high, who int) api.Late {
	s := signed(ks, who, round, codec.ForLate(epoch, round, high))
	return api.Late{Who: who, High: high, Sig: s.Sig}
}

// TC is a TC of the words of those at some places, each with the same highest round.
func TC(ks []*keys.Key, epoch, round, high int, who ...int) api.TC {
	t := api.TC{Epoch: epoch, Round: round}
	for _, i := range who {
		t.Lates = append(t.Lates, Late(ks, epoch, round, high, i))
	}
	return t
}

// Vote is one validator's vote.
func Vote(ks []*keys.Key, epoch, round int, block api.Digest, who int) api.Vote {
	return api.Vote{Epoch: epoch, Round: round, Block: block, From: signed(ks, who, round, codec.ForVote(epoch, round, block))}
}

// Timeout is one validator's timeout.
func Timeout(ks []*keys.Key, epoch, round int, high api.QC, last api.TC, who int) api.Timeout {
	s := signed(ks, who, round, codec.ForLate(epoch, round, high.Round))
	return api.Timeout{Epoch: epoch, Round: round, High: high, Last: last, From: s}
}

// Proposal is one validator's proposal of a block.
func Proposal(ks []*keys.Key, b api.Block, last api.TC, who int) api.Proposal {
	return api.Proposal{Block: b, Last: last, From: signed(ks, who, b.Round, codec.ForProposal(ID(b)))}
}

// Child is a block below another one, whose certificate it holds.
func Child(parent api.QC, round int, payload ...[]byte) api.Block {
	return api.Block{Epoch: parent.Epoch, Round: round, Parent: parent.Block, Justify: parent, Payload: payload}
}
