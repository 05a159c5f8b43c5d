package pieces_test

import (
	"fmt"
	"testing"

	"quorate/api"
	"quorate/pieces"
)

func sig() api.Sig {
	return api.Sig{Leaf: 3, Chains: []api.Digest{{1}, {2}}, Path: []api.Digest{{3}}}
}

func qc() api.QC {
	return api.QC{Epoch: 1, Round: 2, Block: api.Digest{4}, Votes: []api.Signed{{Who: 1, Sig: sig()}, {Who: 2, Sig: sig()}}}
}

func block() api.Block {
	return api.Block{Epoch: 1, Round: 3, Parent: api.Digest{5}, Justify: qc(), Payload: [][]byte{{1, 2}, {3}}, Next: []api.Validator{{Power: 1}, {Power: 2}}}
}

func tc() api.TC {
	return api.TC{Epoch: 1, Round: 2, Lates: []api.Late{{Who: 1, High: 1, Sig: sig()}, {Who: 3, Sig: sig()}}}
}

// spoil changes all that a signature points to.
func spoil(s api.Sig) {
	clear(s.Chains)
	clear(s.Path)
}

// Copies are the same as what they are of, and stay so when that is changed.
func TestCopies(t *testing.T) {
	b, x := block(), tc()
	cb, cx := pieces.Block(b), pieces.TC(x)
	if fmt.Sprint(cb) != fmt.Sprint(block()) || fmt.Sprint(cx) != fmt.Sprint(tc()) {
		t.Errorf("the copies are %v, %v", cb, cx)
	}
	spoil(b.Justify.Votes[0].Sig)
	clear(b.Justify.Votes)
	clear(b.Payload[0])
	clear(b.Payload)
	clear(b.Next)
	spoil(x.Lates[1].Sig)
	clear(x.Lates)
	if fmt.Sprint(cb) != fmt.Sprint(block()) || fmt.Sprint(cx) != fmt.Sprint(tc()) {
		t.Errorf("a change shows: %v, %v", cb, cx)
	}
	if c := pieces.Block(api.Block{}); c.Payload != nil || c.Next != nil || c.Justify.Votes != nil {
		t.Errorf("the copy of the zero block is %v", c)
	}
}

// A QC fits a block with its id, epoch and round.
func TestFits(t *testing.T) {
	b := api.Block{Epoch: 1, Round: 2}
	if !pieces.Fits(qc(), api.Digest{4}, b) {
		t.Error("the QC doesn't fit")
	}
	if pieces.Fits(qc(), api.Digest{5}, b) || pieces.Fits(qc(), api.Digest{4}, api.Block{Epoch: 2, Round: 2}) || pieces.Fits(qc(), api.Digest{4}, api.Block{Epoch: 1, Round: 1}) {
		t.Error("a QC of another block fits")
	}
}
