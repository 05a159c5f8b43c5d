// Package pieces is what several layers need of package api's things: copies that share nothing, and whether a QC fits a block.
package pieces

import (
	"bytes"
	"slices"

	"quorate/api"
)

// Sig is a signature's copy.
func Sig(s api.Sig) api.Sig {
	return api.Sig{Leaf: s.Leaf, Chains: slices.Clone(s.Chains), Path: slices.Clone(s.Path)}
}

// each is a list's copy, each element's by one.
func each[T any](list []T, one func(T) T) []T {
	c := slices.Clone(list)
	for i, x := range c {
		c[i] = one(x)
	}
	return c
}

// Signed is a signed word's copy.
func Signed(s api.Signed) api.Signed {
	return api.Signed{Who: s.Who, Sig: Sig(s.Sig)}
}

// QC is a QC's copy.
func QC(q api.QC) api.QC {
	q.Votes = each(q.Votes, Signed)
	return q
}

// Late is a late word's copy.
func Late(l api.Late) api.Late {
	l.Sig = Sig(l.Sig)
	return l
}

// TC is a TC's copy.
func TC(t api.TC) api.TC {
	t.Lates = each(t.Lates, Late)
	return t
}

// Bytes is a copy of texts.
func Bytes(list [][]byte) [][]byte {
	return each(list, bytes.Clone)
}

// Block is a block's copy.
func Block(b api.Block) api.Block {
	b.Justify = QC(b.Justify)
	b.Payload = Bytes(b.Payload)
	b.Next = slices.Clone(b.Next)
	return b
}

// Fits tells whether a QC fits a block of an id.
func Fits(q api.QC, id api.Digest, b api.Block) bool {
	return q.Block == id && q.Epoch == b.Epoch && q.Round == b.Round
}
