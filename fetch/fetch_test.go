package fetch_test

import (
	"fmt"
	"testing"

	"quorate/api"
	"quorate/blocks"
	"quorate/craft"
	"quorate/disk"
	"quorate/fetch"
	"quorate/ledger"
)

func must(t *testing.T, err error) {
	t.Helper()
	if err != nil {
		t.Fatalf("the error is %v", err)
	}
}

// cert is a QC that fits a block.
func cert(b api.Block) api.QC {
	return api.QC{Epoch: b.Epoch, Round: b.Round, Block: craft.ID(b)}
}

// child is a block below another one; n tells it from others.
func child(parent api.Block, round, n int) api.Block {
	return craft.Child(cert(parent), round, []byte{byte(n)})
}

// row is so many blocks of rising rounds below a block.
func row(parent api.Block, n int) []api.Block {
	var list []api.Block
	for i := range n {
		parent = child(parent, parent.Round+1, i)
		list = append(list, parent)
	}
	return list
}

// genesis is a first block.
func genesis() api.Block { return api.Block{Epoch: 1, Parent: craft.Digest(1)} }

// committed is a ledger of blocks.
func committed(t *testing.T, list ...api.Block) *ledger.Ledger {
	t.Helper()
	d, err := disk.New(1000)
	must(t, err)
	l, err := ledger.Format(d, 0)
	must(t, err)
	for _, b := range list {
		must(t, l.Append(b, cert(b)))
	}
	return l
}

// tree is a tree of a root and blocks.
func tree(t *testing.T, root api.Block, list ...api.Block) *blocks.Tree {
	t.Helper()
	x, err := blocks.New(root, cert(root))
	must(t, err)
	for _, b := range list {
		_, err := x.Add(b)
		must(t, err)
	}
	return x
}

func same(t *testing.T, name string, got, want []api.Block) {
	t.Helper()
	if fmt.Sprint(got) != fmt.Sprint(want) {
		t.Errorf("%s answers %d blocks, want %d: %v, want %v", name, len(got), len(want), got, want)
	}
}

// P19.1: lines of ledgers and trees of all small lengths.
func TestLine(t *testing.T) {
	for n := range 5 {
		for m := range 5 {
			list := row(genesis(), n+m)
			root := genesis()
			if n > 0 {
				root = list[n-1]
			}
			l, x := committed(t, list[:n]...), tree(t, root, list[n:]...)
			same(t, fmt.Sprintf("Line of %d and %d", n, m), fetch.Line(l, x), list)
			for i, b := range list {
				same(t, fmt.Sprintf("of %d and %d, Behind block %d", n, m, i), fetch.Behind(l, x, craft.ID(b)), list[i+1:])
			}
			same(t, "Behind the genesis", fetch.Behind(l, x, craft.ID(genesis())), list)
			same(t, "Behind what isn't there", fetch.Behind(l, x, craft.Digest(77)), nil)
			same(t, "Behind what the genesis is behind", fetch.Behind(l, x, genesis().Parent), nil)
		}
	}
}

// P19.1: of a tree with branches the line goes to the greatest round, to the first one of these.
func TestBranches(t *testing.T) {
	g := genesis()
	a, b := child(g, 1, 1), child(g, 2, 2)
	c, d := child(a, 5, 3), child(b, 5, 4)
	e, f := child(b, 4, 5), child(a, 9, 6)
	l := committed(t)
	same(t, "Line", fetch.Line(l, tree(t, g, a, b)), []api.Block{b})
	same(t, "Line", fetch.Line(l, tree(t, g, a, b, c)), []api.Block{a, c})
	same(t, "Line", fetch.Line(l, tree(t, g, a, b, c, d)), []api.Block{a, c})
	same(t, "Line", fetch.Line(l, tree(t, g, b, a, d, c)), []api.Block{b, d})
	same(t, "Line", fetch.Line(l, tree(t, g, b, a, d, c, e, f)), []api.Block{a, f})
	same(t, "Line", fetch.Line(l, tree(t, g, a, b, e)), []api.Block{b, e})
	x := tree(t, g, a, b, c, d)
	same(t, "Behind", fetch.Behind(l, x, craft.ID(a)), []api.Block{c})
	same(t, "Behind what isn't on the line", fetch.Behind(l, x, craft.ID(b)), nil)
	same(t, "Behind the end", fetch.Behind(l, x, craft.ID(c)), nil)
}

// P19.1: MaxWants blocks at most.
func TestManyBlocks(t *testing.T) {
	list := row(genesis(), 24)
	l, x := committed(t, list[:12]...), tree(t, list[11], list[12:]...)
	same(t, "Line", fetch.Line(l, x), list)
	for i := range list {
		same(t, fmt.Sprint("Behind block ", i), fetch.Behind(l, x, craft.ID(list[i])), list[i+1:min(i+9, 24)])
	}
	same(t, "Behind the genesis", fetch.Behind(l, x, craft.ID(genesis())), list[:8])
}

// P19.1: up to the first one that has Next, which is told.
func TestNext(t *testing.T) {
	for at := range 7 {
		list := row(genesis(), at)
		last := genesis()
		if at > 0 {
			last = list[at-1]
		}
		turn := child(last, last.Round+1, 99)
		turn.Next = []api.Validator{{Power: 1}}
		list = append(append(list, turn), row(turn, 3)...)
		for split := range len(list) {
			root := genesis()
			if split > 0 {
				root = list[split-1]
			}
			l, x := committed(t, list[:split]...), tree(t, root, list[split:]...)
			for i := range list {
				end := len(list)
				if i < at {
					end = at + 1
				}
				same(t, fmt.Sprintf("with Next at %d and %d committed, Behind block %d", at, split, i), fetch.Behind(l, x, craft.ID(list[i])), list[i+1:end])
			}
		}
	}
}

// P19.1: a ledger goes on behind an epoch's end: what is behind it has another parent.
func TestEpochs(t *testing.T) {
	first := row(genesis(), 3)
	first[2].Next = []api.Validator{{Power: 1}}
	g := api.Block{Epoch: 2, Parent: craft.ID(first[2])}
	second := row(g, 4)
	l, x := committed(t, append(first, second[:2]...)...), tree(t, second[1], second[2:]...)
	same(t, "Line", fetch.Line(l, x), append(first, second...))
	same(t, "Behind the first genesis", fetch.Behind(l, x, craft.ID(genesis())), first)
	same(t, "Behind the first epoch's last", fetch.Behind(l, x, craft.ID(first[2])), nil)
	same(t, "Behind the second genesis", fetch.Behind(l, x, craft.ID(g)), second)
	fresh := committed(t, first...)
	same(t, "Line of a fresh epoch", fetch.Line(fresh, tree(t, g)), first)
	same(t, "Behind the second genesis, of a fresh epoch", fetch.Behind(fresh, tree(t, g, second[:1]...), craft.ID(g)), second[:1])
}

// P19.1: of blocks with one parent the first one of the line is taken, and P19.2: what is told is a row.
func TestRows(t *testing.T) {
	list := row(genesis(), 5)
	l, x := committed(t, list[0], list[1], list[0], list[1]), tree(t, list[1], list[2:]...)
	same(t, "Behind", fetch.Behind(l, x, craft.ID(genesis())), []api.Block{list[0], list[1], list[0], list[1], list[2], list[3], list[4]})
	l = committed(t, list[:2]...)
	for _, id := range []api.Digest{craft.ID(genesis()), craft.ID(list[0]), craft.ID(list[3])} {
		parent := id
		for i, b := range fetch.Behind(l, x, id) {
			if b.Parent != parent {
				t.Errorf("block %d isn't behind the one ahead of it", i)
			}
			parent = craft.ID(b)
		}
	}
}

// P19.1 and the rules: answers are the caller's own.
func TestCopies(t *testing.T) {
	list := row(genesis(), 4)
	l, x := committed(t, list[:2]...), tree(t, list[1], list[2:]...)
	for _, b := range append(fetch.Line(l, x), fetch.Behind(l, x, craft.ID(genesis()))...) {
		clear(b.Payload[0])
		clear(b.Payload)
	}
	same(t, "Line", fetch.Line(l, x), list)
}

// P19.1: asks: each key once, MaxNodes at most.
func TestAsk(t *testing.T) {
	a := fetch.New()
	if a.Open() {
		t.Error("fresh asks are open")
	}
	for i := range 7 {
		if !a.Ask(craft.Digest(i)) || !a.Open() {
			t.Errorf("Ask of key %d is no", i)
		}
		for j := range i + 1 {
			if a.Ask(craft.Digest(j)) {
				t.Errorf("Ask of key %d again is yes", j)
			}
		}
	}
	if a.Ask(craft.Digest(7)) || a.Ask(api.Digest{}) || a.Ask(craft.Digest(0)) {
		t.Error("an eighth key is asked")
	}
	a.Got()
	if a.Open() {
		t.Error("behind Got they are open")
	}
	if !a.Ask(api.Digest{}) || a.Ask(api.Digest{}) || !a.Ask(craft.Digest(7)) || !a.Ask(craft.Digest(0)) {
		t.Error("behind Got keys aren't asked once")
	}
}

// P19.1: ticks since the first one was asked; without one there are none.
func TestTick(t *testing.T) {
	a := fetch.New()
	for range 9 {
		a.Tick()
	}
	for again := range 3 {
		a.Ask(craft.Digest(1))
		for n := 1; n <= 4; n++ {
			a.Ask(craft.Digest(1 + n))
			if !a.Open() || a.Ask(craft.Digest(1)) {
				t.Errorf("for the time %d, behind %d ticks they aren't open", again, n-1)
			}
			a.Tick()
		}
		if a.Open() {
			t.Errorf("for the time %d, behind four ticks they are open", again)
		}
		a.Tick()
	}
	a.Ask(craft.Digest(1))
	a.Tick()
	a.Tick()
	a.Tick()
	a.Got()
	a.Got()
	a.Tick()
	a.Ask(craft.Digest(2))
	for n := range 4 {
		if !a.Open() {
			t.Errorf("behind Got and %d ticks they aren't open", n)
		}
		a.Tick()
	}
	if a.Open() {
		t.Error("behind Got and four ticks they are open")
	}
}

// P19.1: asks have nothing in common.
func TestTwoAsks(t *testing.T) {
	a, b := fetch.New(), fetch.New()
	a.Ask(craft.Digest(1))
	if b.Open() || !b.Ask(craft.Digest(1)) {
		t.Error("asks share keys")
	}
	b.Got()
	if !a.Open() {
		t.Error("asks share Got")
	}
}
