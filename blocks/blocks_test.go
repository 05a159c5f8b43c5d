package blocks_test

import (
	"fmt"
	"slices"
	"testing"

	"quorate/api"
	"quorate/blocks"
	"quorate/craft"
	"quorate/pieces"
)

const epoch = 4

// root is a first block.
func root() api.Block {
	return api.Block{Epoch: epoch, Parent: craft.Digest(1)}
}

// cert is a QC that fits a block; n tells it from others of the block.
func cert(b api.Block, n int) api.QC {
	q := api.QC{Epoch: b.Epoch, Round: b.Round, Block: craft.ID(b)}
	if n > 0 {
		q.Votes = []api.Signed{{Who: n, Sig: api.Sig{Leaf: n, Chains: []api.Digest{craft.Digest(n)}}}}
	}
	return q
}

// child is a block below another one; n tells it from others.
func child(parent api.Block, round, n int) api.Block {
	b := craft.Child(cert(parent, 0), round)
	if n > 0 {
		b.Payload = [][]byte{{byte(n)}}
	}
	return b
}

func fresh(t *testing.T) *blocks.Tree {
	t.Helper()
	tree, err := blocks.New(root(), cert(root(), 0))
	if err != nil {
		t.Fatal(err)
	}
	return tree
}

// grow adds blocks, and answers their ids.
func grow(t *testing.T, tree *blocks.Tree, list ...api.Block) []api.Digest {
	t.Helper()
	var ids []api.Digest
	for i, b := range list {
		id, err := tree.Add(b)
		if err != nil || id != craft.ID(b) {
			t.Fatalf("Add of block %d answers %x, %v", i, id, err)
		}
		ids = append(ids, id)
	}
	return ids
}

// row is blocks of these rounds, one below the other.
func row(parent api.Block, rounds ...int) []api.Block {
	var list []api.Block
	for _, r := range rounds {
		parent = child(parent, r, 0)
		list = append(list, parent)
	}
	return list
}

// noID is a block that has none.
func noID() api.Block {
	return api.Block{Epoch: epoch, Round: -1}
}

func ids(list ...api.Block) []api.Digest {
	var out []api.Digest
	for _, b := range list {
		out = append(out, craft.ID(b))
	}
	return out
}

func has(t *testing.T, name string, got, want []api.Digest) {
	t.Helper()
	if !slices.Equal(got, want) {
		t.Errorf("%s answers %x, want %x", name, got, want)
	}
}

// P15.1: New.
func TestNew(t *testing.T) {
	tree := fresh(t)
	id := craft.ID(root())
	if tree.Root() != id || fmt.Sprint(tree.High()) != fmt.Sprint(cert(root(), 0)) {
		t.Errorf("the root is %x, High %v", tree.Root(), tree.High())
	}
	has(t, "IDs", tree.IDs(), []api.Digest{id})
	if b, ok := tree.Get(id); !ok || fmt.Sprint(b) != fmt.Sprint(root()) {
		t.Errorf("Get answers %v, %v", b, ok)
	}
	if q, ok := tree.Cert(id); !ok || q.Block != id {
		t.Errorf("Cert answers %v, %v", q, ok)
	}
	far := api.Block{Epoch: 9, Round: 77}
	if _, err := blocks.New(far, cert(far, 2)); err != nil {
		t.Errorf("New of another root answers %v", err)
	}
	if tree, err := blocks.New(noID(), cert(noID(), 0)); err != api.ErrForm || tree != nil {
		t.Errorf("New of a block without id answers %v, %v", tree, err)
	}
	if tree, err := blocks.New(noID(), api.QC{Epoch: 99}); err != api.ErrForm || tree != nil {
		t.Errorf("New of a block without id and another QC answers %v, %v", tree, err)
	}
	for _, change := range []func(q *api.QC){
		func(q *api.QC) { q.Epoch++ }, func(q *api.QC) { q.Round++ }, func(q *api.QC) { q.Block[3] ^= 1 }, func(q *api.QC) { *q = api.QC{} },
	} {
		q := cert(root(), 0)
		change(&q)
		if tree, err := blocks.New(root(), q); err != api.ErrProof || tree != nil {
			t.Errorf("New with the QC %v answers %v, %v", q, tree, err)
		}
	}
}

// P15.1: Add's errors, and which comes first.
func TestAdd(t *testing.T) {
	r := root()
	a := child(r, 5, 0)
	for _, c := range []struct {
		name   string
		err    error
		change func(b *api.Block)
	}{
		{"right", nil, func(*api.Block) {}},
		{"with votes", nil, func(b *api.Block) { b.Justify.Votes = cert(r, 3).Votes }},
		{"of a round far behind", nil, func(b *api.Block) { b.Round = 1 << 40 }},
		{"without id", api.ErrForm, func(b *api.Block) { b.Round = -1 }},
		{"without id, by its transaction", api.ErrForm, func(b *api.Block) { b.Payload = [][]byte{make([]byte, 17)} }},
		{"without id or parent", api.ErrForm, func(b *api.Block) { b.Round, b.Parent = -1, craft.Digest(3) }},
		{"that is there", api.ErrTwice, func(b *api.Block) { *b = a }},
		{"that is the root", api.ErrTwice, func(b *api.Block) { *b = r }},
		{"without parent", api.ErrParent, func(b *api.Block) { b.Parent[0] ^= 1 }},
		{"behind what the root is behind", api.ErrParent, func(b *api.Block) { b.Parent = r.Parent }},
		{"without parent or fit", api.ErrParent, func(b *api.Block) { b.Parent, b.Justify.Round, b.Round = craft.Digest(3), 3, 0 }},
		{"with a QC of another block", api.ErrProof, func(b *api.Block) { b.Justify.Block = craft.ID(a) }},
		{"with a QC of another epoch", api.ErrProof, func(b *api.Block) { b.Justify.Epoch++ }},
		{"with a QC of another round", api.ErrProof, func(b *api.Block) { b.Justify.Round++ }},
		{"of another epoch", api.ErrProof, func(b *api.Block) { b.Epoch++ }},
		{"of another epoch and a low round", api.ErrProof, func(b *api.Block) { b.Epoch, b.Round = 0, 0 }},
		{"of the parent's round", api.ErrRound, func(b *api.Block) { b.Round = 0 }},
	} {
		tree := fresh(t)
		grow(t, tree, a)
		b := child(r, 1, 9)
		c.change(&b)
		before := fmt.Sprint(tree.IDs(), tree.High())
		id, err := tree.Add(b)
		if err != c.err || err == nil && id != craft.ID(b) || err != nil && id != (api.Digest{}) {
			t.Errorf("Add of a block %s answers %x, %v, want %v", c.name, id, err, c.err)
		}
		if got := fmt.Sprint(tree.IDs(), tree.High()); err != nil && got != before {
			t.Errorf("Add of a block %s leaves %s", c.name, got)
		}
		if err == nil {
			has(t, "IDs", tree.IDs(), ids(r, a, b))
		}
	}
	tree := fresh(t)
	grow(t, tree, a)
	if _, err := tree.Add(child(a, 5, 0)); err != api.ErrRound {
		t.Errorf("Add of the parent's round answers %v", err)
	}
	if _, err := tree.Add(child(a, 4, 0)); err != api.ErrRound {
		t.Errorf("Add of a round below the parent's answers %v", err)
	}
	grow(t, tree, child(a, 6, 0))
}

// P15.1: a tree has MaxTree blocks at most, and the other errors come ahead.
func TestFull(t *testing.T) {
	tree := fresh(t)
	list := row(root(), 1, 2, 3, 4, 5, 6, 7, 8, 9, 10, 11, 12, 13, 14, 15)
	grow(t, tree, list...)
	last := list[14]
	before := fmt.Sprint(tree.High())
	for range 2 {
		if id, err := tree.Add(child(last, 16, 0)); err != api.ErrFull || id != (api.Digest{}) {
			t.Errorf("Add to a full tree answers %x, %v", id, err)
		}
	}
	if _, ok := tree.Cert(craft.ID(last)); ok || fmt.Sprint(tree.High()) != before {
		t.Error("a block that isn't added tells its QC")
	}
	for _, c := range []struct {
		b    api.Block
		want error
	}{{noID(), api.ErrForm}, {last, api.ErrTwice}, {api.Block{}, api.ErrParent}, {child(last, 15, 0), api.ErrRound}} {
		if _, err := tree.Add(c.b); err != c.want {
			t.Errorf("Add to a full tree answers %v, want %v", err, c.want)
		}
	}
	if _, err := tree.Prune(craft.ID(list[0])); err != nil {
		t.Fatal(err)
	}
	grow(t, tree, child(last, 16, 0))
	if _, err := tree.Add(child(last, 17, 0)); err != api.ErrFull {
		t.Errorf("Add to a tree that is full again answers %v", err)
	}
}

// P15.1: Learn: the first certificate of a block stays.
func TestLearn(t *testing.T) {
	tree := fresh(t)
	list := row(root(), 1, 2)
	grow(t, tree, list...)
	for _, c := range []struct {
		q    api.QC
		want error
	}{
		{api.QC{}, api.ErrNone}, {api.QC{Epoch: epoch, Block: root().Parent}, api.ErrNone}, {cert(child(list[1], 3, 0), 0), api.ErrNone},
		{api.QC{Epoch: epoch, Round: 3, Block: craft.ID(list[1])}, api.ErrProof}, {api.QC{Epoch: epoch + 1, Round: 2, Block: craft.ID(list[1])}, api.ErrProof},
	} {
		if err := tree.Learn(c.q); err != c.want {
			t.Errorf("Learn of %v answers %v, want %v", c.q, err, c.want)
		}
	}
	if q, ok := tree.Cert(craft.ID(list[1])); ok || fmt.Sprint(q) != fmt.Sprint(api.QC{}) {
		t.Errorf("a block without certificate has %v, %v", q, ok)
	}
	if q, ok := tree.Cert(craft.Digest(77)); ok || fmt.Sprint(q) != fmt.Sprint(api.QC{}) {
		t.Errorf("a block that isn't there has %v, %v", q, ok)
	}
	for n := 1; n <= 2; n++ {
		if err := tree.Learn(cert(list[1], n)); err != nil {
			t.Errorf("Learn answers %v", err)
		}
		if q, ok := tree.Cert(craft.ID(list[1])); !ok || fmt.Sprint(q) != fmt.Sprint(cert(list[1], 1)) {
			t.Errorf("behind Learn %d Cert answers %v, %v", n, q, ok)
		}
	}
}

// P15.1: a block's Justify is its parent's certificate, if that has none yet.
func TestJustifyIsLearned(t *testing.T) {
	tree := fresh(t)
	a := child(root(), 1, 0)
	one, two := child(a, 2, 1), child(a, 2, 2)
	one.Justify, two.Justify = cert(a, 5), cert(a, 6)
	grow(t, tree, a, one, two)
	if q, _ := tree.Cert(craft.ID(a)); fmt.Sprint(q) != fmt.Sprint(cert(a, 5)) {
		t.Errorf("the certificate is %v", q)
	}
	other := child(root(), 3, 1)
	other.Justify = cert(root(), 9)
	grow(t, tree, other)
	if q, _ := tree.Cert(tree.Root()); fmt.Sprint(q) != fmt.Sprint(cert(root(), 0)) {
		t.Errorf("the root's certificate is %v", q)
	}
}

// P15.1: High: the greatest round, and of these the one that came first.
func TestHigh(t *testing.T) {
	tree := fresh(t)
	a, b, c := child(root(), 2, 1), child(root(), 2, 2), child(root(), 1, 3)
	grow(t, tree, a, b, c)
	for i, s := range []struct{ q, want api.QC }{
		{cert(c, 1), cert(c, 1)}, {cert(b, 1), cert(b, 1)}, {cert(a, 1), cert(b, 1)}, {cert(c, 2), cert(b, 1)}, {cert(b, 2), cert(b, 1)},
	} {
		if err := tree.Learn(s.q); err != nil {
			t.Fatal(err)
		}
		if got := tree.High(); fmt.Sprint(got) != fmt.Sprint(s.want) {
			t.Errorf("behind Learn %d High answers %v", i, got)
		}
	}
	if _, err := tree.Prune(craft.ID(a)); err != nil {
		t.Fatal(err)
	}
	if got := tree.High(); fmt.Sprint(got) != fmt.Sprint(cert(a, 1)) {
		t.Errorf("behind Prune High answers %v", got)
	}
}

// P15.1 and P15.2: Ripe: three rounds one behind the other, the first of them not the root.
func TestRipe(t *testing.T) {
	for _, c := range []struct {
		rounds []int
		want   int // how many are ripe by a QC of the last one
	}{
		{nil, 0}, {[]int{1}, 0}, {[]int{1, 2}, 0}, {[]int{1, 2, 3}, 1}, {[]int{2, 3, 4}, 1}, {[]int{1, 2, 4}, 0}, {[]int{1, 3, 4}, 0},
		{[]int{1, 3, 5}, 0}, {[]int{1, 2, 3, 4}, 2}, {[]int{1, 3, 4, 5}, 2}, {[]int{1, 2, 4, 5}, 0}, {[]int{1, 5, 9, 20, 21, 22}, 4},
		{[]int{1, 2, 3, 5}, 0}, {[]int{7, 8, 9, 10, 11}, 3}, {[]int{1, 2, 3, 4, 5, 6, 7, 8, 9, 10, 11, 12, 13, 14, 15}, 13},
	} {
		tree := fresh(t)
		list := row(root(), c.rounds...)
		grow(t, tree, list...)
		last := root()
		if len(list) > 0 {
			last = list[len(list)-1]
		}
		has(t, fmt.Sprint("Ripe behind ", c.rounds), tree.Ripe(cert(last, 1)), ids(list[:c.want]...))
		if _, ok := tree.Cert(craft.ID(last)); ok != (len(list) == 0) {
			t.Error("Ripe learns the QC")
		}
		q := cert(last, 0)
		q.Round++
		has(t, "Ripe of another round", tree.Ripe(q), nil)
		q = cert(last, 0)
		q.Epoch--
		has(t, "Ripe of another epoch", tree.Ripe(q), nil)
		has(t, "Ripe of what isn't there", tree.Ripe(cert(child(last, last.Round+1, 0), 0)), nil)
	}
	tree := fresh(t)
	list := row(root(), 1, 2, 3, 4)
	grow(t, tree, list...)
	if _, err := tree.Prune(craft.ID(list[1])); err != nil {
		t.Fatal(err)
	}
	has(t, "Ripe, the first of three being the root", tree.Ripe(cert(list[3], 0)), nil)
	next := child(list[3], 5, 0)
	grow(t, tree, next)
	has(t, "Ripe behind a root of round 2", tree.Ripe(cert(next, 0)), ids(list[2]))
	has(t, "Ripe of the root", tree.Ripe(cert(list[1], 0)), nil)
	has(t, "Ripe of the root's child", tree.Ripe(cert(list[2], 0)), nil)
}

// fork is a tree with several branches, and its blocks.
func fork(t *testing.T) (*blocks.Tree, []api.Block) {
	t.Helper()
	tree := fresh(t)
	r := root()
	a := child(r, 1, 1)
	b := child(r, 2, 2)
	c := child(a, 3, 3)
	d := child(b, 4, 4)
	e := child(a, 5, 5)
	f := child(c, 6, 6)
	g := child(d, 7, 7)
	list := []api.Block{a, b, c, d, e, f, g}
	grow(t, tree, list...)
	return tree, list
}

// P15.1: IDs, Get, Below and Path of a tree with branches.
func TestFork(t *testing.T) {
	tree, l := fork(t)
	r := root()
	has(t, "IDs", tree.IDs(), ids(r, l[0], l[1], l[2], l[3], l[4], l[5], l[6]))
	for i, c := range []struct{ of, below, path []api.Block }{
		{[]api.Block{r}, l, nil},
		{l[0:1], []api.Block{l[2], l[4], l[5]}, l[0:1]},
		{l[1:2], []api.Block{l[3], l[6]}, l[1:2]},
		{l[2:3], l[5:6], []api.Block{l[0], l[2]}},
		{l[3:4], l[6:7], []api.Block{l[1], l[3]}},
		{l[4:5], nil, []api.Block{l[0], l[4]}},
		{l[5:6], nil, []api.Block{l[0], l[2], l[5]}},
		{l[6:7], nil, []api.Block{l[1], l[3], l[6]}},
	} {
		id := craft.ID(c.of[0])
		has(t, fmt.Sprint("Below of block ", i), slices.Collect(tree.Below(id)), ids(c.below...))
		path, ok := tree.Path(id)
		if !ok {
			t.Errorf("Path of block %d says no", i)
		}
		has(t, fmt.Sprint("Path of block ", i), path, ids(c.path...))
		if b, ok := tree.Get(id); !ok || fmt.Sprint(b) != fmt.Sprint(c.of[0]) {
			t.Errorf("Get of block %d answers %v, %v", i, b, ok)
		}
	}
	for _, id := range []api.Digest{{}, craft.Digest(9), r.Parent} {
		if path, ok := tree.Path(id); ok || path != nil {
			t.Errorf("Path of what isn't there answers %x, %v", path, ok)
		}
		if b, ok := tree.Get(id); ok || fmt.Sprint(b) != fmt.Sprint(api.Block{}) {
			t.Errorf("Get of what isn't there answers %v, %v", b, ok)
		}
		if id != r.Parent {
			has(t, "Below of what isn't there", slices.Collect(tree.Below(id)), nil)
		}
	}
}

// P15.1: one who goes through what is below may stop, and begin anew.
func TestBelowStops(t *testing.T) {
	tree, l := fork(t)
	below := tree.Below(tree.Root())
	for range 2 {
		var got []api.Digest
		for id := range below {
			got = append(got, id)
			if len(got) == 3 {
				break
			}
		}
		has(t, "Below", got, ids(l[:3]...))
	}
}

// P15.1 and P15.2: Prune.
func TestPrune(t *testing.T) {
	tree, l := fork(t)
	before := fmt.Sprint(tree.IDs(), tree.High())
	if got, err := tree.Prune(craft.Digest(5)); err != api.ErrNone || got != nil {
		t.Errorf("Prune to what isn't there answers %x, %v", got, err)
	}
	if got, err := tree.Prune(craft.ID(l[4])); err != api.ErrProof || got != nil {
		t.Errorf("Prune to a block without certificate answers %x, %v", got, err)
	}
	if got, err := tree.Prune(tree.Root()); err != nil || got != nil {
		t.Errorf("Prune to the root answers %x, %v", got, err)
	}
	if got := fmt.Sprint(tree.IDs(), tree.High()); got != before {
		t.Errorf("these leave %s", got)
	}
	got, err := tree.Prune(craft.ID(l[0]))
	if err != nil {
		t.Fatal(err)
	}
	has(t, "Prune", got, ids(root(), l[1], l[3], l[6]))
	has(t, "IDs", tree.IDs(), ids(l[0], l[2], l[4], l[5]))
	if tree.Root() != craft.ID(l[0]) {
		t.Errorf("the root is %x", tree.Root())
	}
	for _, b := range []api.Block{root(), l[1], l[3], l[6]} {
		if _, ok := tree.Get(craft.ID(b)); ok {
			t.Error("a block that was taken out is there")
		}
		if _, ok := tree.Cert(craft.ID(b)); ok {
			t.Error("a block that was taken out has a certificate")
		}
		if err := tree.Learn(cert(b, 0)); err != api.ErrNone {
			t.Errorf("Learn of a block that was taken out answers %v", err)
		}
	}
	path, ok := tree.Path(craft.ID(l[5]))
	if !ok {
		t.Error("Path says no")
	}
	has(t, "Path", path, ids(l[2], l[5]))
	if path, ok := tree.Path(tree.Root()); !ok || path != nil {
		t.Errorf("Path of the root answers %x, %v", path, ok)
	}
	if fmt.Sprint(tree.High()) != fmt.Sprint(cert(l[2], 0)) {
		t.Errorf("High answers %v", tree.High())
	}
	if _, err := tree.Add(child(root(), 9, 9)); err != api.ErrParent {
		t.Errorf("Add behind a block that was taken out answers %v", err)
	}
	if got, err := tree.Prune(craft.ID(l[2])); err != nil || !slices.Equal(got, ids(l[0], l[4])) {
		t.Errorf("Prune again answers %x, %v", got, err)
	}
}

// P15.1 and the rules: what is handed in and out may be changed.
func TestCopies(t *testing.T) {
	r := root()
	r.Payload = [][]byte{[]byte("first")}
	q := cert(r, 4)
	tree, err := blocks.New(r, q)
	if err != nil {
		t.Fatal(err)
	}
	spoil := func(b api.Block, q api.QC) {
		clear(b.Payload[0])
		clear(q.Votes[0].Sig.Chains)
		clear(q.Votes)
	}
	a := child(r, 1, 7)
	a.Next = []api.Validator{{Power: 3}}
	a.Justify = cert(r, 4)
	id := grow(t, tree, a)[0]
	cq := cert(a, 5)
	if err := tree.Learn(cq); err != nil {
		t.Fatal(err)
	}
	wantRoot, wantA := pieces.Block(r), pieces.Block(a)
	same := func(name string) {
		t.Helper()
		b, _ := tree.Get(tree.Root())
		c, _ := tree.Get(id)
		q, _ := tree.Cert(tree.Root())
		if fmt.Sprint(b, c, q, tree.High()) != fmt.Sprint(wantRoot, wantA, cert(wantRoot, 4), cert(wantA, 5)) {
			t.Errorf("a change of %s shows", name)
		}
		if !slices.Equal(tree.IDs(), ids(wantRoot, wantA)) {
			t.Errorf("a change of %s shows in IDs", name)
		}
	}
	spoil(r, q)
	same("New's")
	spoil(a, cq)
	clear(a.Next)
	clear(a.Justify.Votes)
	same("Add's and Learn's")
	b, _ := tree.Get(id)
	clear(b.Payload)
	clear(b.Next)
	clear(b.Justify.Votes)
	clear(tree.High().Votes)
	c, _ := tree.Cert(tree.Root())
	clear(c.Votes)
	clear(tree.IDs())
	path, _ := tree.Path(id)
	clear(path)
	clear(tree.Ripe(cert(wantA, 1)))
	same("answers")
}
