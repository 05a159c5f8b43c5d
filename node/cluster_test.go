package node_test

import (
	"fmt"
	"testing"

	"quorate/api"
	"quorate/craft"
	"quorate/disk"
	"quorate/keys"
	"quorate/node"
	"quorate/powers"
)

// post is a message on its way.
type post struct {
	to   int
	data []byte
}

// cluster is several good nodes, and the messages between them.
type cluster struct {
	*testing.T
	ks    []*keys.Key
	nodes []*node.Node
	disks []*disk.Disk
	mail  []post
	deaf  map[int]bool
}

func newCluster(t *testing.T, ks []*keys.Key, v []api.Validator) *cluster {
	t.Helper()
	c := &cluster{T: t, ks: ks, deaf: map[int]bool{}}
	for _, k := range ks {
		d, err := disk.New(sectors)
		must(t, err)
		n, err := node.Format(d, k, v)
		must(t, err)
		c.nodes, c.disks = append(c.nodes, n), append(c.disks, d)
	}
	return c
}

// put puts what a node sent on its way.
func (c *cluster) put(from int, outs []node.Out) {
	v := c.nodes[from].Ground().Validators
	for _, o := range outs {
		for i, k := range c.ks {
			all := o.To == (api.Digest{}) && i != from && powers.Find(v, k.Root()) >= 0
			if all || o.To == k.Root() {
				c.mail = append(c.mail, post{i, o.Data})
			}
		}
	}
}

// calm delivers all, and ticks, so many times; deaf nodes hear and do nothing.
func (c *cluster) calm(steps int) {
	c.Helper()
	for range steps {
		for budget := 3000; len(c.mail) > 0 && budget > 0; budget-- {
			m := c.mail[0]
			c.mail = c.mail[1:]
			if !c.deaf[m.to] {
				outs, _ := c.nodes[m.to].Deliver(m.data)
				c.put(m.to, outs)
			}
		}
		for i, n := range c.nodes {
			if !c.deaf[i] {
				outs, _ := n.Tick()
				c.put(i, outs)
			}
		}
	}
}

// agree asks that of any two nodes' commits the one's are the beginning of the other's, and how many the least ones are.
func (c *cluster) agree() int {
	c.Helper()
	least := 1 << 30
	for i, a := range c.nodes {
		x := a.Commits()
		if !c.deaf[i] {
			least = min(least, len(x))
		}
		for j, b := range c.nodes {
			y := b.Commits()
			if n := min(len(x), len(y)); fmt.Sprint(x[:n]) != fmt.Sprint(y[:n]) {
				c.Fatalf("nodes %d and %d have unlike commits: %x, %x", i, j, x, y)
			}
		}
		c.joined(a)
	}
	return least
}

// joined asks that a node's commits are a row by parents, epoch by epoch, with certificates that fit, and its tree begins with the last one.
func (c *cluster) joined(n *node.Node) {
	c.Helper()
	number := 1
	parent := craft.ID(api.Block{Epoch: 1})
	for b, q := range n.Committed() {
		if b.Parent != parent || b.Epoch != number || q.Block != craft.ID(b) || q.Round != b.Round || q.Epoch != b.Epoch {
			c.Fatalf("a commit isn't joined to the one ahead of it: %v", b)
		}
		parent = craft.ID(b)
		if len(b.Next) > 0 {
			number++
			parent = craft.ID(api.Block{Epoch: number, Parent: parent})
		}
	}
	if n.Tree()[0] != parent {
		c.Fatalf("the tree begins with %x, want %x", n.Tree()[0], parent)
	}
}

// P21.1 and P21.3: in calm all commit the same; a transaction that all were told stands in it once.
func TestCalm(t *testing.T) {
	for _, list := range [][]int{{1}, {1, 1}, {1, 1, 1}, {1, 1, 1, 1}, {3, 1, 1, 2}, {1, 1, 1, 1, 1, 1, 1}} {
		ks := craft.Keys(len(list))
		c := newCluster(t, ks, craft.Validators(ks, list...))
		for i, n := range c.nodes {
			for _, tx := range []string{"one", "two", "three", "four", "five"} {
				outs, err := n.Submit([]byte(tx))
				must(t, err)
				c.put(i, outs)
			}
		}
		before := 0
		for range 6 {
			c.calm(2)
			now := c.agree()
			if now < before {
				t.Errorf("of %v there were %d commits, now there are %d", list, before, now)
			}
			before = now
		}
		if before < 3 {
			t.Errorf("of %v all have %d commits", list, before)
		}
		for i, n := range c.nodes {
			seen := map[string]int{}
			for tx := range n.Sequence() {
				seen[string(tx)]++
			}
			if fmt.Sprint(seen) != "map[five:1 four:1 one:1 three:1 two:1]" || n.Waits() != 0 {
				t.Errorf("of %v node %d committed %v, and %d wait", list, i, seen, n.Waits())
			}
		}
	}
}

// P21.1: with one of five silent commits grow, and behind it that one has what the others have.
func TestSilent(t *testing.T) {
	for who := range 5 {
		ks := craft.Keys(5)
		c := newCluster(t, ks, craft.Validators(ks))
		c.deaf[who] = true
		c.calm(14)
		least := c.agree()
		if least < 3 {
			t.Errorf("without node %d all have %d commits", who, least)
		}
		c.deaf[who] = false
		c.calm(20)
		if now := c.agree(); now < least {
			t.Errorf("node %d, behind its silence, makes it %d commits, the others had %d", who, now, least)
		}
	}
}

// P21.1: when all are told to go on with some of them, these go on in a further epoch.
func TestReconfigured(t *testing.T) {
	ks := craft.Keys(5)
	c := newCluster(t, ks, craft.Validators(ks[:4]))
	if c.nodes[4].Place() != -1 {
		t.Errorf("the fifth node's place is %d", c.nodes[4].Place())
	}
	next := craft.Validators(ks[1:], 1, 2, 1, 1)
	for i, n := range c.nodes {
		outs, err := n.Reconfigure(next)
		must(t, err)
		c.put(i, outs)
	}
	c.calm(30)
	c.agree()
	for i := 1; i < 4; i++ {
		g := c.nodes[i].Ground()
		if g.Epoch != 2 || !powers.Same(g.Validators, next) || c.nodes[i].Place() != i-1 || c.nodes[i].State().Epoch != 2 {
			t.Errorf("node %d is in %v, at place %d", i, g, c.nodes[i].Place())
		}
		if n := len(c.nodes[i].Commits()); n < 4 {
			t.Errorf("node %d has %d commits", i, n)
		}
	}
}
