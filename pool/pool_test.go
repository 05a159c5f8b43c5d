package pool_test

import (
	"bytes"
	"slices"
	"strings"
	"testing"

	"quorate/api"
	"quorate/pool"
)

// txs is a list of the words of a text.
func txs(text string) [][]byte {
	var list [][]byte
	for _, w := range strings.Fields(text) {
		list = append(list, []byte(w))
	}
	return list
}

func words(list [][]byte) string {
	return string(bytes.Join(list, []byte(" ")))
}

// filled is a pool of a text's words.
func filled(t *testing.T, text string) *pool.Pool {
	t.Helper()
	p := pool.New()
	for _, tx := range txs(text) {
		if err := p.Add(tx); err != nil {
			t.Fatalf("Add(%s) answers %v", tx, err)
		}
	}
	return p
}

// holds asks what waits, in order.
func holds(t *testing.T, p *pool.Pool, want string) {
	t.Helper()
	if got := words(slices.Collect(p.All())); got != want {
		t.Errorf("there wait %q, want %q", got, want)
	}
	if p.Len() != len(strings.Fields(want)) {
		t.Errorf("Len answers %d of %q", p.Len(), want)
	}
	for _, w := range []string{"a", "b", "c", "d", "e", "zz", "", "ab"} {
		if got := p.Has([]byte(w)); got != slices.Contains(strings.Fields(want), w) {
			t.Errorf("of %q Has(%q) answers %v", want, w, got)
		}
	}
}

const sixteen = "a b c d e f g h i j k l m n o p"

// P17.1: Add.
func TestAdd(t *testing.T) {
	p := pool.New()
	holds(t, p, "")
	for _, n := range []int{0, 17, 18, 256, 1 << 16} {
		if err := p.Add(make([]byte, n)); err != api.ErrForm {
			t.Errorf("Add of %d bytes answers %v", n, err)
		}
	}
	if err := p.Add(nil); err != api.ErrForm {
		t.Errorf("Add of none answers %v", err)
	}
	holds(t, p, "")
	for n := 1; n <= 16; n++ {
		if err := p.Add(make([]byte, n)); err != nil {
			t.Errorf("Add of %d bytes answers %v", n, err)
		}
	}
	if p.Len() != 16 || !p.Has(make([]byte, 16)) || p.Has(make([]byte, 17)) || p.Has(nil) {
		t.Errorf("%d wait", p.Len())
	}
	p = filled(t, "a b")
	for range 2 {
		if err := p.Add([]byte("a")); err != api.ErrTwice {
			t.Errorf("Add of what waits answers %v", err)
		}
	}
	holds(t, p, "a b")
}

// P17.1: MaxPool wait at most; ErrForm and ErrTwice come ahead.
func TestFull(t *testing.T) {
	p := filled(t, sixteen)
	for _, c := range []struct {
		tx   string
		want error
	}{{"q", api.ErrFull}, {"p", api.ErrTwice}, {"", api.ErrForm}, {strings.Repeat("x", 17), api.ErrForm}, {strings.Repeat("x", 16), api.ErrFull}} {
		if err := p.Add([]byte(c.tx)); err != c.want {
			t.Errorf("Add(%q) to a full pool answers %v, want %v", c.tx, err, c.want)
		}
	}
	holds(t, p, sixteen)
	if n := p.Drop([]byte("c")); n != 1 {
		t.Errorf("Drop answers %d", n)
	}
	if err := p.Add([]byte("q")); err != nil {
		t.Errorf("Add behind Drop answers %v", err)
	}
	if err := p.Add([]byte("c")); err != api.ErrFull {
		t.Errorf("Add to a pool that is full again answers %v", err)
	}
	holds(t, p, "a b d e f g h i j k l m n o p q")
}

// P17.1: Take.
func TestTake(t *testing.T) {
	p := filled(t, "a b c d e")
	for _, c := range []struct {
		n             int
		without, want string
	}{
		{2, "b", "a c"}, {0, "", ""}, {-1, "", ""}, {-1 << 63, "", ""}, {1, "", "a"}, {5, "", "a b c d e"}, {6, "", "a b c d e"},
		{1<<63 - 1, "", "a b c d e"}, {2, "a b c", "d e"}, {3, "a b c", "d e"}, {9, "a b c d e", ""}, {2, "zz ab", "a b"},
		{2, "b b b", "a c"}, {1, "e", "a"}, {4, "e a", "b c d"}, {0, "a", ""},
	} {
		if got := words(p.Take(c.n, txs(c.without)...)); got != c.want {
			t.Errorf("Take(%d, %s) answers %q, want %q", c.n, c.without, got, c.want)
		}
		holds(t, p, "a b c d e")
	}
	if got := words(p.Take(2, nil, []byte{})); got != "a b" {
		t.Errorf("without no bytes Take answers %q", got)
	}
	if got := pool.New().Take(3); len(got) != 0 {
		t.Errorf("of none Take answers %q", got)
	}
}

// P17.1: Drop.
func TestDrop(t *testing.T) {
	for _, c := range []struct {
		drop string
		want int
		left string
	}{
		{"", 0, "a b c d e"}, {"a", 1, "b c d e"}, {"e a", 2, "b c d"}, {"c c c", 1, "a b d e"}, {"zz", 0, "a b c d e"},
		{"zz b ab", 1, "a c d e"}, {"e d c b a", 5, ""}, {"a b c d e f", 5, ""},
	} {
		p := filled(t, "a b c d e")
		list := txs(c.drop)
		if got := p.Drop(list...); got != c.want {
			t.Errorf("Drop(%s) answers %d, want %d", c.drop, got, c.want)
		}
		if words(list) != c.drop {
			t.Fatal("Drop changes its list")
		}
		holds(t, p, c.left)
		if got := p.Drop(txs(c.drop)...); got != 0 {
			t.Errorf("Drop(%s) again answers %d", c.drop, got)
		}
	}
	p := filled(t, "a b")
	if got := p.Drop(nil, []byte{}); got != 0 {
		t.Errorf("Drop of no bytes answers %d", got)
	}
	p.Drop([]byte("a"))
	if err := p.Add([]byte("a")); err != nil {
		t.Errorf("Add of what was dropped answers %v", err)
	}
	holds(t, p, "b a")
}

// P17.1: All is as it was when one began, and one may stop.
func TestAll(t *testing.T) {
	p := filled(t, "a b c d")
	all := p.All()
	var got [][]byte
	for tx := range all {
		got = append(got, tx)
		p.Drop([]byte("a"), []byte("c"))
		p.Add([]byte("e"))
	}
	if words(got) != "a b c d" {
		t.Errorf("All tells %q", words(got))
	}
	holds(t, p, "b d e")
	got = nil
	for tx := range all {
		got = append(got, tx)
		if len(got) == 2 {
			break
		}
	}
	if words(got) != "b d" {
		t.Errorf("All tells %q, and then one stops", words(got))
	}
}

// P17.1 and the rules: transactions that are handed in and out may be changed.
func TestCopies(t *testing.T) {
	p := pool.New()
	tx := []byte("a")
	if err := p.Add(tx); err != nil {
		t.Fatal(err)
	}
	tx[0] = 'z'
	holds(t, p, "a")
	for _, tx := range p.Take(1) {
		tx[0] = 'z'
	}
	for tx := range p.All() {
		tx[0] = 'z'
	}
	holds(t, p, "a")
	without := txs("b c")
	p.Take(9, without...)
	if words(without) != "b c" {
		t.Error("Take changes its list")
	}
}

// P17.1: calls in any order, against a plain list.
func TestAnyOrder(t *testing.T) {
	for seed := range 40 {
		x := uint32(seed)
		next := func(n int) int {
			x = x*1664525 + 1013904223
			return int(x>>8) % n
		}
		p := pool.New()
		var want []string
		for range 300 {
			w := string(rune('a' + next(26)))
			switch next(5) {
			case 0:
				n := p.Drop([]byte(w))
				if i := slices.Index(want, w); i >= 0 {
					want = slices.Delete(want, i, i+1)
					n--
				}
				if n != 0 {
					t.Fatalf("Drop answers %d too many", n)
				}
			default:
				var wantErr error
				if slices.Contains(want, w) {
					wantErr = api.ErrTwice
				} else if len(want) == 16 {
					wantErr = api.ErrFull
				} else {
					want = append(want, w)
				}
				if err := p.Add([]byte(w)); err != wantErr {
					t.Fatalf("Add answers %v, want %v", err, wantErr)
				}
			}
			holds(t, p, strings.Join(want, " "))
		}
	}
}
