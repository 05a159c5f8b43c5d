package tally_test

import (
	"slices"
	"testing"

	"quorate/api"
	"quorate/powers"
	"quorate/tally"
)

// set is validators of these powers.
func set(list ...int) []api.Validator {
	v := make([]api.Validator, len(list))
	for i, p := range list {
		v[i] = api.Validator{Key: api.Digest{byte(i + 1)}, Power: p}
	}
	return v
}

func fresh(t *testing.T, v []api.Validator) *tally.Tally[string, int] {
	t.Helper()
	y, err := tally.New[string, int](v)
	if err != nil || y == nil {
		t.Fatalf("New answers %v, %v", y, err)
	}
	return y
}

// said is a model's word.
type said struct {
	key   string
	thing int
}

// model is the document's words: what each place said.
type model struct {
	v     []api.Validator
	words map[int]said
}

func (m *model) who(k string) []int {
	var list []int
	for i := range m.v {
		if w, ok := m.words[i]; ok && w.key == k {
			list = append(list, i)
		}
	}
	return list
}

func (m *model) put(k string, who, x int) (bool, error) {
	if who < 0 || who >= len(m.v) {
		return false, api.ErrRange
	}
	if _, ok := m.words[who]; ok {
		return false, api.ErrTwice
	}
	before := powers.Enough(m.v, m.who(k)...)
	m.words[who] = said{k, x}
	return !before && powers.Enough(m.v, m.who(k)...), nil
}

// holds asks all that a tally answers against the model.
func (m *model) holds(t *testing.T, y *tally.Tally[string, int]) {
	t.Helper()
	for _, k := range []string{"a", "b", "", "c"} {
		who := m.who(k)
		var things []int
		for _, i := range who {
			things = append(things, m.words[i].thing)
		}
		sum, _ := powers.Sum(m.v, who...)
		if got := y.Who(k); !slices.Equal(got, who) {
			t.Errorf("Who(%q) answers %v, want %v", k, got, who)
		}
		if got := y.Things(k); !slices.Equal(got, things) {
			t.Errorf("Things(%q) answers %v, want %v", k, got, things)
		}
		if got := y.Power(k); got != sum {
			t.Errorf("Power(%q) answers %d, want %d", k, got, sum)
		}
		if got := y.Enough(k); got != powers.Enough(m.v, who...) {
			t.Errorf("Enough(%q) answers %v", k, got)
		}
	}
	if y.Len() != len(m.words) {
		t.Errorf("Len answers %d, want %d", y.Len(), len(m.words))
	}
	last, n := -1, 0
	for i, x := range y.All() {
		if w, ok := m.words[i]; !ok || w.thing != x || i <= last {
			t.Errorf("All tells %d of place %d behind %d", x, i, last)
		}
		last = i
		n++
	}
	if n != len(m.words) {
		t.Errorf("All tells %d words, want %d", n, len(m.words))
	}
}

// P10.1: New.
func TestNew(t *testing.T) {
	for _, v := range [][]api.Validator{set(1), set(1, 2, 3), set(1, 1, 1, 1, 1, 1, 1), set(api.MaxPower, 1)} {
		y := fresh(t, v)
		(&model{v, map[int]said{}}).holds(t, y)
	}
	twins := set(1, 1)
	twins[1].Key = twins[0].Key
	for _, v := range [][]api.Validator{nil, {}, set(0), set(1, -1), set(api.MaxPower + 1), set(1, 1, 1, 1, 1, 1, 1, 1), twins} {
		if y, err := tally.New[string, int](v); err != api.ErrSet || y != nil {
			t.Errorf("New of %v answers %v, %v", v, y, err)
		}
	}
}

// P10.1: all orders of words of all validators, with two keys.
func TestAllOrders(t *testing.T) {
	for _, v := range [][]api.Validator{set(1), set(1, 1), set(1, 1, 1, 1), set(5, 1, 1, 1), set(2, 1, 3, 1), set(10, 1, 2)} {
		orders(len(v), nil, func(order []int) {
			for keys := range 1 << len(v) {
				y, m := fresh(t, v), &model{v, map[int]said{}}
				for _, who := range order {
					k := string(rune('a' + keys>>who&1))
					want, _ := m.put(k, who, 100+who)
					if got, err := y.Put(k, who, 100+who); err != nil || got != want {
						t.Fatalf("of %v, in the order %v by %b: Put(%q, %d) answers %v, %v, want %v", v, order, keys, k, who, got, err, want)
					}
				}
				m.holds(t, y)
			}
		})
	}
}

// orders tells all orders of 0 up to n - 1.
func orders(n int, begun []int, tell func([]int)) {
	if len(begun) == n {
		tell(begun)
		return
	}
	for i := range n {
		if !slices.Contains(begun, i) {
			orders(n, append(slices.Clone(begun), i), tell)
		}
	}
}

// P10.1: a row of words, wrong places and second words among them; each answer is asked behind each.
func TestRow(t *testing.T) {
	v := set(1, 2, 1, 3, 1, 1, 2)
	y, m := fresh(t, v), &model{v, map[int]said{}}
	for n, c := range []struct {
		key string
		who int
	}{
		{"a", 6}, {"a", 7}, {"a", -1}, {"b", 6}, {"a", 6}, {"", 0}, {"a", 3}, {"b", 0}, {"b", 1 << 40}, {"a", 1}, {"a", 1},
		{"a", 2}, {"a", -1 << 63}, {"c", 4}, {"a", 5}, {"a", 4}, {"c", 5}, {"zzz", 1<<63 - 1},
	} {
		want, wantErr := m.put(c.key, c.who, n)
		if got, err := y.Put(c.key, c.who, n); got != want || err != wantErr {
			t.Errorf("word %d: Put(%q, %d) answers %v, %v, want %v, %v", n, c.key, c.who, got, err, want, wantErr)
		}
		m.holds(t, y)
	}
}

// P10.1: the document's example.
func TestExample(t *testing.T) {
	y := fresh(t, set(1, 1, 1, 1))
	for i, want := range []bool{false, false, true, false} {
		who := []int{0, 1, 3, 2}[i]
		if got, err := y.Put("a", who, 0); err != nil || got != want {
			t.Errorf("Put(a, %d) answers %v, %v", who, got, err)
		}
	}
}

// P10.1: one who goes through words may stop.
func TestAllStops(t *testing.T) {
	y := fresh(t, set(1, 1, 1, 1))
	for _, who := range []int{3, 0, 2} {
		if _, err := y.Put("a", who, 10*who); err != nil {
			t.Fatal(err)
		}
	}
	var got []int
	for i, x := range y.All() {
		got = append(got, i, x)
		if len(got) == 4 {
			break
		}
	}
	if !slices.Equal(got, []int{0, 0, 2, 20}) {
		t.Errorf("All tells %v", got)
	}
	all := y.All()
	for range 2 {
		n := 0
		for range all {
			n++
		}
		if n != 3 {
			t.Errorf("All tells %d words", n)
		}
	}
}

// P10.1 and the rules: validators and answers are the caller's own.
func TestAnswersAreTheCallersOwn(t *testing.T) {
	v := set(1, 1, 1, 1)
	y := fresh(t, v)
	for who := range 3 {
		y.Put("a", who, 7+who)
	}
	v[0].Power, v[1].Key, v[2].Power = 1000, v[0].Key, -1
	if y.Power("a") != 3 || !y.Enough("a") {
		t.Error("a change of the validators shows")
	}
	clear(y.Who("a"))
	clear(y.Things("a"))
	if !slices.Equal(y.Who("a"), []int{0, 1, 2}) || !slices.Equal(y.Things("a"), []int{7, 8, 9}) {
		t.Error("a change of an answer shows")
	}
	w := set(1, 1, 1, 1)
	fresh(t, w)
	if !powers.Same(w, set(1, 1, 1, 1)) {
		t.Error("New changes the validators")
	}
}

// P10.1: keys and things of other types: what a block is, and things that hold lists.
func TestOtherTypes(t *testing.T) {
	y, err := tally.New[api.Digest, api.Signed](set(1, 1, 1))
	if err != nil {
		t.Fatal(err)
	}
	a, b := api.Digest{15: 1}, api.Digest{15: 2}
	y.Put(a, 2, api.Signed{Who: 2})
	y.Put(b, 1, api.Signed{Who: 1, Sig: api.Sig{Leaf: 9}})
	if got := y.Things(b); len(got) != 1 || got[0].Sig.Leaf != 9 {
		t.Errorf("Things answers %v", got)
	}
	if got := y.Who(a); !slices.Equal(got, []int{2}) {
		t.Errorf("Who answers %v", got)
	}
	z, err := tally.New[struct{}, struct{}](set(2, 1))
	if err != nil {
		t.Fatal(err)
	}
	if got, err := z.Put(struct{}{}, 1, struct{}{}); got || err != nil {
		t.Errorf("Put of power 1 of 3 answers %v, %v", got, err)
	}
	if got, err := z.Put(struct{}{}, 0, struct{}{}); !got || err != nil {
		t.Errorf("Put of power 2 more answers %v, %v", got, err)
	}
}
