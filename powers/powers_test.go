package powers_test

import (
	"slices"
	"testing"

	"quorate/api"
	"quorate/powers"
)

// set is validators of these powers, with keys by their places.
func set(list ...int) []api.Validator {
	v := make([]api.Validator, len(list))
	for i, p := range list {
		v[i] = api.Validator{Key: api.Digest{byte(i)}, Power: p}
	}
	return v
}

// keyed is validators of power 1 with these keys.
func keyed(list ...byte) []api.Validator {
	v := make([]api.Validator, len(list))
	for i, k := range list {
		v[i] = api.Validator{Key: api.Digest{15: k}, Power: 1}
	}
	return v
}

const most = api.MaxPower

// right is sets that are right.
func right() [][]api.Validator {
	return [][]api.Validator{
		set(1), set(2), set(most), set(1, 1), set(1, 1, 1), set(1, 1, 1, 1), set(1, 1, 1, 1, 1), set(1, 2, 3), set(5, 1, 1, 1),
		set(1, 1, 1, 1, 1, 1), set(1, 1, 1, 1, 1, 1, 1), set(1, 2, 3, 4, 5, 6, 7), set(10, 10, 10), set(100, 1, 1, 1),
		set(most, most, most, most, most, most, most), set(most, 1), set(3, 3, 4), set(7, 9, 11, 13), set(most-1, most, 1),
	}
}

// wrong is sets that aren't.
func wrong() [][]api.Validator {
	return [][]api.Validator{
		nil, {}, set(0), set(-1), set(most + 1), set(1, 0), set(1, 1, -5), set(1, most+1), set(1, 1, 1, 1, 1, 1, 0),
		set(1<<63 - 1), set(-1 << 63), set(1<<63-1, 1), set(1, 1, 1, 1, 1, 1, 1, 1), make([]api.Validator, 100),
		keyed(1, 1), keyed(1, 2, 1), keyed(1, 2, 3, 4, 5, 6, 6), keyed(9, 1, 2, 3, 4, 5, 9), keyed(0, 1, 0),
	}
}

// subsets is all places of n, some of them, in both orders.
func subsets(n int) [][]int {
	var list [][]int
	for bits := range 1 << n {
		var who []int
		for i := range n {
			if bits>>i&1 == 1 {
				who = append(who, i)
			}
		}
		back := slices.Clone(who)
		slices.Reverse(back)
		list = append(list, who, back)
	}
	return list
}

func total(v []api.Validator) int {
	sum := 0
	for _, x := range v {
		sum += x.Power
	}
	return sum
}

func of(v []api.Validator, who []int) int {
	sum := 0
	for _, i := range who {
		sum += v[i].Power
	}
	return sum
}

// P8.1: Check, Total and Quorum of sets that are right.
func TestRightSets(t *testing.T) {
	for _, v := range right() {
		if err := powers.Check(v); err != nil {
			t.Errorf("Check of %v answers %v", v, err)
		}
		if got := powers.Total(v); got != total(v) {
			t.Errorf("Total of %v answers %d", v, got)
		}
		q := powers.Quorum(v)
		if 3*q <= 2*total(v) || 3*(q-1) > 2*total(v) {
			t.Errorf("Quorum of %v answers %d", v, q)
		}
	}
	if err := powers.Check(keyed(0, 255, 1)); err != nil {
		t.Errorf("with a key of 0s Check answers %v", err)
	}
	for n, want := range []int{1: 1, 2: 2, 3: 3, 4: 3, 5: 4, 6: 5, 7: 5} {
		if got := powers.Quorum(keyed(1, 2, 3, 4, 5, 6, 7)[:n]); got != want {
			t.Errorf("of %d of power 1 Quorum answers %d, want %d", n, got, want)
		}
	}
}

// P8.1: sets that aren't right have no total, quorum or sums.
func TestWrongSets(t *testing.T) {
	for _, v := range wrong() {
		if err := powers.Check(v); err != api.ErrSet {
			t.Errorf("Check of %v answers %v", v, err)
		}
		if powers.Total(v) != 0 || powers.Quorum(v) != 0 {
			t.Errorf("of %v Total and Quorum answer %d, %d", v, powers.Total(v), powers.Quorum(v))
		}
		for _, who := range [][]int{nil, {0}, {0, 0}, {-1}, {0, 1, 2}, {99}} {
			if got, err := powers.Sum(v, who...); err != api.ErrSet || got != 0 {
				t.Errorf("Sum of %v and %v answers %d, %v", v, who, got, err)
			}
			if powers.Enough(v, who...) || powers.Few(v, who...) {
				t.Errorf("of %v some (%v) are enough or few", v, who)
			}
		}
	}
}

// P8.1: Sum, Enough and Few of all that may be told of right sets.
func TestSums(t *testing.T) {
	for _, v := range right() {
		for _, who := range subsets(len(v)) {
			kept := slices.Clone(who)
			sum := of(v, who)
			if got, err := powers.Sum(v, who...); err != nil || got != sum {
				t.Errorf("Sum of %v and %v answers %d, %v", v, who, got, err)
			}
			if got := powers.Enough(v, who...); got != (3*sum > 2*total(v)) {
				t.Errorf("Enough of %v and %v answers %v", v, who, got)
			}
			if got := powers.Few(v, who...); got != (3*sum < total(v)) {
				t.Errorf("Few of %v and %v answers %v", v, who, got)
			}
			if !slices.Equal(who, kept) {
				t.Fatal("what was handed in is changed")
			}
		}
	}
}

// P8.1: places that there aren't, and ones that are told twice.
func TestWrongPlaces(t *testing.T) {
	v := set(1, 2, 3, 4)
	for _, c := range []struct {
		who  []int
		want error
	}{
		{[]int{-1}, api.ErrRange}, {[]int{4}, api.ErrRange}, {[]int{0, 1, 2, 3, 4}, api.ErrRange}, {[]int{1 << 40}, api.ErrRange},
		{[]int{-1 << 63}, api.ErrRange}, {[]int{1<<63 - 1}, api.ErrRange}, {[]int{3, 2, -1}, api.ErrRange},
		{[]int{0, 0}, api.ErrTwice}, {[]int{3, 1, 3}, api.ErrTwice}, {[]int{0, 1, 2, 3, 0}, api.ErrTwice}, {[]int{2, 2, 2}, api.ErrTwice},
		{[]int{0, 0, 4}, api.ErrRange}, {[]int{5, 5}, api.ErrRange}, {[]int{-1, 0, 0}, api.ErrRange}, {[]int{1, 1, 1, -7}, api.ErrRange},
	} {
		if got, err := powers.Sum(v, c.who...); err != c.want || got != 0 {
			t.Errorf("Sum of %v answers %d, %v, want %v", c.who, got, err, c.want)
		}
		if powers.Enough(v, c.who...) || powers.Few(v, c.who...) {
			t.Errorf("%v are enough or few", c.who)
		}
	}
	if powers.Few(set(100, 1, 1), 1, 1) || powers.Enough(set(100, 1, 1), 0, 1, 1) {
		t.Error("one who is told twice counts")
	}
}

// P8.1: Same.
func TestSame(t *testing.T) {
	all := append(append(right(), wrong()...), keyed(1, 2), keyed(2, 1), keyed(1, 2, 3), set(2, 1, 1), set(1, 1, 2))
	for i, a := range all {
		for j, b := range all {
			want := len(a) == len(b)
			for k := range a {
				want = want && a[k].Key == b[k].Key && a[k].Power == b[k].Power
			}
			if got := powers.Same(a, b); got != want {
				t.Errorf("Same of sets %d and %d answers %v", i, j, got)
			}
		}
		if !powers.Same(a, slices.Clone(a)) {
			t.Errorf("Same of set %d and itself is no", i)
		}
	}
	for i := range api.DigestSize {
		a, b := set(1, 1), set(1, 1)
		b[1].Key[i] ^= 16
		if powers.Same(a, b) {
			t.Errorf("with byte %d of a key changed Same is yes", i)
		}
	}
}

// P8.1: Find, of any list: the first one.
func TestFind(t *testing.T) {
	for _, c := range []struct {
		v    []api.Validator
		key  byte
		want int
	}{
		{nil, 0, -1}, {keyed(1, 2, 3), 1, 0}, {keyed(1, 2, 3), 3, 2}, {keyed(1, 2, 3), 4, -1}, {keyed(1, 2, 3), 0, -1},
		{keyed(5, 7, 7, 7), 7, 1}, {keyed(0), 0, 0}, {keyed(1, 2, 3, 4, 5, 6, 7, 8, 9), 9, 8},
	} {
		if got := powers.Find(c.v, api.Digest{15: c.key}); got != c.want {
			t.Errorf("Find of %d in %v answers %d, want %d", c.key, c.v, got, c.want)
		}
	}
	for i := range api.DigestSize {
		var key api.Digest
		key[i] = 1
		if got := powers.Find(set(0), key); got != -1 {
			t.Errorf("Find of %x answers %d", key, got)
		}
	}
}

// P8.2: two quorums have more than a third in common; without some that are faulty at most the others are a quorum.
func TestQuorumsMeet(t *testing.T) {
	for _, v := range right() {
		n := len(v)
		for a := range 1 << n {
			one := places(a)
			if !powers.Enough(v, one...) {
				continue
			}
			for b := range 1 << n {
				if !powers.Enough(v, places(b)...) {
					continue
				}
				if common, err := powers.Sum(v, places(a&b)...); err != nil || 3*common <= powers.Total(v) {
					t.Fatalf("of %v the quorums %v and %v have %d in common", v, one, places(b), common)
				}
			}
		}
		for a := range 1 << n {
			if powers.Few(v, places(a)...) && !powers.Enough(v, places(1<<n-1-a)...) {
				t.Errorf("of %v those that aren't %v are no quorum", v, places(a))
			}
		}
	}
}

// places is the places whose bits are set.
func places(bits int) []int {
	var who []int
	for i := 0; bits>>i > 0; i++ {
		if bits>>i&1 == 1 {
			who = append(who, i)
		}
	}
	return who
}
