package turns_test

import (
	"slices"
	"testing"

	"quorate/api"
	"quorate/turns"
)

const (
	least = -1 << 63
	most  = 1<<63 - 1
)

var noCircles = []int{0, -1, 8, 9, 1 << 40, least, most}

// P12.1: Leader.
func TestLeader(t *testing.T) {
	for n := 1; n <= 7; n++ {
		who := 0
		for round := range 50 {
			if got := turns.Leader(n, round); got != who {
				t.Errorf("Leader(%d, %d) answers %d, want %d", n, round, got, who)
			}
			who++
			if who == n {
				who = 0
			}
		}
		for _, round := range []int{api.MaxRound, api.MaxRound + 1, most} {
			if got := turns.Leader(n, round); got != int(uint64(round)%uint64(n)) {
				t.Errorf("Leader(%d, %d) answers %d", n, round, got)
			}
		}
		for _, round := range []int{-1, -n, -2 * n, -100, least} {
			if got := turns.Leader(n, round); got != -1 {
				t.Errorf("Leader(%d, %d) answers %d", n, round, got)
			}
		}
	}
	for _, n := range noCircles {
		for _, round := range []int{0, 1, 5, -1, most} {
			if got := turns.Leader(n, round); got != -1 {
				t.Errorf("Leader(%d, %d) answers %d", n, round, got)
			}
		}
	}
}

// P12.1: Wait.
func TestWait(t *testing.T) {
	for i, want := range []int{2, 4, 8, 16, 16, 16, 16, 16} {
		if got := turns.Wait(i); got != want {
			t.Errorf("Wait(%d) answers %d, want %d", i, got, want)
		}
	}
	for _, fails := range []int{31, 32, 61, 62, 63, 64, 65, 127, 128, 1 << 31, 1 << 40, most} {
		if got := turns.Wait(fails); got != 16 {
			t.Errorf("Wait(%d) answers %d", fails, got)
		}
	}
	for _, fails := range []int{-1, -2, -64, -1 << 40, least} {
		if got := turns.Wait(fails); got != 2 {
			t.Errorf("Wait(%d) answers %d", fails, got)
		}
	}
}

// P12.1: Next.
func TestNext(t *testing.T) {
	for _, round := range []int{0, 1, 2, 99, 1 << 32, api.MaxRound - 2, api.MaxRound - 1} {
		if got, err := turns.Next(round); err != nil || got != round+1 {
			t.Errorf("Next(%d) answers %d, %v", round, got, err)
		}
	}
	for _, round := range []int{-1, -2, least, api.MaxRound, api.MaxRound + 1, most} {
		if got, err := turns.Next(round); err != api.ErrRound || got != 0 {
			t.Errorf("Next(%d) answers %d, %v", round, got, err)
		}
	}
}

// P12.1: Turn, also at the end of all rounds.
func TestTurn(t *testing.T) {
	for n := 1; n <= 7; n++ {
		for who := range n {
			for _, from := range []int{0, 1, 2, 3, 4, 5, 6, 7, 8, 13, 14, 1000003, 1 << 39} {
				want := from
				for want%n != who {
					want++
				}
				if got, err := turns.Turn(n, who, from); err != nil || got != want {
					t.Errorf("Turn(%d, %d, %d) answers %d, %v, want %d", n, who, from, got, err, want)
				}
			}
			for from := api.MaxRound - 9; from <= api.MaxRound; from++ {
				want, wantErr := 0, error(api.ErrRound)
				for round := api.MaxRound; round >= from; round-- {
					if round%n == who {
						want, wantErr = round, nil
					}
				}
				if got, err := turns.Turn(n, who, from); err != wantErr || got != want {
					t.Errorf("Turn(%d, %d, %d) answers %d, %v, want %d, %v", n, who, from, got, err, want, wantErr)
				}
			}
			for _, from := range []int{api.MaxRound + 1, api.MaxRound + 7, 1 << 50, most - 1, most} {
				if got, err := turns.Turn(n, who, from); err != api.ErrRound || got != 0 {
					t.Errorf("Turn(%d, %d, %d) answers %d, %v", n, who, from, got, err)
				}
			}
		}
	}
}

// P12.1: Turn of numbers that there aren't.
func TestTurnOfWrongNumbers(t *testing.T) {
	for _, c := range [][3]int{
		{4, -1, 0}, {4, 4, 0}, {4, 5, 0}, {1, 1, 0}, {7, 7, 5}, {4, least, 0}, {4, most, 0},
		{4, 0, -1}, {4, 3, least}, {7, 6, -7}, {4, -1, -1}, {4, 4, most}, {4, -1, most},
	} {
		if got, err := turns.Turn(c[0], c[1], c[2]); err != api.ErrRange || got != 0 {
			t.Errorf("Turn%v answers %d, %v", c, got, err)
		}
	}
	for _, n := range noCircles {
		for _, who := range []int{0, 1, -1, n - 1, n} {
			if got, err := turns.Turn(n, who, 3); err != api.ErrRange || got != 0 {
				t.Errorf("Turn(%d, %d, 3) answers %d, %v", n, who, got, err)
			}
		}
	}
}

// told is the first pairs of From, so many at most.
func told(n, round, many int) [][2]int {
	var list [][2]int
	for r, l := range turns.From(n, round) {
		if len(list) == many {
			break
		}
		list = append(list, [2]int{r, l})
	}
	return list
}

// P12.1: From, at the beginning, in the middle, at the end.
func TestFrom(t *testing.T) {
	for n := 1; n <= 7; n++ {
		for _, round := range []int{0, 1, 6, 100, 1 << 35, api.MaxRound - 30} {
			var want [][2]int
			for r := round; r < round+25; r++ {
				want = append(want, [2]int{r, r % n})
			}
			if got := told(n, round, 25); !slices.Equal(got, want) {
				t.Errorf("From(%d, %d) tells %v", n, round, got)
			}
		}
		for left := range 4 {
			var want [][2]int
			for r := api.MaxRound - left; r <= api.MaxRound; r++ {
				want = append(want, [2]int{r, r % n})
			}
			if got := told(n, api.MaxRound-left, 25); !slices.Equal(got, want) {
				t.Errorf("From(%d, MaxRound - %d) tells %v", n, left, got)
			}
		}
		for _, round := range []int{api.MaxRound + 1, api.MaxRound + 2, most - 1, most} {
			if got := told(n, round, 5); got != nil {
				t.Errorf("From(%d, %d) tells %v", n, round, got)
			}
		}
	}
	for _, n := range noCircles {
		for _, round := range []int{0, 5, -1, api.MaxRound} {
			if got := told(n, round, 5); got != nil {
				t.Errorf("From(%d, %d) tells %v", n, round, got)
			}
		}
	}
}

// P12.1: one sequence may be gone through again.
func TestFromAgain(t *testing.T) {
	rounds := turns.From(3, api.MaxRound-2)
	for range 2 {
		sum, n := 0, 0
		for r := range rounds {
			sum += r - api.MaxRound
			n++
		}
		if n != 3 || sum != -3 {
			t.Errorf("From tells %d rounds, with the sum %d", n, sum)
		}
	}
}

// row is the document's words: long places from some place on, round the circle, none bad.
func row(n, long int, bad []int) bool {
	for start := range n {
		good := true
		for i := range long {
			good = good && !slices.Contains(bad, (start+i)%n)
		}
		if good {
			return true
		}
	}
	return false
}

// P12.1: Row of all circles, bad ones and lengths.
func TestRow(t *testing.T) {
	for n := 1; n <= 7; n++ {
		for bits := range 1 << n {
			var bad []int
			for i := range n {
				if bits>>i&1 == 1 {
					bad = append([]int{i}, bad...)
				}
			}
			for long := range 2*n + 3 {
				if got := turns.Row(n, long, bad...); got != row(n, long, bad) {
					t.Errorf("Row(%d, %d, %v) answers %v", n, long, bad, got)
				}
			}
			if got := turns.Row(n, most, bad...); got != (bits == 0) {
				t.Errorf("Row(%d, most, %v) answers %v", n, bad, got)
			}
			for _, long := range []int{0, -1, least} {
				if !turns.Row(n, long, bad...) {
					t.Errorf("Row(%d, %d, %v) is no", n, long, bad)
				}
			}
		}
	}
}

// P12.1: bad ones that are no places, or told twice; circles that there aren't.
func TestRowOfWrongNumbers(t *testing.T) {
	bad := []int{-1, 4, 5, 8, least, most}
	if !turns.Row(4, 4, bad...) || !turns.Row(4, 100, bad...) {
		t.Error("bad ones that are no places count")
	}
	if turns.Row(4, 4, 2, 2) || !turns.Row(4, 3, 2, 2, 2) {
		t.Error("a bad one that is told twice counts otherwise")
	}
	for _, n := range noCircles {
		for _, long := range []int{least, -1, 0, 1, 2, 8, most} {
			if turns.Row(n, long) || turns.Row(n, long, 0) {
				t.Errorf("Row(%d, %d) is yes", n, long)
			}
		}
	}
}
