package pace_test

import (
	"testing"

	"quorate/api"
	"quorate/pace"
)

const (
	least = -1 << 63
	most  = 1<<63 - 1
	last  = api.MaxRound
)

func fresh(t *testing.T, round int) *pace.Pace {
	t.Helper()
	p, err := pace.New(round)
	if err != nil || p == nil {
		t.Fatalf("New(%d) answers %v, %v", round, p, err)
	}
	return p
}

func is(t *testing.T, p *pace.Pace, round, fails, left int) {
	t.Helper()
	if p.Round() != round || p.Fails() != fails || p.Left() != left {
		t.Errorf("the round is %d, fails %d, left %d; want %d, %d, %d", p.Round(), p.Fails(), p.Left(), round, fails, left)
	}
}

// P16.1: New.
func TestNew(t *testing.T) {
	for _, round := range []int{1, 2, 1 << 33, last - 1, last} {
		is(t, fresh(t, round), round, 0, 2)
	}
	for _, round := range []int{0, -1, least, last + 1, most} {
		if p, err := pace.New(round); err != api.ErrRound || p != nil {
			t.Errorf("New(%d) answers %v, %v", round, p, err)
		}
	}
}

// P16.1: QC and TC of all rounds about the pace's.
func TestCertificates(t *testing.T) {
	for _, tc := range []bool{false, true} {
		for _, c := range []struct {
			at, round int
			began     bool
			err       error
		}{
			{5, 5, true, nil}, {5, 6, true, nil}, {5, 100, true, nil}, {5, last - 1, true, nil}, {5, 4, false, nil}, {5, 0, false, nil},
			{5, -1, false, api.ErrRange}, {5, least, false, api.ErrRange}, {5, last, false, api.ErrRound}, {5, last + 1, false, api.ErrRound},
			{5, most, false, api.ErrRound}, {1, 0, false, nil}, {1, 1, true, nil}, {last, last, false, api.ErrRound}, {last, last - 1, false, nil},
			{last - 1, last - 1, true, nil},
		} {
			p := fresh(t, c.at)
			p.Tick()
			call, fails, left := p.QC, 0, 2
			if tc {
				call, fails, left = p.TC, 1, 4
			}
			if began, err := call(c.round); began != c.began || err != c.err {
				t.Errorf("at %d, of %d (a TC: %v) the answer is %v, %v", c.at, c.round, tc, began, err)
			}
			if c.began {
				is(t, p, c.round+1, fails, left)
			} else {
				is(t, p, c.at, 0, 1)
			}
		}
	}
}

// P16.1: the waits behind one, two, three .. rounds that failed, and behind a QC.
func TestWaits(t *testing.T) {
	p := fresh(t, 1)
	for fails, wait := range []int{2, 4, 8, 16, 16, 16, 16} {
		is(t, p, fails+1, fails, wait)
		for again := range 3 {
			for n := 1; n <= wait; n++ {
				if got := p.Tick(); got != (n == wait) {
					t.Errorf("behind %d fails tick %d (for the time %d) answers %v", fails, n, again, got)
				}
				left := wait - n
				if left == 0 {
					left = wait
				}
				is(t, p, fails+1, fails, left)
			}
		}
		p.Tick()
		if began, err := p.TC(fails + 1); !began || err != nil {
			t.Fatalf("TC answers %v, %v", began, err)
		}
	}
	if began, err := p.QC(6); began || err != nil {
		t.Errorf("QC of a round that was answers %v, %v", began, err)
	}
	is(t, p, 8, 7, 16)
	p.Tick()
	if began, err := p.QC(8); !began || err != nil {
		t.Errorf("QC answers %v, %v", began, err)
	}
	is(t, p, 9, 0, 2)
}

// P16.1: what changes nothing leaves the ticks too.
func TestNothingChanges(t *testing.T) {
	p := fresh(t, 9)
	p.TC(9)
	p.Tick()
	p.Tick()
	for _, round := range []int{-1, 0, 9, last, most, least} {
		p.QC(round)
		p.TC(round)
		is(t, p, 10, 1, 2)
	}
	p.Tick()
	if !p.Tick() {
		t.Error("the fourth tick isn't the last one")
	}
}

// P16.2: rounds never fall, and a round that lasts is told again and again, each time behind its wait.
func TestRoundsNeverFall(t *testing.T) {
	waits := []int{2, 4, 8, 16}
	for seed := range 30 {
		x := uint32(seed)
		next := func(n int) int {
			x = x*1664525 + 1013904223
			return int(x>>8) % n
		}
		p := fresh(t, 1+next(20))
		round, fails, since := p.Round(), 0, 0
		for range 500 {
			at := round + next(12) - 9
			switch next(8) {
			case 0:
				if began, _ := p.QC(at); began {
					fails, since = 0, 0
				}
			case 1:
				if began, _ := p.TC(at); began {
					fails, since = fails+1, 0
				}
			default:
				since++
				told := since == waits[min(fails, 3)]
				if told {
					since = 0
				}
				if got := p.Tick(); got != told {
					t.Fatalf("a tick answers %v, want %v", got, told)
				}
			}
			if p.Round() < round || p.Fails() != fails {
				t.Fatalf("the round is %d behind %d, fails %d, want %d", p.Round(), round, p.Fails(), fails)
			}
			round = p.Round()
		}
	}
}
