package rules_test

import (
	"bytes"
	"testing"

	"quorate/api"
	"quorate/rules"
)

type state = rules.State

const (
	least = -1 << 63
	most  = 1<<63 - 1
	last  = api.MaxRound
)

// wrong is states that aren't right.
func wrong() []state {
	return []state{
		{Epoch: -1}, {Epoch: api.MaxEpoch + 1}, {Voted: -1}, {Voted: last + 1}, {Locked: -1}, {Locked: last + 1},
		{Proposed: -1}, {Proposed: last + 1}, {Leaf: -1}, {Leaf: 33}, {Epoch: least}, {Voted: most}, {Leaf: most}, {Leaf: least},
		{-1, -1, -1, -1, -1}, {1, 2, last + 1, 4, 5}, {1, 2, 3, -9, 5},
	}
}

// right is states that are.
func right() []state {
	return []state{
		{}, {Epoch: 1}, {Epoch: api.MaxEpoch}, {1, 2, 3, 4, 5}, {1, last, 0, 0, 0}, {1, 0, last, 0, 0}, {1, 0, 0, last, 0},
		{1, 0, 0, 0, 32}, {api.MaxEpoch, last, last, last, 32}, {2, 1 << 39, 1 << 20, 1 << 10, 31},
	}
}

// P13.1: Right.
func TestRight(t *testing.T) {
	for _, s := range right() {
		if !s.Right() {
			t.Errorf("%v isn't right", s)
		}
	}
	for _, s := range wrong() {
		if s.Right() {
			t.Errorf("%v is right", s)
		}
	}
}

// is asks what a step answers: with an error the state as it is.
func is(t *testing.T, name string, s state, got state, err error, want state, wantErr error) {
	t.Helper()
	if wantErr != nil {
		want = s
	}
	if got != want || err != wantErr {
		t.Errorf("%v: %s answers %v, %v, want %v, %v", s, name, got, err, want, wantErr)
	}
}

// P13.1: votes: each rule at its edges, and which comes first.
func TestVote(t *testing.T) {
	s := state{Epoch: 3, Voted: 10, Locked: 6, Proposed: 4, Leaf: 8}
	full := s
	full.Leaf = 32
	for _, c := range []struct {
		s                  state
		epoch, round, q, g int
		voted, locked      int
		err                error
	}{
		{s, 3, 11, 6, 5, 11, 6, nil},
		{s, 3, 11, 10, 5, 11, 6, nil},
		{s, 3, 11, 10, 6, 11, 6, nil},
		{s, 3, 11, 10, 7, 11, 7, nil},
		{s, 3, 11, 10, 9, 11, 9, nil},
		{s, 3, 11, 10, 10, 11, 10, nil},
		{s, 3, 11, 10, 11, 11, 6, nil},
		{s, 3, 11, 10, most, 11, 6, nil},
		{s, 3, 11, 10, -1, 11, 6, nil},
		{s, 3, 11, 10, least, 11, 6, nil},
		{s, 3, 50, 6, 0, 50, 6, nil},
		{s, 3, last, last - 1, last - 2, last, last - 2, nil},
		{s, 2, 11, 10, 9, 0, 0, api.ErrEpoch},
		{s, 4, 11, 10, 9, 0, 0, api.ErrEpoch},
		{s, least, 11, 10, 9, 0, 0, api.ErrEpoch},
		{s, 3, 0, -1, 0, 0, 0, api.ErrRound},
		{s, 3, -1, -2, 0, 0, 0, api.ErrRound},
		{s, 3, least, 0, 0, 0, 0, api.ErrRound},
		{s, 3, last + 1, 10, 9, 0, 0, api.ErrRound},
		{s, 3, most, 10, 9, 0, 0, api.ErrRound},
		{s, 3, 11, -1, 0, 0, 0, api.ErrRound},
		{s, 3, 11, 11, 0, 0, 0, api.ErrRound},
		{s, 3, 11, most, 0, 0, 0, api.ErrRound},
		{s, 3, 10, 9, 8, 0, 0, api.ErrOld},
		{s, 3, 1, 0, 0, 0, 0, api.ErrOld},
		{s, 3, 11, 5, 4, 0, 0, api.ErrUnsafe},
		{s, 3, 11, 0, 0, 0, 0, api.ErrUnsafe},
		{full, 3, 11, 10, 9, 0, 0, api.ErrSpent},
		{s, 4, 0, 99, 9, 0, 0, api.ErrEpoch},
		{s, 3, 5, 5, 0, 0, 0, api.ErrRound},
		{s, 3, 5, 2, 0, 0, 0, api.ErrOld},
		{full, 3, 11, 5, 0, 0, 0, api.ErrUnsafe},
		{full, 3, 10, 9, 0, 0, 0, api.ErrOld},
		{state{Epoch: 3}, 3, 1, 0, 0, 1, 0, nil},
		{state{}, 0, 1, 0, 0, 1, 0, nil},
		{state{Leaf: 31}, 0, 1, 0, 0, 1, 0, nil},
		{state{Voted: last}, 0, last, 3, 0, 0, 0, api.ErrOld},
	} {
		want := c.s
		want.Voted, want.Locked, want.Leaf = c.voted, c.locked, c.s.Leaf+1
		got, err := c.s.Vote(c.epoch, c.round, c.q, c.g)
		is(t, "Vote", c.s, got, err, want, c.err)
	}
}

// P13.1: the document's example.
func TestExample(t *testing.T) {
	s, err := state{Epoch: 1}.Vote(1, 3, 2, 1)
	if err != nil || s != (state{1, 3, 1, 0, 1}) {
		t.Fatalf("Vote(1, 3, 2, 1) answers %v, %v", s, err)
	}
	got, err := s.Vote(1, 3, 2, 1)
	is(t, "Vote(1, 3, 2, 1)", s, got, err, s, api.ErrOld)
	got, err = s.Vote(1, 4, 0, 0)
	is(t, "Vote(1, 4, 0, 0)", s, got, err, s, api.ErrUnsafe)
}

// P13.1: late words.
func TestLate(t *testing.T) {
	s := state{Epoch: 3, Voted: 10, Locked: 6, Proposed: 4, Leaf: 8}
	full := s
	full.Leaf = 32
	for _, c := range []struct {
		s            state
		epoch, round int
		voted        int
		err          error
	}{
		{s, 3, 1, 10, nil}, {s, 3, 9, 10, nil}, {s, 3, 10, 10, nil}, {s, 3, 11, 11, nil}, {s, 3, last, last, nil},
		{s, 2, 11, 0, api.ErrEpoch}, {s, 4, 0, 0, api.ErrEpoch}, {full, most, 11, 0, api.ErrEpoch},
		{s, 3, 0, 0, api.ErrRound}, {s, 3, -1, 0, api.ErrRound}, {s, 3, last + 1, 0, api.ErrRound}, {full, 3, least, 0, api.ErrRound},
		{full, 3, 11, 0, api.ErrSpent}, {full, 3, 1, 0, api.ErrSpent},
		{state{Leaf: 31}, 0, 1, 1, nil},
	} {
		want := c.s
		want.Voted, want.Leaf = c.voted, c.s.Leaf+1
		got, err := c.s.Late(c.epoch, c.round)
		is(t, "Late", c.s, got, err, want, c.err)
	}
}

// P13.1: proposals.
func TestPropose(t *testing.T) {
	s := state{Epoch: 3, Voted: 10, Locked: 6, Proposed: 4, Leaf: 8}
	full := s
	full.Leaf = 32
	for _, c := range []struct {
		s            state
		epoch, round int
		err          error
	}{
		{s, 3, 5, nil}, {s, 3, 10, nil}, {s, 3, 11, nil}, {s, 3, last, nil},
		{s, 2, 11, api.ErrEpoch}, {s, 4, 0, api.ErrEpoch}, {full, least, 5, api.ErrEpoch},
		{s, 3, 0, api.ErrRound}, {s, 3, -1, api.ErrRound}, {s, 3, last + 1, api.ErrRound}, {full, 3, most, api.ErrRound},
		{s, 3, 4, api.ErrOld}, {s, 3, 1, api.ErrOld}, {full, 3, 4, api.ErrOld},
		{full, 3, 5, api.ErrSpent},
		{state{Leaf: 31}, 0, 1, nil},
	} {
		want := c.s
		want.Proposed, want.Leaf = c.round, c.s.Leaf+1
		got, err := c.s.Propose(c.epoch, c.round)
		is(t, "Propose", c.s, got, err, want, c.err)
	}
}

// P13.1: epochs.
func TestEnter(t *testing.T) {
	s := state{Epoch: 3, Voted: 10, Locked: 6, Proposed: 4, Leaf: 32}
	for _, c := range []struct {
		epoch int
		err   error
	}{
		{4, nil}, {5, nil}, {api.MaxEpoch, nil}, {3, api.ErrEpoch}, {2, api.ErrEpoch}, {0, api.ErrEpoch}, {-1, api.ErrEpoch},
		{api.MaxEpoch + 1, api.ErrEpoch}, {most, api.ErrEpoch}, {least, api.ErrEpoch},
	} {
		got, err := s.Enter(c.epoch)
		is(t, "Enter", s, got, err, state{Epoch: c.epoch, Leaf: 32}, c.err)
	}
	end := state{Epoch: api.MaxEpoch}
	got, err := end.Enter(api.MaxEpoch)
	is(t, "Enter", end, got, err, end, api.ErrEpoch)
}

// P13.1: of a state that isn't right all four have ErrForm, ahead of all else.
func TestStepsOfWrongStates(t *testing.T) {
	for _, s := range wrong() {
		for _, epoch := range []int{s.Epoch, s.Epoch + 1, 1} {
			got, err := s.Vote(epoch, 11, 10, 9)
			is(t, "Vote", s, got, err, s, api.ErrForm)
			got, err = s.Vote(epoch, -1, 10, 9)
			is(t, "Vote", s, got, err, s, api.ErrForm)
			got, err = s.Late(epoch, 11)
			is(t, "Late", s, got, err, s, api.ErrForm)
			got, err = s.Propose(epoch, 11)
			is(t, "Propose", s, got, err, s, api.ErrForm)
			got, err = s.Enter(epoch)
			is(t, "Enter", s, got, err, s, api.ErrForm)
		}
	}
}

// P13.1: Covers of all states of small numbers, right or not.
func TestCovers(t *testing.T) {
	var all []state
	for n := range 243 {
		all = append(all, state{n % 3, n / 3 % 3, n / 9 % 3, n / 27 % 3, n / 81 % 3})
	}
	for _, s := range all {
		for _, u := range all {
			want := s.Leaf >= u.Leaf && (s.Epoch > u.Epoch ||
				s.Epoch == u.Epoch && s.Voted >= u.Voted && s.Locked >= u.Locked && s.Proposed >= u.Proposed)
			if got := s.Covers(u); got != want {
				t.Fatalf("%v.Covers(%v) answers %v", s, u, got)
			}
		}
	}
	if !(state{Leaf: 99}).Covers(state{Leaf: -5, Voted: -1}) || (state{Epoch: -2}).Covers(state{Epoch: -1}) {
		t.Error("Covers of states that aren't right answers otherwise")
	}
}

// P13.1: bytes of states, and back.
func TestBytes(t *testing.T) {
	s := state{0x010203, 0x0A0B0C0D0E, 5, 0x0102, 31}
	want := []byte{0, 1, 2, 3, 0, 0x0A, 0x0B, 0x0C, 0x0D, 0x0E, 0, 0, 0, 0, 0, 5, 0, 0, 0, 0, 1, 2, 31}
	if got, err := s.Bytes(); err != nil || !bytes.Equal(got, want) {
		t.Errorf("%v has the bytes %x, %v", s, got, err)
	}
	for _, s := range right() {
		b, err := s.Bytes()
		if err != nil || len(b) != 23 {
			t.Errorf("%v has the bytes %x, %v", s, b, err)
		}
		kept := bytes.Clone(b)
		if got, err := rules.Read(b); err != nil || got != s {
			t.Errorf("%v is read as %v, %v", s, got, err)
		}
		if !bytes.Equal(b, kept) {
			t.Fatal("Read changes the bytes")
		}
		for n := range b {
			if got, err := rules.Read(b[:n]); err != api.ErrShort || got != (state{}) {
				t.Errorf("Read of %d bytes answers %v, %v", n, got, err)
			}
		}
		if got, err := rules.Read(append(b, 0)); err != api.ErrLong || got != (state{}) {
			t.Errorf("Read of a byte more answers %v, %v", got, err)
		}
	}
	for _, s := range wrong() {
		if got, err := s.Bytes(); err != api.ErrForm || got != nil {
			t.Errorf("%v has the bytes %x, %v", s, got, err)
		}
	}
}

// P13.1: bytes of states that aren't right.
func TestReadOfWrongStates(t *testing.T) {
	good, _ := state{5, 6, 7, 8, 9}.Bytes()
	for _, c := range []struct {
		at   int
		byte byte
		err  error
	}{
		{0, 0x40, api.ErrForm}, {0, 0x80, api.ErrForm}, {4, 1, nil}, {4, 2, api.ErrForm}, {10, 2, api.ErrForm}, {16, 2, api.ErrForm},
		{22, 32, nil}, {22, 33, api.ErrForm}, {22, 255, api.ErrForm}, {1, 255, nil},
	} {
		b := bytes.Clone(good)
		b[c.at] = c.byte
		if c.at == 4 && c.byte == 1 {
			b[9] = 0
		}
		got, err := rules.Read(b)
		if err != c.err || err != nil && got != (state{}) {
			t.Errorf("with byte %d as %d Read answers %v, %v", c.at, c.byte, got, err)
		}
	}
	if got, err := rules.Read(append([]byte{0x40, 0, 0, 1}, good[4:]...)); err != api.ErrForm || got != (state{}) {
		t.Errorf("of an epoch above Read answers %v, %v", got, err)
	}
	if got, err := rules.Read(append([]byte{0x40, 0, 0, 0}, good[4:]...)); err != nil || got.Epoch != api.MaxEpoch {
		t.Errorf("of the last epoch Read answers %v, %v", got, err)
	}
	if got, err := rules.Read(append(bytes.Repeat([]byte{255}, 23), 1)); err != api.ErrLong || got != (state{}) {
		t.Errorf("of a wrong state and a byte more Read answers %v, %v", got, err)
	}
	if got, err := rules.Read(nil); err != api.ErrShort || got != (state{}) {
		t.Errorf("Read of none answers %v, %v", got, err)
	}
}

// P13.2: a state behind a step covers the one ahead, not the other way; no two votes of an epoch have one round.
func TestStepsGoOn(t *testing.T) {
	type turn struct{ epoch, round int }
	for seed := range 60 {
		s := state{Epoch: seed % 3}
		voted := map[turn]bool{}
		x := uint32(seed)
		next := func(n int) int {
			x = x*1664525 + 1013904223
			return int(x>>8) % n
		}
		for range 300 {
			epoch, round := s.Epoch+next(6)/5, 1+next(60)
			kind := next(4)
			var after state
			var err error
			switch kind {
			case 0:
				after, err = s.Vote(epoch, round, round-1-next(4), next(round+1))
			case 1:
				after, err = s.Late(epoch, round)
			case 2:
				after, err = s.Propose(epoch, round)
			case 3:
				if next(10) == 0 {
					after, err = s.Enter(epoch)
				} else {
					after, err = s.Late(-1, round)
				}
			}
			if err != nil {
				if after != s {
					t.Fatalf("with %v the state is %v, ahead %v", err, after, s)
				}
				continue
			}
			if !after.Covers(s) || s.Covers(after) || !after.Right() {
				t.Fatalf("%v comes behind %v", after, s)
			}
			if kind == 0 {
				if voted[turn{epoch, round}] {
					t.Fatalf("two votes in round %d of epoch %d", round, epoch)
				}
				voted[turn{epoch, round}] = true
			}
			s = after
			if s.Leaf == 32 {
				s.Leaf = 0 // as of another key: the rounds go on
			}
		}
	}
}
