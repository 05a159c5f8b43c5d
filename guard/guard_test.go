package guard_test

import (
	"fmt"
	"testing"

	"quorate/api"
	"quorate/codec"
	"quorate/craft"
	"quorate/disk"
	"quorate/guard"
	"quorate/keys"
	"quorate/rules"
	"quorate/slots"
)

type state = rules.State

// of is a state of these numbers.
func of(epoch, voted, locked, proposed, leaf int) state {
	return state{Epoch: epoch, Voted: voted, Locked: locked, Proposed: proposed, Leaf: leaf}
}

func fresh(t *testing.T, sectors int) *disk.Disk {
	t.Helper()
	d, err := disk.New(sectors)
	must(t, err)
	return d
}

func must(t *testing.T, err error) {
	t.Helper()
	if err != nil {
		t.Fatalf("the error is %v", err)
	}
}

// begun is a guard of epoch 3 at sector 1, and what it has.
func begun(t *testing.T) (*guard.Guard, *disk.Disk, *keys.Key) {
	t.Helper()
	d, k := fresh(t, 4), craft.Keys(1)[0]
	g, err := guard.Format(d, 1, k, 3)
	must(t, err)
	return g, d, k
}

// opens is what Open has behind a crash.
func opens(t *testing.T, d *disk.Disk, k *keys.Key, keep ...bool) *guard.Guard {
	t.Helper()
	d.Crash(keep...)
	g, err := guard.Open(d, 1, k)
	must(t, err)
	return g
}

// none asks that a signature is the zero one.
func none(s api.Sig) bool {
	return s.Leaf == 0 && s.Chains == nil && s.Path == nil
}

// P14.1: Format writes slots whose record is the state of the epoch.
func TestFormat(t *testing.T) {
	k := craft.Keys(1)[0]
	for _, epoch := range []int{0, 1, 7, api.MaxEpoch} {
		for base := range 3 {
			d := fresh(t, 4)
			g, err := guard.Format(d, base, k, epoch)
			must(t, err)
			if g.State() != (state{Epoch: epoch}) || g.Root() != k.Root() {
				t.Errorf("Format of epoch %d has %v and the root %x", epoch, g.State(), g.Root())
			}
			d.Crash()
			s, err := slots.Open(d, base)
			must(t, err)
			want, _ := state{Epoch: epoch}.Bytes()
			if string(s.Record()) != string(want) || s.Count() != 1 {
				t.Errorf("Format of epoch %d puts %x, of count %d", epoch, s.Record(), s.Count())
			}
		}
	}
}

// P14.1: Format's errors: the epoch's, the slots', the Put's.
func TestFormatOfWrongThings(t *testing.T) {
	k := craft.Keys(1)[0]
	for _, epoch := range []int{-1, api.MaxEpoch + 1, -1 << 63, 1<<63 - 1} {
		for _, base := range []int{0, -1, 3} {
			d := fresh(t, 4)
			if g, err := guard.Format(d, base, k, epoch); err != api.ErrForm || g != nil {
				t.Errorf("Format at %d of epoch %d answers %v, %v", base, epoch, g, err)
			}
			if len(d.Unsynced()) != 0 {
				t.Error("something was written")
			}
		}
	}
	for _, base := range []int{-1, 3, 4, 1<<63 - 1, -1 << 63} {
		if g, err := guard.Format(fresh(t, 4), base, k, 1); err != api.ErrRange || g != nil {
			t.Errorf("Format at %d answers %v, %v", base, g, err)
		}
		if g, err := guard.Open(fresh(t, 4), base, k); err != api.ErrRange || g != nil {
			t.Errorf("Open at %d answers %v, %v", base, g, err)
		}
	}
	for lasts := range 6 {
		d := fresh(t, 4)
		d.Arm(lasts)
		g, err := guard.Format(d, 1, k, 1)
		if lasts < 5 && (err != api.ErrPower || g != nil) || lasts == 5 && err != nil {
			t.Errorf("with %d operations Format answers %v, %v", lasts, g, err)
		}
	}
}

// P14.1: Open of what isn't there, and of records that are no State's bytes.
func TestOpenOfWrongThings(t *testing.T) {
	k := craft.Keys(1)[0]
	d := fresh(t, 4)
	if g, err := guard.Open(d, 1, k); err != api.ErrDisk || g != nil {
		t.Errorf("Open of nothing answers %v, %v", g, err)
	}
	s, err := slots.Format(d, 1)
	must(t, err)
	good, _ := of(1, 2, 3, 4, 5).Bytes()
	wrong := append([]byte{255}, good[1:]...)
	for _, record := range [][]byte{nil, {1}, good[:22], append(append([]byte{}, good...), 0), wrong} {
		must(t, s.Put(record))
		if g, err := guard.Open(d, 1, k); err != api.ErrDisk || g != nil {
			t.Errorf("Open of the record %x answers %v, %v", record, g, err)
		}
	}
	must(t, s.Put(good))
	g, err := guard.Open(d, 1, k)
	must(t, err)
	if g.State() != of(1, 2, 3, 4, 5) || g.Root() != k.Root() {
		t.Errorf("Open has %v", g.State())
	}
	d.Arm(0)
	d.Sync()
	if g, err := guard.Open(d, 1, k); err != api.ErrPower || g != nil {
		t.Errorf("without power Open answers %v, %v", g, err)
	}
}

// step is a call, its layer 13's answer, and what is signed.
type step struct {
	name   string
	sign   func(g *guard.Guard) (api.Sig, error)
	rules  func(s state) (state, error)
	digest api.Digest
}

func vote(epoch, round, q, grand, block int) step {
	id := craft.Digest(block)
	return step{fmt.Sprintf("Vote(%d, %d, %d, %d)", epoch, round, q, grand),
		func(g *guard.Guard) (api.Sig, error) { return g.Vote(epoch, round, q, grand, id) },
		func(s state) (state, error) { return s.Vote(epoch, round, q, grand) }, codec.ForVote(epoch, round, id)}
}

func late(epoch, round, high int) step {
	return step{fmt.Sprintf("Late(%d, %d, %d)", epoch, round, high),
		func(g *guard.Guard) (api.Sig, error) { return g.Late(epoch, round, high) },
		func(s state) (state, error) {
			u, err := s.Late(epoch, round)
			if err == nil && (high < 0 || high > round-1) {
				return s, api.ErrRound
			}
			return u, err
		}, codec.ForLate(epoch, round, high)}
}

func propose(epoch, round, block int) step {
	id := craft.Digest(block)
	return step{fmt.Sprintf("Propose(%d, %d)", epoch, round),
		func(g *guard.Guard) (api.Sig, error) { return g.Propose(epoch, round, id) },
		func(s state) (state, error) { return s.Propose(epoch, round) }, codec.ForProposal(id)}
}

// enter signs nothing.
func enter(epoch int) step {
	return step{name: fmt.Sprintf("Enter(%d)", epoch),
		sign:  func(g *guard.Guard) (api.Sig, error) { return api.Sig{}, g.Enter(epoch) },
		rules: func(s state) (state, error) { return s.Enter(epoch) }}
}

// row is steps of all kinds, right and wrong, in an order that shows each rule.
func row() []step {
	return []step{
		propose(3, 1, 7), vote(3, 1, 0, 0, 7), vote(3, 1, 0, 0, 8), propose(3, 1, 9), vote(3, 2, 1, 0, 9), late(3, 2, 1), vote(3, 2, 1, 0, 9),
		late(3, 2, 2), late(3, 2, -1), late(3, 2, 0), late(3, 0, 0), late(3, 0, -1), late(4, 2, 5), vote(3, 5, 4, 3, 1), vote(3, 6, 2, 1, 1),
		vote(3, 6, 6, 1, 1), vote(2, 6, 5, 1, 1), propose(3, 9, 2), propose(3, 4, 2), propose(5, 10, 2), propose(3, 0, 2),
		enter(3), enter(2), enter(api.MaxEpoch + 1), late(3, 99, 98), vote(3, 99, 98, 97, 4), vote(3, 100, 99, 98, 4), enter(6),
		vote(3, 101, 100, 99, 4), vote(6, 1, 0, 0, 5), propose(6, 1, 5), late(6, 1, 0), late(6, 1, 0), enter(8), late(8, 4, 1),
		vote(8, api.MaxRound, api.MaxRound-1, api.MaxRound-2, 6), late(8, api.MaxRound+1, 1), propose(8, api.MaxRound, 6),
	}
}

// P14.1: a row of steps answers as layer 13 says, each signature by the leaf of the state ahead; what Open has is the guard's state.
func TestRow(t *testing.T) {
	for _, again := range []bool{false, true} {
		g, d, k := begun(t)
		want := state{Epoch: 3}
		for n, s := range row() {
			behind, wantErr := s.rules(want)
			sig, err := s.sign(g)
			if err != wantErr {
				t.Fatalf("step %d, %s of %v answers %v, want %v", n, s.name, want, err, wantErr)
			}
			signed := s.digest != (api.Digest{}) && err == nil
			if signed && (sig.Leaf != want.Leaf || !keys.Verify(k.Root(), s.digest, sig)) {
				t.Errorf("step %d, %s: the signature by leaf %d isn't right, or not by leaf %d", n, s.name, sig.Leaf, want.Leaf)
			}
			if !signed && !none(sig) {
				t.Errorf("step %d, %s: a signature beside %v", n, s.name, err)
			}
			if err == nil {
				want = behind
			}
			if g.State() != want {
				t.Fatalf("step %d, %s: the state is %v, want %v", n, s.name, g.State(), want)
			}
			if again {
				g = opens(t, d, k)
				if g.State() != want {
					t.Fatalf("behind step %d, %s, Open has %v, want %v", n, s.name, g.State(), want)
				}
			}
		}
	}
}

// P14.1: a wrong step touches nothing on the disk, power or not.
func TestWrongStepsWriteNothing(t *testing.T) {
	g, d, _ := begun(t)
	_, err := g.Vote(3, 4, 3, 2, craft.Digest(1))
	must(t, err)
	d.Arm(0)
	for _, s := range []step{vote(3, 4, 3, 2, 1), vote(2, 5, 4, 3, 1), late(3, 0, 0), late(3, 5, 5), late(3, 5, -1), propose(3, 0, 1), enter(3)} {
		_, want := s.rules(g.State())
		if sig, err := s.sign(g); err != want || err == nil || !none(sig) {
			t.Errorf("%s answers %v", s.name, err)
		}
		if d.Off() {
			t.Fatalf("%s writes", s.name)
		}
	}
}

// P14.1: all leaves are used up one by one, and then nothing is signed.
func TestSpent(t *testing.T) {
	g, d, k := begun(t)
	for leaf := range api.Leaves {
		sig, err := late(3, 1+leaf, 0).sign(g)
		if err != nil || sig.Leaf != leaf {
			t.Fatalf("signature %d is by leaf %d, %v", leaf, sig.Leaf, err)
		}
	}
	for range 2 {
		for _, s := range []step{late(3, 50, 0), late(3, 50, 50), vote(3, 50, 49, 0, 1), propose(3, 50, 1)} {
			if sig, err := s.sign(g); err != api.ErrSpent || !none(sig) {
				t.Errorf("%s behind the last leaf answers %v", s.name, err)
			}
		}
		must(t, g.Enter(g.State().Epoch+1))
		if _, err := g.Late(g.State().Epoch, 1, 0); err != api.ErrSpent {
			t.Errorf("in another epoch Late answers %v", err)
		}
		g = reset(t, d, k)
	}
}

// reset puts the same leaf under epoch 3 again, behind the guard's back.
func reset(t *testing.T, d *disk.Disk, k *keys.Key) *guard.Guard {
	t.Helper()
	s, err := slots.Open(d, 1)
	must(t, err)
	b, err := state{Epoch: 3, Leaf: api.Leaves}.Bytes()
	must(t, err)
	must(t, s.Put(b))
	return opens(t, d, k)
}

// P14.1: an error of Put leaves the state, signs nothing, and the step may be taken again.
func TestPutsError(t *testing.T) {
	for lasts := range 2 {
		for _, s := range []step{vote(3, 4, 3, 2, 1), late(3, 4, 0), propose(3, 4, 1), enter(4)} {
			for _, keep := range []bool{false, true} {
				g, d, k := begun(t)
				d.Arm(lasts)
				for range 2 {
					if sig, err := s.sign(g); err != api.ErrPower || !none(sig) || g.State() != (state{Epoch: 3}) {
						t.Errorf("%s with %d operations answers %v, and the state is %v", s.name, lasts, err, g.State())
					}
				}
				d.Crash(keep)
				want, _ := s.rules(state{Epoch: 3})
				sig, err := s.sign(g)
				if err != nil || g.State() != want || sig.Leaf != 0 {
					t.Errorf("%s again answers %v, and the state is %v", s.name, err, g.State())
				}
				if got := opens(t, d, k).State(); got != want {
					t.Errorf("behind %s again Open has %v", s.name, got)
				}
			}
		}
	}
}

// P14.2 and P14.3: wherever the power goes in a row of steps, and whatever is kept: Open covers all that was signed; no leaf signs twice.
func TestPowerGoes(t *testing.T) {
	k := craft.Keys(1)[0]
	steps := row()
	for first := range 40 {
		for bits := range 4 {
			d := fresh(t, 4)
			g, err := guard.Format(d, 1, k, 3)
			must(t, err)
			d.Arm(first)
			leaves := map[int]bool{}
			votes := map[[2]int]bool{}
			signed := []state{}
			for round := range 3 {
				for _, s := range steps {
					sig, err := s.sign(g)
					if err != nil {
						continue
					}
					if s.digest != (api.Digest{}) {
						if leaves[sig.Leaf] {
							t.Fatalf("power for %d, keeping %b: leaf %d signs twice", first, bits, sig.Leaf)
						}
						leaves[sig.Leaf] = true
					}
					var epoch, number, q, grand int
					if n, _ := fmt.Sscanf(s.name, "Vote(%d, %d, %d, %d)", &epoch, &number, &q, &grand); n == 4 {
						if votes[[2]int{epoch, number}] {
							t.Fatalf("power for %d, keeping %b: two votes in round %d", first, bits, number)
						}
						votes[[2]int{epoch, number}] = true
					}
					signed = append(signed, g.State())
				}
				d.Crash(bits&1 == 1, bits&2 == 2)
				g, err = guard.Open(d, 1, k)
				must(t, err)
				for _, s := range signed {
					if !g.State().Covers(s) {
						t.Fatalf("power for %d, keeping %b: Open has %v, which doesn't cover %v", first, bits, g.State(), s)
					}
				}
				d.Arm(first / (round + 2))
			}
		}
	}
}

// P14.1: two guards on one disk have nothing in common.
func TestTwoGuards(t *testing.T) {
	ks := craft.Keys(2)
	d := fresh(t, 4)
	a, err := guard.Format(d, 0, ks[0], 1)
	must(t, err)
	b, err := guard.Format(d, 2, ks[1], 2)
	must(t, err)
	_, err = a.Late(1, 5, 4)
	must(t, err)
	if b.State() != (state{Epoch: 2}) || b.Root() != ks[1].Root() || a.State() != of(1, 5, 0, 0, 1) {
		t.Errorf("the states are %v and %v", a.State(), b.State())
	}
}
