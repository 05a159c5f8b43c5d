package disk_test

import (
	"slices"
	"testing"

	"quorate/api"
	"quorate/disk"
)

type sector = [api.Sector]byte

// filled is a sector that is told by its first, a middle and its last byte.
func filled(n int) sector {
	var b sector
	b[0], b[31], b[63] = byte(n), byte(n>>8), byte(^n)
	return b
}

func fresh(t *testing.T, sectors int) *disk.Disk {
	t.Helper()
	d, err := disk.New(sectors)
	if err != nil {
		t.Fatalf("New(%d) answers %v", sectors, err)
	}
	return d
}

// wants asks a sector's bytes.
func wants(t *testing.T, d *disk.Disk, i int, want sector) {
	t.Helper()
	if got, err := d.Read(i); err != nil || got != want {
		t.Errorf("Read(%d) answers %x, %v, want %x", i, got, err, want)
	}
}

// must asks that a call has no error.
func must(t *testing.T, err error) {
	t.Helper()
	if err != nil {
		t.Errorf("the error is %v", err)
	}
}

// power asks that all operations and reads have ErrPower.
func power(t *testing.T, d *disk.Disk) {
	t.Helper()
	if !d.Off() {
		t.Error("the power isn't off")
	}
	if err := d.Write(0, filled(99)); err != api.ErrPower {
		t.Errorf("Write without power answers %v", err)
	}
	if err := d.Sync(); err != api.ErrPower {
		t.Errorf("Sync without power answers %v", err)
	}
	if b, err := d.Read(0); err != api.ErrPower || b != (sector{}) {
		t.Errorf("Read without power answers %x, %v", b, err)
	}
	if err := d.Write(d.Size(), filled(1)); err != api.ErrRange {
		t.Errorf("Write to no sector without power answers %v", err)
	}
	if b, err := d.Read(-1); err != api.ErrRange || b != (sector{}) {
		t.Errorf("Read of no sector without power answers %x, %v", b, err)
	}
}

// P6.1: New of all sizes.
func TestNew(t *testing.T) {
	for _, n := range []int{1, 2, 3, 64, 4095, 4096} {
		d := fresh(t, n)
		if d.Size() != n || d.Off() || len(d.Unsynced()) != 0 {
			t.Errorf("New(%d) has %d sectors, off %v, unsynced %v", n, d.Size(), d.Off(), d.Unsynced())
		}
		wants(t, d, 0, sector{})
		wants(t, d, n-1, sector{})
	}
	for _, n := range []int{0, -1, 4097, 1 << 40, -1 << 63, 1<<63 - 1} {
		if d, err := disk.New(n); err != api.ErrRange || d != nil {
			t.Errorf("New(%d) answers %v, %v", n, d, err)
		}
	}
}

// P6.1: Write and Read, of all sectors and of none.
func TestWriteAndRead(t *testing.T) {
	d := fresh(t, 40)
	for i := range 40 {
		must(t, d.Write(i, filled(1000+i)))
	}
	for i := range 40 {
		wants(t, d, i, filled(1000+i))
	}
	must(t, d.Write(7, filled(3)))
	wants(t, d, 7, filled(3))
	wants(t, d, 6, filled(1006))
	for _, i := range []int{-1, 40, 41, 4096, 1 << 40, -1 << 63, 1<<63 - 1} {
		if err := d.Write(i, filled(1)); err != api.ErrRange {
			t.Errorf("Write(%d) answers %v", i, err)
		}
		if b, err := d.Read(i); err != api.ErrRange || b != (sector{}) {
			t.Errorf("Read(%d) answers %x, %v", i, b, err)
		}
	}
	if got := d.Unsynced(); len(got) != 40 {
		t.Errorf("Unsynced answers %v", got)
	}
}

// P6.1: a crash loses what wasn't synced, and keeps what was.
func TestSyncAndCrash(t *testing.T) {
	d := fresh(t, 3)
	must(t, d.Write(0, filled(1)))
	must(t, d.Write(2, filled(2)))
	must(t, d.Sync())
	if got := d.Unsynced(); len(got) != 0 {
		t.Errorf("behind Sync Unsynced answers %v", got)
	}
	must(t, d.Write(1, filled(3)))
	must(t, d.Write(2, filled(4)))
	must(t, d.Write(2, filled(5)))
	if got := d.Unsynced(); !slices.Equal(got, []int{1, 2}) {
		t.Errorf("Unsynced answers %v", got)
	}
	wants(t, d, 2, filled(5))
	d.Crash()
	if got := d.Unsynced(); len(got) != 0 {
		t.Errorf("behind Crash Unsynced answers %v", got)
	}
	wants(t, d, 0, filled(1))
	wants(t, d, 1, sector{})
	wants(t, d, 2, filled(2))
	d.Crash(true, true)
	wants(t, d, 1, sector{})
	wants(t, d, 2, filled(2))
}

// P6.1: a write of the bytes that stand there already is one too.
func TestSameBytesAreAWrite(t *testing.T) {
	d := fresh(t, 3)
	must(t, d.Write(1, sector{}))
	if got := d.Unsynced(); !slices.Equal(got, []int{1}) {
		t.Errorf("Unsynced answers %v", got)
	}
	must(t, d.Write(2, filled(1)))
	d.Crash(false, true)
	wants(t, d, 2, filled(1))
}

// P6.1: Crash keeps what keep says, sector by sector, rising, whatever order they were written in.
func TestCrashKeeps(t *testing.T) {
	order := []int{30, 2, 17, 9, 5, 11, 23}
	rising := slices.Sorted(slices.Values(order))
	for bits := range 1 << 7 {
		for _, n := range []int{0, 1, 3, 6, 7, 9} {
			d := fresh(t, 32)
			for _, i := range order {
				must(t, d.Write(i, filled(500+i)))
			}
			must(t, d.Sync())
			for _, i := range order {
				must(t, d.Write(i, filled(i)))
			}
			if got := d.Unsynced(); !slices.Equal(got, rising) {
				t.Fatalf("Unsynced answers %v", got)
			}
			keep := make([]bool, n)
			for k := range keep {
				keep[k] = bits>>(k%7)&1 == 1
			}
			d.Crash(keep...)
			for k, i := range rising {
				want := filled(500 + i)
				if k < n && keep[k] {
					want = filled(i)
				}
				wants(t, d, i, want)
			}
			d.Crash(true, true, true)
			wants(t, d, 0, sector{})
		}
	}
}

// P6.1: what Crash kept is synced.
func TestWhatIsKeptStays(t *testing.T) {
	d := fresh(t, 2)
	must(t, d.Write(1, filled(1)))
	d.Crash(true)
	must(t, d.Write(1, filled(2)))
	d.Crash()
	wants(t, d, 1, filled(1))
	keep := []bool{true, false}
	must(t, d.Write(0, filled(3)))
	d.Crash(keep...)
	if !slices.Equal(keep, []bool{true, false}) {
		t.Error("Crash changes keep")
	}
}

// P6.1: the power lasts as many operations as Arm says, writes and syncs.
func TestArm(t *testing.T) {
	for lasts := range 9 {
		d := fresh(t, 4)
		must(t, d.Write(3, filled(7)))
		must(t, d.Sync())
		d.Arm(lasts)
		synced := sector{}
		for n := range 12 {
			if d.Off() != (n > lasts) {
				t.Fatalf("Arm(%d): behind %d operations off is %v", lasts, n, d.Off())
			}
			var err error
			if n%3 == 2 {
				err = d.Sync()
			} else {
				err = d.Write(n%3, filled(n))
			}
			if n < lasts {
				must(t, err)
				if n%3 == 2 {
					synced = filled(n - 2)
				}
			} else if err != api.ErrPower {
				t.Fatalf("Arm(%d): operation %d answers %v", lasts, n, err)
			}
		}
		power(t, d)
		d.Crash()
		if d.Off() {
			t.Fatal("behind Crash the power is off")
		}
		wants(t, d, 0, synced)
		wants(t, d, 3, filled(7))
		for n := range 30 {
			must(t, d.Write(n%4, filled(n)))
			must(t, d.Sync())
		}
	}
}

// P6.1: where the power goes nothing is done: no write, no sync.
func TestWherePowerGoes(t *testing.T) {
	d := fresh(t, 2)
	d.Arm(1)
	must(t, d.Write(0, filled(1)))
	if err := d.Write(1, filled(2)); err != api.ErrPower {
		t.Errorf("Write answers %v", err)
	}
	if got := d.Unsynced(); !slices.Equal(got, []int{0}) {
		t.Errorf("Unsynced answers %v", got)
	}
	d.Crash(true, true)
	wants(t, d, 0, filled(1))
	wants(t, d, 1, sector{})

	must(t, d.Write(1, filled(3)))
	d.Arm(0)
	if d.Off() {
		t.Error("Arm(0) turns the power off")
	}
	wants(t, d, 1, filled(3))
	if err := d.Sync(); err != api.ErrPower {
		t.Errorf("Sync answers %v", err)
	}
	if got := d.Unsynced(); !slices.Equal(got, []int{1}) {
		t.Errorf("Unsynced answers %v", got)
	}
	d.Crash()
	wants(t, d, 1, sector{})
}

// P6.1: what has another error, and a read, is no operation.
func TestNoOperations(t *testing.T) {
	d := fresh(t, 2)
	d.Arm(2)
	for range 5 {
		if err := d.Write(2, filled(1)); err != api.ErrRange {
			t.Errorf("Write(2) answers %v", err)
		}
		if err := d.Write(-1, filled(1)); err != api.ErrRange {
			t.Errorf("Write(-1) answers %v", err)
		}
		wants(t, d, 0, sector{})
		d.Unsynced()
		d.Size()
	}
	must(t, d.Write(0, filled(1)))
	must(t, d.Sync())
	for range 3 {
		if err := d.Write(9, filled(1)); err != api.ErrRange {
			t.Errorf("Write(9) answers %v", err)
		}
		wants(t, d, 0, filled(1))
	}
	if d.Off() {
		t.Error("the power is off ahead of the operation that goes beyond")
	}
	if err := d.Sync(); err != api.ErrPower {
		t.Errorf("Sync answers %v", err)
	}
	power(t, d)
}

// P6.1: Arm tells anew, below 0 not any more; and Crash takes it back.
func TestArmAnew(t *testing.T) {
	for _, n := range []int{-1, -2, -1 << 63} {
		d := fresh(t, 2)
		d.Arm(1)
		d.Arm(n)
		for range 20 {
			must(t, d.Write(1, filled(1)))
			must(t, d.Sync())
		}
	}
	d := fresh(t, 2)
	d.Arm(1)
	d.Arm(3)
	for range 3 {
		must(t, d.Sync())
	}
	d.Arm(1)
	must(t, d.Sync())
	d.Arm(1<<63 - 1)
	must(t, d.Sync())
	d.Arm(0)
	d.Crash()
	must(t, d.Sync())
}

// P6.1: when the power is off, Arm doesn't turn it on, and behind a crash it isn't told how long it lasts.
func TestArmWithoutPower(t *testing.T) {
	for _, n := range []int{-1, 0, 1, 5} {
		d := fresh(t, 2)
		d.Arm(0)
		if err := d.Sync(); err != api.ErrPower {
			t.Fatalf("Sync answers %v", err)
		}
		d.Arm(n)
		power(t, d)
		d.Crash()
		for range 20 {
			must(t, d.Write(1, filled(1)))
		}
	}
}

// P6.1: disks have nothing in common, and answers are the caller's own.
func TestAnswersAreTheCallersOwn(t *testing.T) {
	a, b := fresh(t, 3), fresh(t, 3)
	must(t, a.Write(1, filled(1)))
	wants(t, b, 1, sector{})
	got := a.Unsynced()
	got[0] = 2
	if again := a.Unsynced(); !slices.Equal(again, []int{1}) {
		t.Errorf("a change of an answer shows: %v", again)
	}
}
