package slots_test

import (
	"bytes"
	"encoding/binary"
	"testing"

	"quorate/api"
	"quorate/disk"
	"quorate/hash"
	"quorate/slots"
)

type sector = [api.Sector]byte

// slot is a slot by the document's words; it takes counts with a high bit as well.
func slot(count uint64, record []byte) sector {
	var b sector
	binary.BigEndian.PutUint64(b[:], count)
	b[8] = byte(len(record))
	copy(b[9:40], record)
	return seal(b)
}

// seal writes the sum over a sector's first 40 bytes.
func seal(b sector) sector {
	sum := hash.Of(5, b[:40])
	copy(b[40:56], sum[:])
	return b
}

// record is n bytes by a number.
func record(seed, n int) []byte {
	b := make([]byte, n)
	for i := range b {
		b[i] = byte(seed + 5*i + 1)
	}
	return b
}

func fresh(t *testing.T, sectors int) *disk.Disk {
	t.Helper()
	d, err := disk.New(sectors)
	if err != nil {
		t.Fatal(err)
	}
	return d
}

func must(t *testing.T, err error) {
	t.Helper()
	if err != nil {
		t.Fatalf("the error is %v", err)
	}
}

func read(t *testing.T, d *disk.Disk, i int) sector {
	t.Helper()
	b, err := d.Read(i)
	must(t, err)
	return b
}

// holds asks slots' record and count.
func holds(t *testing.T, s *slots.Slots, count int, want []byte) {
	t.Helper()
	if s == nil {
		t.Fatal("no slots")
	}
	if got := s.Record(); !bytes.Equal(got, want) || s.Count() != count {
		t.Errorf("the record is %v of count %d, want %v of %d", got, s.Count(), want, count)
	}
}

// opens asks what Open has.
func opens(t *testing.T, d *disk.Disk, base, count int, want []byte) {
	t.Helper()
	s, err := slots.Open(d, base)
	must(t, err)
	holds(t, s, count, want)
}

// P7.1: Slot's bytes.
func TestSlot(t *testing.T) {
	for _, count := range []int{0, 1, 2, 255, 256, 1 << 40, 1<<63 - 1, 0x0102030405060708} {
		for n := range 32 {
			if got := slots.Slot(count, record(count, n)); got != slot(uint64(count), record(count, n)) {
				t.Errorf("Slot(%d, %d bytes) answers %x", count, n, got)
			}
		}
		for _, n := range []int{32, 33, 40, 64, 255, 256, 300, 1 << 17} {
			if got := slots.Slot(count, record(3, n)); got != slot(uint64(count), record(3, n)[:31]) {
				t.Errorf("Slot(%d, %d bytes) answers %x", count, n, got)
			}
		}
	}
	for _, count := range []int{-1, -2, -1 << 63} {
		if got := slots.Slot(count, []byte("x")); got != slot(0, []byte("x")) {
			t.Errorf("Slot(%d) answers %x", count, got)
		}
	}
	if slots.Slot(3, nil) != slots.Slot(3, []byte{}) {
		t.Error("no bytes have two slots")
	}
}

// P7.1: where there aren't both sectors.
func TestNoSectors(t *testing.T) {
	for _, size := range []int{1, 2, 3, 10} {
		for _, base := range []int{-1, -2, size - 1, size, size + 1, 1 << 40, -1 << 63, 1<<63 - 1, 1<<63 - 2} {
			d := fresh(t, size)
			if s, err := slots.Format(d, base); err != api.ErrRange || s != nil {
				t.Errorf("Format of %d sectors at %d answers %v, %v", size, base, s, err)
			}
			if s, err := slots.Open(d, base); err != api.ErrRange || s != nil {
				t.Errorf("Open of %d sectors at %d answers %v, %v", size, base, s, err)
			}
			if len(d.Unsynced()) != 0 {
				t.Error("something was written")
			}
			d.Arm(0)
			must(t, power(d))
			if _, err := slots.Format(d, base); err != api.ErrRange {
				t.Errorf("without power Format of %d sectors at %d answers %v", size, base, err)
			}
			if _, err := slots.Open(d, base); err != api.ErrRange {
				t.Errorf("without power Open of %d sectors at %d answers %v", size, base, err)
			}
		}
	}
}

// power turns it off.
func power(d *disk.Disk) error {
	d.Arm(0)
	if err := d.Sync(); err != api.ErrPower {
		return api.ErrDisk
	}
	return nil
}

// P7.1: Format writes the two sectors, syncs them, and touches no other one.
func TestFormat(t *testing.T) {
	for _, base := range []int{0, 1, 2, 3} {
		d := fresh(t, 5)
		for i := range 5 {
			must(t, d.Write(i, slot(uint64(100+i), []byte("old"))))
		}
		must(t, d.Sync())
		s, err := slots.Format(d, base)
		must(t, err)
		holds(t, s, 0, nil)
		d.Crash()
		for i := range 5 {
			want := slot(uint64(100+i), []byte("old"))
			if i == base {
				want = slot(0, nil)
			} else if i == base+1 {
				want = sector{}
			}
			if got := read(t, d, i); got != want {
				t.Errorf("behind Format at %d sector %d is %x, want %x", base, i, got, want)
			}
		}
		opens(t, d, base, 0, nil)
	}
}

// P7.1: Format's errors, operation by operation, in their order.
func TestFormatWithoutPower(t *testing.T) {
	for lasts := range 3 {
		d := fresh(t, 4)
		d.Arm(lasts)
		if s, err := slots.Format(d, 1); err != api.ErrPower || s != nil {
			t.Errorf("with %d operations Format answers %v, %v", lasts, s, err)
		}
		if got := d.Unsynced(); len(got) != lasts || lasts > 0 && got[0] != 1 {
			t.Errorf("with %d operations it wrote %v", lasts, got)
		}
	}
	d := fresh(t, 4)
	d.Arm(3)
	if _, err := slots.Format(d, 1); err != nil {
		t.Errorf("with 3 operations Format answers %v", err)
	}
	if _, err := slots.Format(d, 1); err != api.ErrPower {
		t.Errorf("with no more Format answers %v", err)
	}
	if s, err := slots.Open(d, 1); err != api.ErrPower || s != nil {
		t.Errorf("without power Open answers %v, %v", s, err)
	}
}

// P7.1: Puts stand in turn in base + 1 and base, synced; others' sectors stay.
func TestPut(t *testing.T) {
	d := fresh(t, 4)
	must(t, d.Write(0, filled()))
	must(t, d.Write(3, filled()))
	s, err := slots.Format(d, 1)
	must(t, err)
	want := [2]sector{slot(0, nil), {}}
	for n := 1; n <= 70; n++ {
		b := record(n, n%32)
		must(t, s.Put(b))
		holds(t, s, n, record(n, n%32))
		want[n%2] = slot(uint64(n), b)
		d.Crash()
		for i := range 2 {
			if got := read(t, d, 1+i); got != want[i] {
				t.Fatalf("behind Put %d sector %d is %x, want %x", n, 1+i, got, want[i])
			}
		}
		opens(t, d, 1, n, record(n, n%32))
		if n%7 == 0 {
			s, err = slots.Open(d, 1)
			must(t, err)
		}
	}
	if read(t, d, 0) != filled() || read(t, d, 3) != filled() {
		t.Error("another sector was written")
	}
}

func filled() sector {
	var b sector
	for i := range b {
		b[i] = 0xA5
	}
	return b
}

// P7.1: records that are too long change nothing, power or not.
func TestPutOfLongRecords(t *testing.T) {
	d := fresh(t, 2)
	s, err := slots.Format(d, 0)
	must(t, err)
	must(t, s.Put([]byte("kept")))
	for _, n := range []int{32, 33, 64, 256, 287, 1 << 17} {
		if err := s.Put(make([]byte, n)); err != api.ErrRange {
			t.Errorf("Put of %d bytes answers %v", n, err)
		}
	}
	if len(d.Unsynced()) != 0 {
		t.Error("something was written")
	}
	holds(t, s, 1, []byte("kept"))
	must(t, power(d))
	if err := s.Put(make([]byte, 32)); err != api.ErrRange {
		t.Errorf("without power Put of 32 bytes answers %v", err)
	}
	d.Crash()
	must(t, s.Put(record(1, 31)))
	opens(t, d, 0, 2, record(1, 31))
}

// P7.1: the last count.
func TestLastCount(t *testing.T) {
	d := fresh(t, 3)
	must(t, d.Write(1, slot(1<<63-2, []byte("a"))))
	s, err := slots.Open(d, 1)
	must(t, err)
	holds(t, s, 1<<63-2, []byte("a"))
	must(t, s.Put([]byte("b")))
	holds(t, s, 1<<63-1, []byte("b"))
	for range 2 {
		if err := s.Put([]byte("c")); err != api.ErrFull {
			t.Errorf("Put behind the last count answers %v", err)
		}
		if err := s.Put(make([]byte, 32)); err != api.ErrRange {
			t.Errorf("Put of 32 bytes behind the last count answers %v", err)
		}
	}
	if len(d.Unsynced()) != 0 {
		t.Error("something was written")
	}
	must(t, power(d))
	if err := s.Put([]byte("c")); err != api.ErrFull {
		t.Errorf("without power Put behind the last count answers %v", err)
	}
	d.Crash()
	opens(t, d, 1, 1<<63-1, []byte("b"))
}

// P7.1: which of two sectors Open takes.
func TestOpen(t *testing.T) {
	a, b := []byte("even"), []byte("odd")
	torn := slot(8, a)
	torn[9] ^= 1
	for i, c := range []struct {
		one, two sector
		count    int
		want     []byte
		err      error
	}{
		{slot(0, nil), sector{}, 0, nil, nil},
		{slot(0, a), sector{}, 0, a, nil},
		{slot(2, a), slot(1, b), 2, a, nil},
		{slot(2, a), slot(3, b), 3, b, nil},
		{slot(6, a), slot(1, b), 6, a, nil},
		{slot(0, a), slot(1<<63-1, b), 1<<63 - 1, b, nil},
		{slot(256, a), slot(1, b), 256, a, nil},
		{slot(1<<62, a), slot(255, b), 1 << 62, a, nil},
		{sector{}, slot(1, b), 1, b, nil},
		{filled(), slot(7, nil), 7, nil, nil},
		{torn, slot(7, b), 7, b, nil},
		{slot(4, a), torn, 4, a, nil},
		{slot(9, b), slot(3, b), 3, b, nil},   // an odd count in base
		{slot(4, a), slot(100, a), 4, a, nil}, // an even one in base + 1
		{slot(5, b), slot(4, a), 0, nil, api.ErrDisk},
		{sector{}, sector{}, 0, nil, api.ErrDisk},
		{filled(), filled(), 0, nil, api.ErrDisk},
		{torn, sector{}, 0, nil, api.ErrDisk},
		{slot(1<<63, a), sector{}, 0, nil, api.ErrDisk},
		{slot(1<<63+4, a), slot(3, b), 3, b, nil},
		{sector{}, slot(1<<64-1, b), 0, nil, api.ErrDisk},
	} {
		d := fresh(t, 5)
		must(t, d.Write(2, c.one))
		must(t, d.Write(3, c.two))
		must(t, d.Write(1, slot(50, a)))
		must(t, d.Write(4, slot(51, b)))
		s, err := slots.Open(d, 2)
		if c.err != nil {
			if err != c.err || s != nil {
				t.Errorf("case %d: Open answers %v, %v", i, s, err)
			}
			continue
		}
		if err != nil {
			t.Errorf("case %d: Open answers %v", i, err)
			continue
		}
		holds(t, s, c.count, c.want)
		if got := len(d.Unsynced()); got != 4 {
			t.Errorf("case %d: Open writes", i)
		}
	}
}

// P7.1: a slot isn't whole with any bit turned, nor with anything behind the record, even under a right sum.
func TestWhole(t *testing.T) {
	good := slot(6, record(1, 20))
	for i := range 8 * api.Sector {
		b := good
		b[i/8] ^= 1 << (i % 8)
		d := fresh(t, 2)
		must(t, d.Write(0, b))
		if s, err := slots.Open(d, 0); err != api.ErrDisk || s != nil {
			t.Errorf("with bit %d turned Open answers %v, %v", i, s, err)
		}
	}
	for i := 29; i < 40; i++ {
		b := good
		b[i] = 1
		d := fresh(t, 2)
		must(t, d.Write(0, seal(b)))
		if s, err := slots.Open(d, 0); err != api.ErrDisk || s != nil {
			t.Errorf("with byte %d behind the record Open answers %v, %v", i, s, err)
		}
	}
	for _, n := range []int{32, 33, 47, 48, 55, 56, 200, 255} {
		var b sector
		b[7], b[8] = 6, byte(n)
		d := fresh(t, 2)
		must(t, d.Write(0, seal(b)))
		if s, err := slots.Open(d, 0); err != api.ErrDisk || s != nil {
			t.Errorf("with %d bytes told Open answers %v, %v", n, s, err)
		}
	}
}

// P7.1: behind an error the record is as before, and Put may be called again.
func TestPutAgain(t *testing.T) {
	for lasts := range 2 {
		for _, keep := range []bool{false, true} {
			d := fresh(t, 2)
			s, err := slots.Format(d, 0)
			must(t, err)
			must(t, s.Put([]byte("a")))
			d.Arm(lasts)
			for range 2 {
				if err := s.Put([]byte("b")); err != api.ErrPower {
					t.Errorf("Put answers %v", err)
				}
				holds(t, s, 1, []byte("a"))
			}
			d.Crash(keep)
			must(t, s.Put([]byte("c")))
			holds(t, s, 2, []byte("c"))
			d.Crash()
			opens(t, d, 0, 2, []byte("c"))
			must(t, s.Put([]byte("d")))
			opens(t, d, 0, 3, []byte("d"))
		}
	}
}

// P7.2: wherever the power goes in a row of Puts, and whatever is kept, Open has the last one or the one that was being put.
func TestOldOrNew(t *testing.T) {
	rows := [][]byte{[]byte("one"), nil, record(3, 31), []byte("four"), []byte("five"), {0}}
	for lasts := range 2*len(rows) + 1 {
		for bits := range 4 {
			d := fresh(t, 2)
			s, err := slots.Format(d, 0)
			must(t, err)
			d.Arm(lasts)
			done := 0
			for _, b := range rows {
				if s.Put(b) != nil {
					break
				}
				done++
			}
			if done != lasts/2 {
				t.Fatalf("with %d operations %d Puts have no error", lasts, done)
			}
			d.Crash(bits&1 == 1, bits&2 == 2)
			again, err := slots.Open(d, 0)
			must(t, err)
			n := again.Count()
			if n != done && (n != done+1 || lasts%2 == 0) {
				t.Fatalf("with %d operations Open has count %d", lasts, n)
			}
			if n > 0 && !bytes.Equal(again.Record(), rows[n-1]) || n == 0 && len(again.Record()) != 0 {
				t.Errorf("with %d operations Open has %q of count %d", lasts, again.Record(), n)
			}
			must(t, again.Put([]byte("more")))
			d.Crash()
			opens(t, d, 0, n+1, []byte("more"))
		}
	}
}

// P7.1 and the rules: a record that was handed in, or out, may be changed.
func TestRecordsAreTheCallersOwn(t *testing.T) {
	d := fresh(t, 2)
	s, err := slots.Format(d, 0)
	must(t, err)
	b := []byte("mine")
	must(t, s.Put(b))
	if string(b) != "mine" {
		t.Error("Put changes the record that it is handed")
	}
	clear(b)
	holds(t, s, 1, []byte("mine"))
	clear(s.Record())
	holds(t, s, 1, []byte("mine"))
	again, err := slots.Open(d, 0)
	must(t, err)
	clear(again.Record())
	holds(t, again, 1, []byte("mine"))
	slots.Slot(1, b)
}

// P7.1: two records on one disk.
func TestTwoRecords(t *testing.T) {
	d := fresh(t, 4)
	a, err := slots.Format(d, 0)
	must(t, err)
	b, err := slots.Format(d, 2)
	must(t, err)
	for n := range 5 {
		must(t, a.Put([]byte{1, byte(n)}))
		must(t, b.Put([]byte{2, byte(n)}))
	}
	must(t, b.Put([]byte{9}))
	d.Crash()
	opens(t, d, 0, 5, []byte{1, 4})
	opens(t, d, 2, 6, []byte{9})
}
