package ledger_test

import (
	"bytes"
	"encoding/binary"
	"fmt"
	"testing"

	"quorate/api"
	"quorate/codec"
	"quorate/craft"
	"quorate/disk"
	"quorate/hash"
	"quorate/ledger"
)

type sector = [api.Sector]byte

func must(t *testing.T, err error) {
	t.Helper()
	if err != nil {
		t.Fatalf("the error is %v", err)
	}
}

func fresh(t *testing.T, sectors int) *disk.Disk {
	t.Helper()
	d, err := disk.New(sectors)
	must(t, err)
	return d
}

func format(t *testing.T, d *disk.Disk, base int) *ledger.Ledger {
	t.Helper()
	l, err := ledger.Format(d, base)
	must(t, err)
	return l
}

// block is a block by a number; the bytes of unlike ones are not all as long.
func block(n int) api.Block {
	b := api.Block{Epoch: 1, Round: n, Parent: craft.Digest(n)}
	for i := range n % 5 {
		b.Payload = append(b.Payload, append([]byte{byte(n), byte(i)}, make([]byte, n%14)...))
	}
	return b
}

// cert is a QC that fits a block, with so many votes.
func cert(b api.Block, votes int) api.QC {
	q := api.QC{Epoch: b.Epoch, Round: b.Round, Block: craft.ID(b)}
	for i := range votes {
		q.Votes = append(q.Votes, api.Signed{Who: i, Sig: api.Sig{Leaf: i, Chains: []api.Digest{craft.Digest(i)}}})
	}
	return q
}

func long(b []byte) []byte {
	return append(binary.BigEndian.AppendUint16(nil, uint16(len(b))), b...)
}

// form is a block's bytes.
func form(b api.Block) []byte {
	out, _ := codec.Bytes(b)
	return out
}

// data is a record's data by the document's words.
func data(b api.Block, q api.QC) []byte {
	return append(long(form(b)), long(form(api.Block{Justify: q}))...)
}

// head is the head of data.
func head(height int, data []byte) sector {
	var b sector
	binary.BigEndian.PutUint32(b[:], uint32(len(data)))
	binary.BigEndian.PutUint32(b[4:], uint32(height))
	sum := hash.Of(10, b[:8], data)
	copy(b[8:], sum[:])
	return b
}

// need is how many sectors data need.
func need(data []byte) int {
	n := 0
	for ; n*64 < len(data); n++ {
	}
	return n
}

// lay writes a head and data behind it, and syncs: the next sector.
func lay(t *testing.T, d *disk.Disk, at int, h sector, data []byte) int {
	t.Helper()
	must(t, d.Write(at, h))
	for at++; len(data) > 0; at++ {
		var b sector
		data = data[copy(b[:], data):]
		must(t, d.Write(at, b))
	}
	must(t, d.Sync())
	return at
}

// holds asks all that a ledger has: these blocks, each with a certificate of so many votes.
func holds(t *testing.T, l *ledger.Ledger, votes int, list ...api.Block) {
	t.Helper()
	if l.Len() != len(list) {
		t.Fatalf("Len answers %d, want %d", l.Len(), len(list))
	}
	for i, b := range list {
		got, q, err := l.Get(i)
		if err != nil || fmt.Sprint(got, q) != fmt.Sprint(b, cert(b, votes)) {
			t.Errorf("Get(%d) answers %v, %v, %v", i, got, q, err)
		}
		if got := l.Find(craft.ID(b)); got != i {
			t.Errorf("Find of block %d answers %d", i, got)
		}
	}
	n := 0
	for i, b := range l.All() {
		if i != n || fmt.Sprint(b) != fmt.Sprint(list[i]) {
			t.Errorf("All tells %v at %d, as the block %d", b, i, n)
		}
		n++
	}
	if n != len(list) {
		t.Errorf("All tells %d blocks", n)
	}
	for _, i := range []int{-1, len(list), len(list) + 1, -1 << 63, 1<<63 - 1} {
		if b, q, err := l.Get(i); err != api.ErrNone || fmt.Sprint(b, q) != fmt.Sprint(api.Block{}, api.QC{}) {
			t.Errorf("Get(%d) answers %v, %v, %v", i, b, q, err)
		}
	}
	if got := l.Find(craft.Digest(9999)); got != -1 {
		t.Errorf("Find of no block answers %d", got)
	}
}

// P18.1: Format, and where there is no sector.
func TestFormat(t *testing.T) {
	for _, base := range []int{0, 1, 4} {
		d := fresh(t, 5)
		for i := range 5 {
			must(t, d.Write(i, sector{1, byte(i)}))
		}
		must(t, d.Sync())
		l := format(t, d, base)
		holds(t, l, 0)
		if l.Free() != 5-base {
			t.Errorf("Free answers %d", l.Free())
		}
		d.Crash()
		for i := range 5 {
			want := sector{1, byte(i)}
			if i == base {
				want = sector{}
			}
			if got, _ := d.Read(i); got != want {
				t.Errorf("behind Format at %d sector %d is %x", base, i, got)
			}
		}
		l, err := ledger.Open(d, base)
		must(t, err)
		holds(t, l, 0)
	}
	for _, base := range []int{-1, 5, 6, 1 << 40, -1 << 63, 1<<63 - 1} {
		d := fresh(t, 5)
		if l, err := ledger.Format(d, base); err != api.ErrRange || l != nil {
			t.Errorf("Format at %d answers %v, %v", base, l, err)
		}
		if l, err := ledger.Open(d, base); err != api.ErrRange || l != nil {
			t.Errorf("Open at %d answers %v, %v", base, l, err)
		}
		if len(d.Unsynced()) > 0 {
			t.Error("something was written")
		}
	}
	for lasts := range 3 {
		d := fresh(t, 5)
		d.Arm(lasts)
		if l, err := ledger.Format(d, 2); lasts < 2 && (err != api.ErrPower || l != nil) || lasts == 2 && err != nil {
			t.Errorf("with %d operations Format answers %v, %v", lasts, l, err)
		}
		d.Arm(0)
		d.Sync()
		if l, err := ledger.Open(d, 2); err != api.ErrPower || l != nil {
			t.Errorf("without power Open answers %v, %v", l, err)
		}
	}
}

// P18.1: Append's bytes, record behind record, and what Open has of them.
func TestAppend(t *testing.T) {
	for votes := range 4 {
		d := fresh(t, 300)
		l := format(t, d, 3)
		want := fresh(t, 300)
		at := 3
		var list []api.Block
		for n := range 12 {
			b := block(n)
			must(t, l.Append(b, cert(b, votes)))
			list = append(list, b)
			at = lay(t, want, at, head(n, data(b, cert(b, votes))), data(b, cert(b, votes)))
			holds(t, l, votes, list...)
			if l.Free() != 300-at {
				t.Errorf("behind record %d Free answers %d, want %d", n, l.Free(), 300-at)
			}
			d.Crash()
			for i := range 300 {
				got, _ := d.Read(i)
				if w, _ := want.Read(i); got != w {
					t.Fatalf("behind record %d sector %d is %x, want %x", n, i, got, w)
				}
			}
			again, err := ledger.Open(d, 3)
			must(t, err)
			holds(t, again, votes, list...)
			if again.Free() != l.Free() {
				t.Errorf("behind Open Free answers %d, want %d", again.Free(), l.Free())
			}
			if n%3 == 0 {
				l = again
			}
		}
	}
}

// P18.1: a block that is there twice is found where it came first.
func TestFindTheFirst(t *testing.T) {
	l := format(t, fresh(t, 100), 0)
	for _, n := range []int{4, 7, 4, 7, 7} {
		must(t, l.Append(block(n), cert(block(n), 1)))
	}
	if l.Len() != 5 || l.Find(craft.ID(block(7))) != 1 || l.Find(craft.ID(block(4))) != 0 {
		t.Errorf("of %d blocks they are found at %d and %d", l.Len(), l.Find(craft.ID(block(7))), l.Find(craft.ID(block(4))))
	}
}

// P18.1: Append of what isn't a record's: nothing is written, and which error comes first.
func TestAppendOfWrongThings(t *testing.T) {
	d := fresh(t, 30)
	l := format(t, d, 0)
	b := block(3)
	must(t, l.Append(b, cert(b, 1)))
	free := l.Free()
	bad := cert(b, 1)
	bad.Votes[0].Who = -1
	none := b
	none.Round = -1
	noneFit := cert(b, 1)
	noneFit.Round = -1
	for i, c := range []struct {
		b    api.Block
		q    api.QC
		want error
	}{
		{none, cert(b, 1), api.ErrForm}, {none, noneFit, api.ErrForm}, {b, bad, api.ErrForm}, {b, noneFit, api.ErrForm},
		{b, cert(block(4), 1), api.ErrProof}, {b, api.QC{}, api.ErrProof},
		{b, api.QC{Epoch: 2, Round: 3, Block: craft.ID(b)}, api.ErrProof}, {b, api.QC{Epoch: 1, Round: 4, Block: craft.ID(b)}, api.ErrProof},
	} {
		if err := l.Append(c.b, c.q); err != c.want {
			t.Errorf("case %d: Append answers %v, want %v", i, err, c.want)
		}
	}
	if len(d.Unsynced()) > 0 || l.Free() != free {
		t.Error("something was written")
	}
	holds(t, l, 1, b)
}

// P18.1: a record and a sector of 0s behind it have to have room.
func TestRoom(t *testing.T) {
	b := block(6)
	q := cert(b, 2)
	sectors := need(data(b, q))
	for more := range 4 {
		d := fresh(t, 5+1+sectors+more)
		l := format(t, d, 5)
		err := l.Append(b, q)
		if more == 0 && err != api.ErrFull || more > 0 && err != nil {
			t.Errorf("with %d sectors more Append answers %v", more, err)
		}
		if more == 0 {
			if len(d.Unsynced()) > 0 {
				t.Error("something was written")
			}
			if err := l.Append(b, api.QC{}); err != api.ErrProof {
				t.Errorf("without room Append of another QC answers %v", err)
			}
			continue
		}
		if l.Free() != more {
			t.Errorf("Free answers %d, want %d", l.Free(), more)
		}
		d.Crash()
		again, err := ledger.Open(d, 5)
		must(t, err)
		holds(t, again, 2, b)
		if err := again.Append(b, q); err != api.ErrFull {
			t.Errorf("without room Append answers %v", err)
		}
	}
	d := fresh(t, 1)
	if err := format(t, d, 0).Append(b, q); err != api.ErrFull {
		t.Errorf("on one sector Append answers %v", err)
	}
}

// P18.1: data that fill their sectors to the last byte, and those one byte longer or shorter.
func TestFullSectors(t *testing.T) {
	seen := map[int]bool{}
	d := fresh(t, 400)
	l := format(t, d, 0)
	var list []api.Block
	for n := 1; n <= 16; n++ {
		for m := 1; m <= 3; m++ {
			b := api.Block{Epoch: 1, Round: n}
			for i := range m {
				b.Payload = append(b.Payload, append([]byte{byte(i)}, make([]byte, n-1)...))
			}
			seen[len(data(b, cert(b, 0)))%64] = true
			must(t, l.Append(b, cert(b, 0)))
			list = append(list, b)
			tight(t, b)
		}
	}
	if !seen[0] || !seen[1] || !seen[63] {
		t.Errorf("the lengths are not all there: %v", seen)
	}
	d.Crash()
	again, err := ledger.Open(d, 0)
	must(t, err)
	holds(t, again, 0, list...)
}

// tight asks a record on a disk that has just the sectors that it needs.
func tight(t *testing.T, b api.Block) {
	t.Helper()
	d := fresh(t, 1+need(data(b, cert(b, 0)))+1)
	must(t, format(t, d, 0).Append(b, cert(b, 0)))
	d.Crash()
	l, err := ledger.Open(d, 0)
	must(t, err)
	holds(t, l, 0, b)
}

// P18.1: MaxHeight records at most.
func TestMaxHeight(t *testing.T) {
	d := fresh(t, 4096)
	l := format(t, d, 0)
	for n := range 200 {
		must(t, l.Append(api.Block{Epoch: 1, Round: n}, cert(api.Block{Epoch: 1, Round: n}, 0)))
	}
	b := block(201)
	free := l.Free()
	for range 2 {
		if err := l.Append(b, cert(b, 0)); err != api.ErrFull {
			t.Errorf("Append to a full ledger answers %v", err)
		}
	}
	if err := l.Append(b, api.QC{}); err != api.ErrProof {
		t.Errorf("Append of another QC to a full ledger answers %v", err)
	}
	if l.Len() != 200 || l.Free() != free || len(d.Unsynced()) > 0 {
		t.Errorf("there are %d records", l.Len())
	}
	d.Crash()
	again, err := ledger.Open(d, 0)
	must(t, err)
	if err := again.Append(b, cert(b, 0)); again.Len() != 200 || err != api.ErrFull {
		t.Errorf("Open has %d records, and then Append answers %v", again.Len(), err)
	}
}

// wrong asks that Open answers ErrDisk.
func wrong(t *testing.T, name string, d *disk.Disk) {
	t.Helper()
	if l, err := ledger.Open(d, 1); err != api.ErrDisk || l != nil {
		t.Errorf("%s: Open answers %v, %v", name, l, err)
	}
}

// P18.1: any byte of a record that is changed, in its head, its data, or behind them.
func TestChangedBytes(t *testing.T) {
	d := fresh(t, 60)
	l := format(t, d, 1)
	first, b := block(2), block(3)
	must(t, l.Append(first, cert(first, 0)))
	from := 60 - l.Free()
	must(t, l.Append(b, cert(b, 1)))
	to := 60 - l.Free()
	for at := from; at < to; at++ {
		good, err := d.Read(at)
		must(t, err)
		for i := range good {
			bad := good
			bad[i] ^= 1 << (i % 8)
			must(t, d.Write(at, bad))
			wrong(t, fmt.Sprintf("byte %d of sector %d", i, at), d)
		}
		must(t, d.Write(at, good))
	}
	must(t, d.Write(to, sector{63: 1}))
	wrong(t, "a last byte behind all records", d)
	must(t, d.Write(to, sector{}))
	must(t, d.Write(from, sector{}))
	again, err := ledger.Open(d, 1)
	must(t, err)
	holds(t, again, 0, first)
}

// P18.1: heads and data that have a right sum, and aren't a record all the same.
func TestWrongRecords(t *testing.T) {
	b := block(3)
	q := cert(b, 1)
	good := data(b, q)
	other := func(change func(x *api.Block)) []byte {
		x := api.Block{Justify: q}
		change(&x)
		return append(long(form(b)), long(form(x))...)
	}
	for name, data := range map[string][]byte{
		"no data":                       nil,
		"one byte":                      {0},
		"no block":                      append(long([]byte("block")), long(form(api.Block{Justify: q}))...),
		"an empty block":                append(long(nil), long(form(api.Block{Justify: q}))...),
		"no certificate":                long(form(b)),
		"a certificate of another":      append(long(form(b)), long(form(api.Block{Justify: cert(block(4), 1)}))...),
		"a certificate of no bytes":     append(long(form(b)), long(nil)...),
		"a byte more":                   append(bytes.Clone(good), 0),
		"a byte fewer":                  good[:len(good)-1],
		"three parts":                   append(bytes.Clone(good), long(nil)...),
		"a certificate with an epoch":   other(func(x *api.Block) { x.Epoch = 1 }),
		"a certificate with a round":    other(func(x *api.Block) { x.Round = 1 }),
		"a certificate with a parent":   other(func(x *api.Block) { x.Parent[0] = 1 }),
		"a certificate with a payload":  other(func(x *api.Block) { x.Payload = [][]byte{{1}} }),
		"a certificate with validators": other(func(x *api.Block) { x.Next = []api.Validator{{}} }),
		"a certificate in another form": append(long(form(b)), long(append(form(api.Block{Justify: q}), 0))...),
	} {
		d := fresh(t, 60)
		lay(t, d, 1, head(0, data), data)
		wrong(t, name, d)
	}
	for _, height := range []int{1, 2, 256, 1<<32 - 1} {
		d := fresh(t, 60)
		lay(t, d, 1, head(height, good), good)
		wrong(t, fmt.Sprint("height ", height), d)
	}
	d := fresh(t, 60)
	at := lay(t, d, 1, head(0, good), good)
	lay(t, d, at, head(0, good), good)
	wrong(t, "height 0 twice", d)
	lay(t, d, at, head(1, good), good)
	l, err := ledger.Open(d, 1)
	must(t, err)
	if again, q, err := l.Get(1); err != nil || l.Len() != 2 || fmt.Sprint(again, q) != fmt.Sprint(b, cert(b, 1)) {
		t.Errorf("of height 1 behind height 0 Get answers %v, %v", again, err)
	}
}

// P18.1: bytes behind the data, up to the sector's end, are 0; a head's other bytes too.
func TestFilledUp(t *testing.T) {
	b := block(3)
	good := data(b, cert(b, 1))
	for i := len(good); i < 64*need(good); i++ {
		d := fresh(t, 60)
		padded := make([]byte, 64*need(good))
		copy(padded, good)
		padded[i] = 7
		lay(t, d, 1, head(0, good), padded)
		wrong(t, fmt.Sprint("a byte at ", i), d)
	}
	for i := 24; i < 64; i++ {
		d := fresh(t, 60)
		h := head(0, good)
		h[i] = 1
		lay(t, d, 1, h, good)
		wrong(t, fmt.Sprint("a byte of the head at ", i), d)
	}
}

// P18.1: lengths that the disk has no room for, one sector being left behind.
func TestLengths(t *testing.T) {
	b := block(3)
	good := data(b, cert(b, 1))
	for more := range 3 {
		d := fresh(t, 2+need(good)+more)
		must(t, d.Write(1, head(0, good)))
		for i := range need(good) {
			var s sector
			copy(s[:], good[64*i:])
			must(t, d.Write(2+i, s))
		}
		l, err := ledger.Open(d, 1)
		if more == 0 && (err != api.ErrDisk || l != nil) || more > 0 && err != nil {
			t.Errorf("with %d sectors behind Open answers %v, %v", more, l, err)
		}
		if more > 0 {
			holds(t, l, 1, b)
		}
	}
	for _, n := range []uint32{0, 1, 64, 57*64 + 1, 58 * 64, 1 << 20, 1 << 31, 1<<32 - 1} {
		d := fresh(t, 60)
		var h sector
		binary.BigEndian.PutUint32(h[:], n)
		h[63] = 1
		must(t, d.Write(1, h))
		wrong(t, fmt.Sprint("length ", n), d)
	}
}

// P18.1: each operation of Append, in order: without power at it the ledger is as it was then.
func TestAppendWithoutPower(t *testing.T) {
	b := block(3)
	q := cert(b, 1)
	sectors := need(data(b, q))
	for lasts := range sectors + 5 {
		d := fresh(t, 60)
		l := format(t, d, 2)
		first := block(1)
		must(t, l.Append(first, cert(first, 1)))
		free, at := l.Free(), 60-l.Free()
		d.Arm(lasts)
		err := l.Append(b, q)
		if lasts == sectors+4 {
			must(t, err)
			continue
		}
		if err != api.ErrPower || l.Free() != free {
			t.Errorf("with %d operations Append answers %v, and %d are free", lasts, err, l.Free())
		}
		holds(t, l, 1, first)
		var want []int
		switch {
		case lasts <= sectors+1: // the data's sectors, and the one of 0s
			for i := range lasts {
				want = append(want, at+1+i)
			}
		case lasts == sectors+3: // the head
			want = []int{at}
		}
		if got := d.Unsynced(); fmt.Sprint(got) != fmt.Sprint(want) {
			t.Errorf("with %d operations there are writes of %v, want %v", lasts, got, want)
		}
		d.Crash()
		must(t, l.Append(b, q))
		holds(t, l, 1, first, b)
		d.Crash()
		again, err := ledger.Open(d, 2)
		must(t, err)
		holds(t, again, 1, first, b)
	}
}

// P18.2: wherever the power goes in a row of Appends, and whatever is kept.
func TestPowerGoes(t *testing.T) {
	list := []api.Block{block(1), block(9), block(4), block(3)}
	operations := 0
	for _, b := range list {
		operations += need(data(b, cert(b, 1))) + 4
	}
	for lasts := range operations + 1 {
		for seed := range 12 {
			d := fresh(t, 80)
			for i := range 80 { // old bytes lie about
				must(t, d.Write(i, head(i%4, []byte{byte(i)})))
			}
			must(t, d.Sync())
			l := format(t, d, 1)
			d.Arm(lasts)
			done := 0
			for _, b := range list {
				if l.Append(b, cert(b, 1)) != nil {
					break
				}
				done++
			}
			var keep []bool
			for i := range d.Unsynced() {
				keep = append(keep, seed == 1 || seed > 1 && (seed*(i+3)*2654435761>>7)&1 == 1)
			}
			d.Crash(keep...)
			again, err := ledger.Open(d, 1)
			if err != nil {
				t.Fatalf("with %d operations, keeping %v, Open answers %v", lasts, keep, err)
			}
			n := again.Len()
			if n != done && n != done+1 {
				t.Fatalf("with %d operations, keeping %v, Open has %d records, %d were appended", lasts, keep, n, done)
			}
			holds(t, again, 1, list[:n]...)
			for _, b := range list[n:] {
				must(t, again.Append(b, cert(b, 1)))
			}
			d.Crash()
			last, err := ledger.Open(d, 1)
			must(t, err)
			holds(t, last, 1, list...)
		}
	}
}

// P18.1 and the rules: blocks that are handed in and out may be changed; one who goes through all may stop.
func TestCopies(t *testing.T) {
	l := format(t, fresh(t, 60), 0)
	b := block(3)
	q := cert(b, 2)
	must(t, l.Append(b, q))
	must(t, l.Append(block(4), cert(block(4), 2)))
	clear(b.Payload[0])
	clear(q.Votes[0].Sig.Chains)
	clear(q.Votes)
	holds(t, l, 2, block(3), block(4))
	b, q, err := l.Get(0)
	must(t, err)
	clear(b.Payload[1])
	clear(b.Payload)
	clear(q.Votes[1].Sig.Chains)
	for _, b := range l.All() {
		clear(b.Payload)
	}
	holds(t, l, 2, block(3), block(4))
	n := 0
	for range l.All() {
		n++
		break
	}
	if n != 1 {
		t.Errorf("All tells %d blocks behind the end", n)
	}
}

// P18.1: the ledger answers without power what it has.
func TestWithoutPower(t *testing.T) {
	d := fresh(t, 60)
	l := format(t, d, 0)
	b := block(3)
	must(t, l.Append(b, cert(b, 1)))
	d.Arm(0)
	d.Sync()
	holds(t, l, 1, b)
	if err := l.Append(b, api.QC{}); err != api.ErrProof {
		t.Errorf("without power Append of another QC answers %v", err)
	}
	if err := l.Append(b, cert(b, 1)); err != api.ErrPower {
		t.Errorf("without power Append answers %v", err)
	}
}
