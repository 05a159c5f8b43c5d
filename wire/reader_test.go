// P1.1, of a Reader: what its calls answer, in every order.

package wire_test

import (
	"bytes"
	"math"
	"slices"
	"testing"

	"quorate/api"
	"quorate/wire"
)

func takeByte(r *wire.Reader) int { return r.Number(1) }

// ends tells whether a reader's error is this one, both ways of asking.
func ends(t *testing.T, name string, r *wire.Reader, want error) {
	t.Helper()
	if err := r.Err(); err != want {
		t.Errorf("%s: Err answers %v; want %v", name, err, want)
	}
	if err := r.Done(); err != want {
		t.Errorf("%s: Done answers %v; want %v", name, err, want)
	}
}

// readsNothing tells whether all reads of a reader with an error answer zero values, and leave the error.
func readsNothing(t *testing.T, name string, r *wire.Reader, want error) {
	t.Helper()
	for _, n := range []int{1, 2, 8, 0, 9, -1} {
		if x := r.Number(n); x != 0 {
			t.Errorf("%s: then Number(%d) answers %d", name, n, x)
		}
		if b := r.Fixed(n); len(b) > 0 {
			t.Errorf("%s: then Fixed(%d) answers %x", name, n, b)
		}
		if b := r.Bytes(n); len(b) > 0 {
			t.Errorf("%s: then Bytes(%d) answers %x", name, n, b)
		}
		if l := wire.Take(r, n, takeByte); len(l) > 0 {
			t.Errorf("%s: then Take of %d answers %v", name, n, l)
		}
	}
	if r.Flag() {
		t.Errorf("%s: then Flag answers true", name)
	}
	r.Fail(errTwo)
	r.Fail(nil)
	ends(t, name, r, want)
}

func TestReadNumber(t *testing.T) {
	const all = "\x01\x02\x03\x04\x05\x06\x07\x08"
	for width, want := range []int{0, 1, 0x0102, 0x010203, 0x01020304, 0x0102030405, 0x010203040506, 0x01020304050607, 0x0102030405060708} {
		if width == 0 {
			continue
		}
		r := wire.NewReader([]byte(all[:width]))
		if n := r.Number(width); n != want {
			t.Errorf("Number(%d) answers %x; want %x", width, n, want)
		}
		ends(t, "Number", r, nil)
		r = wire.NewReader([]byte(all[:width-1]))
		if n := r.Number(width); n != 0 {
			t.Errorf("Number(%d) of a byte too few answers %x", width, n)
		}
		readsNothing(t, "Number of a byte too few", r, api.ErrShort)
	}
}

func TestReadNumbersInOrder(t *testing.T) {
	r := wire.NewReader([]byte{1, 2, 3, 4, 5, 6})
	if a, b, c := r.Number(1), r.Number(3), r.Number(2); a != 1 || b != 0x020304 || c != 0x0506 {
		t.Errorf("Number answers %x, %x, %x", a, b, c)
	}
	ends(t, "Number", r, nil)
}

func TestReadGreatNumber(t *testing.T) {
	r := wire.NewReader([]byte("\x7f\xff\xff\xff\xff\xff\xff\xff"))
	if n := r.Number(8); n != math.MaxInt {
		t.Errorf("Number answers %x", n)
	}
	ends(t, "2^63 - 1", r, nil)
	r = wire.NewReader([]byte("\xff\xff\xff\xff\xff\xff\xff"))
	if n := r.Number(7); n != 1<<56-1 {
		t.Errorf("Number answers %x", n)
	}
	ends(t, "2^56 - 1", r, nil)
	for _, b := range []string{"\x80\x00\x00\x00\x00\x00\x00\x00", "\x80\x00\x00\x00\x00\x00\x00\x01", "\xff\xff\xff\xff\xff\xff\xff\xff"} {
		r := wire.NewReader([]byte(b + "left"))
		if n := r.Number(8); n != 0 {
			t.Errorf("Number of %x answers %x", b, n)
		}
		readsNothing(t, "2^63 or more", r, api.ErrRange)
	}
	r = wire.NewReader([]byte("\xff\xff\xff\xff\xff\xff\xff"))
	r.Number(8)
	readsNothing(t, "a great number cut short", r, api.ErrShort)
}

func TestReadNumberOfNoWidth(t *testing.T) {
	for _, width := range []int{0, 9, 16, -1, math.MinInt, math.MaxInt} {
		for _, b := range []string{"", "\x01", "0123456789abcdefgh"} {
			r := wire.NewReader([]byte(b))
			if n := r.Number(width); n != 0 {
				t.Errorf("Number(%d) answers %d", width, n)
			}
			readsNothing(t, "no width", r, api.ErrRange)
		}
	}
}

func TestReadFlag(t *testing.T) {
	r := wire.NewReader([]byte{0, 1, 0})
	if a, b, c := r.Flag(), r.Flag(), r.Flag(); a || !b || c {
		t.Errorf("Flag answers %v, %v, %v", a, b, c)
	}
	ends(t, "Flag", r, nil)
	if r.Flag() {
		t.Error("Flag of no byte answers true")
	}
	readsNothing(t, "Flag of no byte", r, api.ErrShort)
	for n := 2; n < 256; n++ {
		r := wire.NewReader([]byte{byte(n), 1, 1})
		if r.Flag() {
			t.Errorf("Flag of %d answers true", n)
		}
		readsNothing(t, "no flag", r, api.ErrForm)
	}
}

func TestReadFixed(t *testing.T) {
	r := wire.NewReader([]byte("abcdef"))
	for _, want := range []string{"ab", "", "cdef", ""} {
		if b := r.Fixed(len(want)); string(b) != want {
			t.Errorf("Fixed answers %q; want %q", b, want)
		}
	}
	ends(t, "Fixed", r, nil)
	for _, n := range []int{4, 5, math.MaxInt} {
		r := wire.NewReader([]byte("abc"))
		if b := r.Fixed(n); len(b) > 0 {
			t.Errorf("Fixed(%d) answers %q", n, b)
		}
		readsNothing(t, "Fixed of too many", r, api.ErrShort)
	}
	for _, n := range []int{-1, -2, math.MinInt} {
		for _, b := range []string{"", "abc"} {
			r := wire.NewReader([]byte(b))
			if b := r.Fixed(n); len(b) > 0 {
				t.Errorf("Fixed(%d) answers %q", n, b)
			}
			readsNothing(t, "Fixed of less than none", r, api.ErrRange)
		}
	}
	long := bytes.Repeat([]byte("long"), 20000)
	if b := wire.NewReader(long).Fixed(len(long)); !bytes.Equal(b, long) {
		t.Errorf("Fixed of more than MaxBytes answers %d bytes", len(b))
	}
}

func TestReadBytes(t *testing.T) {
	for _, c := range []struct {
		in   string
		most int
		want string
		err  error
	}{
		{"\x00\x02ab", 9, "ab", nil},
		{"\x00\x02ab", 2, "ab", nil},
		{"\x00\x02ab", 1, "", api.ErrRange},
		{"\x00\x00", 0, "", nil},
		{"\x00\x00", -1, "", api.ErrRange},
		{"\x00\x00", math.MinInt, "", api.ErrRange},
		{"", 9, "", api.ErrShort},
		{"", -1, "", api.ErrShort},
		{"\x00", 9, "", api.ErrShort},
		{"\x00\x02a", 9, "", api.ErrShort},
		{"\x00\x02a", 1, "", api.ErrRange},
		{"\x01\x00", 255, "", api.ErrRange},
		{"\x01\x00", 256, "", api.ErrShort},
		{"\xff\xff", math.MaxInt, "", api.ErrShort},
	} {
		r := wire.NewReader([]byte(c.in))
		if b := r.Bytes(c.most); string(b) != c.want {
			t.Errorf("Bytes(%d) of %q answers %q", c.most, c.in, b)
		}
		if c.err == nil {
			ends(t, "Bytes", r, nil)
		} else {
			readsNothing(t, "Bytes", r, c.err)
		}
	}
	full := bytes.Repeat([]byte{7}, api.MaxBytes)
	r := wire.NewReader(append([]byte{255, 255}, full...))
	if b := r.Bytes(api.MaxBytes); !bytes.Equal(b, full) {
		t.Errorf("Bytes answers %d bytes", len(b))
	}
	ends(t, "MaxBytes", r, nil)
	r = wire.NewReader(append([]byte{255, 255}, full...))
	r.Bytes(api.MaxBytes - 1)
	readsNothing(t, "MaxBytes of one fewer", r, api.ErrRange)
}

func TestReaderFail(t *testing.T) {
	r := wire.NewReader([]byte{1, 1, 1, 1})
	r.Fail(nil)
	if !r.Flag() {
		t.Error("behind Fail of nil Flag answers false")
	}
	r.Fail(errOne)
	readsNothing(t, "Fail", r, errOne)
	r = wire.NewReader(nil)
	r.Flag()
	r.Fail(errOne)
	readsNothing(t, "Fail behind an error", r, api.ErrShort)
	r = wire.NewReader(nil)
	r.Fail(errOne)
	readsNothing(t, "Fail at the end", r, errOne)
}

func TestReaderDone(t *testing.T) {
	ends(t, "no bytes", wire.NewReader(nil), nil)
	ends(t, "no bytes", wire.NewReader([]byte{}), nil)
	r := wire.NewReader([]byte{1, 2})
	for _, want := range []int{1, 2} {
		for range 2 {
			if err := r.Done(); err != api.ErrLong {
				t.Errorf("Done with bytes left answers %v", err)
			}
		}
		if err := r.Err(); err != nil {
			t.Errorf("Err with bytes left answers %v", err)
		}
		if n := r.Number(1); n != want {
			t.Errorf("Number behind Done answers %d; want %d", n, want)
		}
	}
	ends(t, "all bytes", r, nil)
}

func TestReaderSharesNothing(t *testing.T) {
	in := []byte("abcd\x00\x02efgh")
	r := wire.NewReader(in)
	clear(in)
	fixed := r.Fixed(4)
	if string(fixed) != "abcd" {
		t.Errorf("behind a change of what was handed in Fixed answers %q", fixed)
	}
	clear(fixed)
	_ = append(fixed, "xxxx"...)
	b := r.Bytes(2)
	if string(b) != "ef" {
		t.Errorf("behind a change of what was answered Bytes answers %q", b)
	}
	_ = append(b, "xx"...)
	if b := r.Fixed(2); string(b) != "gh" {
		t.Errorf("behind a change of what was answered Fixed answers %q", b)
	}
	in = []byte("abcd")
	clear(wire.NewReader(in).Fixed(4))
	if string(in) != "abcd" {
		t.Errorf("what was handed in is %q now", in)
	}
}

func TestTake(t *testing.T) {
	for _, c := range []struct {
		in   string
		most int
		want []int
		err  error
	}{
		{"\x02\x07\x08", 5, []int{7, 8}, nil},
		{"\x02\x07\x08", 2, []int{7, 8}, nil},
		{"\x02\x07\x08", 1, nil, api.ErrRange},
		{"\x02\x07", 1, nil, api.ErrRange},
		{"\x02\x07", 2, nil, api.ErrShort},
		{"\x02", 2, nil, api.ErrShort},
		{"", 2, nil, api.ErrShort},
		{"", -1, nil, api.ErrShort},
		{"\x00", 0, nil, nil},
		{"\x00", 5, nil, nil},
		{"\x00", -1, nil, api.ErrRange},
		{"\x00", math.MinInt, nil, api.ErrRange},
		{"\xff", math.MaxInt, nil, api.ErrShort},
	} {
		r := wire.NewReader([]byte(c.in))
		if l := wire.Take(r, c.most, takeByte); !slices.Equal(l, c.want) {
			t.Errorf("Take of %d of %q answers %v; want %v", c.most, c.in, l, c.want)
		}
		if c.err == nil {
			ends(t, "Take", r, nil)
		} else {
			readsNothing(t, "Take", r, c.err)
		}
	}
}

func TestTakeFullList(t *testing.T) {
	in := []byte{255}
	var want []int
	for i := range 255 {
		in = append(in, byte(254-i))
		want = append(want, 254-i)
	}
	for _, most := range []int{255, 256, math.MaxInt} {
		r := wire.NewReader(in)
		if l := wire.Take(r, most, takeByte); !slices.Equal(l, want) {
			t.Errorf("Take of %d answers %v", most, l)
		}
		ends(t, "Take", r, nil)
	}
	r := wire.NewReader(in)
	if l := wire.Take(r, 254, takeByte); len(l) > 0 {
		t.Errorf("Take of 254 answers %v", l)
	}
	readsNothing(t, "255 of 254", r, api.ErrRange)
}

func TestTakeByOne(t *testing.T) {
	r := wire.NewReader([]byte{3, 9})
	calls := 0
	l := wire.Take(r, 3, func(*wire.Reader) int { calls++; return calls })
	if !slices.Equal(l, []int{1, 2, 3}) || r.Number(1) != 9 {
		t.Errorf("Take by one that reads nothing answers %v", l)
	}
	ends(t, "Take by one that reads nothing", r, nil)
	r = wire.NewReader([]byte{3, 1, 7, 0, 2, 8, 9})
	lists := wire.Take(r, 3, func(r *wire.Reader) []int { return wire.Take(r, 2, takeByte) })
	if !slices.EqualFunc(lists, [][]int{{7}, nil, {8, 9}}, slices.Equal[[]int]) {
		t.Errorf("Take of lists answers %v", lists)
	}
	ends(t, "Take of lists", r, nil)
}

func TestTakeWithAnError(t *testing.T) {
	for bad := range 3 { // also the last one's error leaves no list
		r := wire.NewReader([]byte{3, 0, 1, 2, 9})
		l := wire.Take(r, 3, func(r *wire.Reader) int {
			n := r.Number(1)
			if n == bad {
				r.Fail(errOne)
			}
			return n + 1
		})
		if len(l) > 0 {
			t.Errorf("Take with an error of element %d answers %v", bad, l)
		}
		readsNothing(t, "an element's error", r, errOne)
	}
}
