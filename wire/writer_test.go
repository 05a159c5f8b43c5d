// P1.1, of a Writer: what its calls answer, in every order.

package wire_test

import (
	"bytes"
	"errors"
	"math"
	"testing"

	"quorate/api"
	"quorate/wire"
)

var (
	errOne = errors.New("one")
	errTwo = errors.New("two")
)

func putByte(w *wire.Writer, n int) { w.Number(n, 1) }

// wrote is what a writer answers that was told some calls; an error has to come without bytes.
func wrote(t *testing.T, calls func(w *wire.Writer)) ([]byte, error) {
	t.Helper()
	w := wire.NewWriter()
	calls(w)
	b, err := w.Done()
	if err != nil && len(b) > 0 {
		t.Errorf("Done answers the bytes %x beside %v", b, err)
	}
	return b, err
}

// writes tells whether the calls write just these bytes.
func writes(t *testing.T, name string, want []byte, calls func(w *wire.Writer)) {
	t.Helper()
	b, err := wrote(t, calls)
	if err != nil || !bytes.Equal(b, want) {
		t.Errorf("%s: %x, %v; want %x", name, b, err, want)
	}
}

// fails tells whether the calls have this error.
func fails(t *testing.T, name string, want error, calls func(w *wire.Writer)) {
	t.Helper()
	if _, err := wrote(t, calls); err != want {
		t.Errorf("%s: %v; want %v", name, err, want)
	}
}

func TestWriterWithoutCalls(t *testing.T) {
	writes(t, "no call", nil, func(w *wire.Writer) {})
}

func TestWriteNumber(t *testing.T) {
	for _, c := range []struct {
		n, width int
		want     string
	}{
		{0, 1, "\x00"},
		{255, 1, "\xff"},
		{0, 2, "\x00\x00"},
		{258, 2, "\x01\x02"},
		{65535, 2, "\xff\xff"},
		{1, 3, "\x00\x00\x01"},
		{0x010203, 3, "\x01\x02\x03"},
		{0x01020304, 4, "\x01\x02\x03\x04"},
		{0x0102030405, 5, "\x01\x02\x03\x04\x05"},
		{0x010203040506, 6, "\x01\x02\x03\x04\x05\x06"},
		{0x01020304050607, 7, "\x01\x02\x03\x04\x05\x06\x07"},
		{0x0102030405060708, 8, "\x01\x02\x03\x04\x05\x06\x07\x08"},
		{0, 8, "\x00\x00\x00\x00\x00\x00\x00\x00"},
		{math.MaxInt, 8, "\x7f\xff\xff\xff\xff\xff\xff\xff"},
	} {
		writes(t, "Number", []byte(c.want), func(w *wire.Writer) { w.Number(c.n, c.width) })
	}
}

func TestWriteNumberOfEachWidth(t *testing.T) {
	for width := 1; width < 8; width++ {
		most := 1<<(8*width) - 1
		writes(t, "the greatest number", bytes.Repeat([]byte{255}, width), func(w *wire.Writer) { w.Number(most, width) })
		fails(t, "a number more", api.ErrRange, func(w *wire.Writer) { w.Number(most+1, width) })
		fails(t, "the greatest int", api.ErrRange, func(w *wire.Writer) { w.Number(math.MaxInt, width) })
	}
	for width := 1; width <= 8; width++ {
		fails(t, "-1", api.ErrRange, func(w *wire.Writer) { w.Number(-1, width) })
		fails(t, "the least int", api.ErrRange, func(w *wire.Writer) { w.Number(math.MinInt, width) })
	}
}

func TestWriteNumberOfNoWidth(t *testing.T) {
	for _, width := range []int{0, 9, 10, 64, -1, -8, math.MinInt, math.MaxInt} {
		for _, n := range []int{0, 1, -1} {
			fails(t, "no width", api.ErrRange, func(w *wire.Writer) { w.Number(n, width) })
		}
	}
}

func TestWriteFlagAndFixed(t *testing.T) {
	writes(t, "Flag", []byte{1, 0, 1}, func(w *wire.Writer) {
		w.Flag(true)
		w.Flag(false)
		w.Flag(true)
	})
	writes(t, "Fixed", []byte("abc"), func(w *wire.Writer) {
		w.Fixed([]byte("ab"))
		w.Fixed(nil)
		w.Fixed([]byte{})
		w.Fixed([]byte("c"))
	})
	long := bytes.Repeat([]byte("long"), 20000)
	writes(t, "Fixed of more than MaxBytes", long, func(w *wire.Writer) { w.Fixed(long) })
}

func TestWriteBytes(t *testing.T) {
	writes(t, "Bytes", []byte("\x00\x02ab"), func(w *wire.Writer) { w.Bytes([]byte("ab"), 9) })
	writes(t, "as many as most", []byte("\x00\x02ab"), func(w *wire.Writer) { w.Bytes([]byte("ab"), 2) })
	fails(t, "more than most", api.ErrRange, func(w *wire.Writer) { w.Bytes([]byte("ab"), 1) })
	writes(t, "none of none", []byte{0, 0}, func(w *wire.Writer) { w.Bytes(nil, 0) })
	fails(t, "none of -1", api.ErrRange, func(w *wire.Writer) { w.Bytes(nil, -1) })
	fails(t, "none of the least int", api.ErrRange, func(w *wire.Writer) { w.Bytes([]byte{}, math.MinInt) })
	many := bytes.Repeat([]byte{7}, 258)
	writes(t, "258 bytes", append([]byte{1, 2}, many...), func(w *wire.Writer) { w.Bytes(many, 300) })
	full := bytes.Repeat([]byte{7}, api.MaxBytes)
	writes(t, "MaxBytes", append([]byte{255, 255}, full...), func(w *wire.Writer) { w.Bytes(full, math.MaxInt) })
	fails(t, "MaxBytes of one fewer", api.ErrRange, func(w *wire.Writer) { w.Bytes(full, api.MaxBytes-1) })
	fails(t, "more than MaxBytes", api.ErrRange, func(w *wire.Writer) { w.Bytes(append(full, 7), math.MaxInt) })
}

func TestWriterFail(t *testing.T) {
	fails(t, "Fail", errOne, func(w *wire.Writer) { w.Fail(errOne) })
	fails(t, "Fail twice", errOne, func(w *wire.Writer) {
		w.Fail(errOne)
		w.Fail(errTwo)
		w.Fail(nil)
	})
	fails(t, "Fail of nil first", errOne, func(w *wire.Writer) {
		w.Fail(nil)
		w.Fail(errOne)
	})
	fails(t, "Fail behind an error", api.ErrRange, func(w *wire.Writer) {
		w.Number(1, 0)
		w.Fail(errOne)
	})
	writes(t, "Fail of nil", []byte{5, 6}, func(w *wire.Writer) {
		w.Number(5, 1)
		w.Fail(nil)
		w.Number(6, 1)
	})
}

func TestWriterKeepsItsFirstError(t *testing.T) {
	fails(t, "all calls behind an error", errOne, func(w *wire.Writer) {
		w.Number(5, 1)
		w.Fail(errOne)
		w.Number(5, 1)
		w.Number(-1, 1)
		w.Flag(true)
		w.Fixed([]byte("ab"))
		w.Bytes([]byte("ab"), 9)
		w.Bytes([]byte("ab"), 1)
		wire.Put(w, []int{1, 2}, 5, putByte)
		wire.Put(w, []int{1, 2}, 1, putByte)
	})
	for name, bad := range map[string]func(w *wire.Writer){
		"Number": func(w *wire.Writer) { w.Number(256, 1) },
		"Bytes":  func(w *wire.Writer) { w.Bytes([]byte("ab"), 1) },
		"Put":    func(w *wire.Writer) { wire.Put(w, []int{1, 2}, 1, putByte) },
	} {
		fails(t, name, api.ErrRange, func(w *wire.Writer) {
			bad(w)
			w.Number(5, 1)
		})
	}
}

func TestWriterDoneAgain(t *testing.T) {
	w := wire.NewWriter()
	w.Bytes([]byte("ab"), 2)
	for range 2 {
		if b, err := w.Done(); err != nil || string(b) != "\x00\x02ab" {
			t.Errorf("Done answers %x, %v", b, err)
		}
	}
	w.Flag(true)
	if b, err := w.Done(); err != nil || string(b) != "\x00\x02ab\x01" {
		t.Errorf("Done behind a further call answers %x, %v", b, err)
	}
	w.Number(0, 9)
	for range 2 {
		if b, err := w.Done(); err != api.ErrRange || len(b) > 0 {
			t.Errorf("Done with an error answers %x, %v", b, err)
		}
	}
}

func TestWriterSharesNothing(t *testing.T) {
	fixed, list := []byte("ab"), []byte("cd")
	w := wire.NewWriter()
	w.Fixed(fixed)
	w.Bytes(list, 2)
	fixed[0], list[0] = 'x', 'x'
	const want = "ab\x00\x02cd"
	b, _ := w.Done()
	if string(b) != want {
		t.Errorf("behind a change of what was handed in: %x", b)
	}
	clear(b)
	_ = append(b, 'x')
	w.Flag(true)
	clear(b[:cap(b)])
	if b, _ := w.Done(); string(b) != want+"\x01" {
		t.Errorf("behind a change of what was answered: %x", b)
	}
	if string(fixed) != "xb" || string(list) != "xd" {
		t.Errorf("what was handed in is %q, %q now", fixed, list)
	}
}

func TestPut(t *testing.T) {
	writes(t, "two", []byte{2, 7, 8}, func(w *wire.Writer) { wire.Put(w, []int{7, 8}, 5, putByte) })
	writes(t, "as many as most", []byte{2, 7, 8}, func(w *wire.Writer) { wire.Put(w, []int{7, 8}, 2, putByte) })
	fails(t, "more than most", api.ErrRange, func(w *wire.Writer) { wire.Put(w, []int{7, 8}, 1, putByte) })
	writes(t, "nil", []byte{0}, func(w *wire.Writer) { wire.Put(w, nil, 5, putByte) })
	writes(t, "none of none", []byte{0}, func(w *wire.Writer) { wire.Put(w, []int{}, 0, putByte) })
	fails(t, "none of -1", api.ErrRange, func(w *wire.Writer) { wire.Put(w, nil, -1, putByte) })
	fails(t, "none of the least int", api.ErrRange, func(w *wire.Writer) { wire.Put(w, nil, math.MinInt, putByte) })
	full := make([]int, 255)
	want := []byte{255}
	for i := range full {
		full[i] = 254 - i
		want = append(want, byte(254-i))
	}
	writes(t, "255", want, func(w *wire.Writer) { wire.Put(w, full, math.MaxInt, putByte) })
	fails(t, "255 of 254", api.ErrRange, func(w *wire.Writer) { wire.Put(w, full, 254, putByte) })
	fails(t, "256", api.ErrRange, func(w *wire.Writer) { wire.Put(w, append(full, 1), math.MaxInt, putByte) })
	fails(t, "256 without bytes", api.ErrRange, func(w *wire.Writer) {
		wire.Put(w, make([]int, 256), 256, func(*wire.Writer, int) {})
	})
}

func TestPutByOne(t *testing.T) {
	writes(t, "no bytes of each", []byte{2}, func(w *wire.Writer) {
		wire.Put(w, []int{7, 8}, 5, func(*wire.Writer, int) {})
	})
	writes(t, "lists of bytes", []byte("\x02\x00\x01a\x00\x02bc"), func(w *wire.Writer) {
		wire.Put(w, []string{"a", "bc"}, 5, func(w *wire.Writer, s string) { w.Bytes([]byte(s), 2) })
	})
	writes(t, "lists of lists", []byte{9, 3, 1, 7, 0, 2, 8, 9, 9}, func(w *wire.Writer) {
		w.Number(9, 1)
		wire.Put(w, [][]int{{7}, nil, {8, 9}}, 3, func(w *wire.Writer, l []int) { wire.Put(w, l, 2, putByte) })
		w.Number(9, 1)
	})
	fails(t, "an element's error", api.ErrRange, func(w *wire.Writer) { wire.Put(w, []int{7, 256, 8}, 5, putByte) })
	fails(t, "one's own error", errOne, func(w *wire.Writer) {
		wire.Put(w, []error{nil, errOne, errTwo}, 5, func(w *wire.Writer, err error) { w.Fail(err) })
	})
}
