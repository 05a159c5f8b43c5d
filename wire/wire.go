// Package wire is layer 1: numbers, bytes and lists as bytes, in one form each.
package wire

import (
	"bytes"
	"math"

	"quorate/api"
)

const (
	maxWidth = 8   // bytes of a number
	maxList  = 255 // elements whose count fits the one byte ahead of a list
)

// first is an error that stays: the first one that came.
type first struct {
	err error
}

// Fail notes an error, if there is none yet.
func (f *first) Fail(err error) {
	if f.err == nil {
		f.err = err
	}
}

// attempt calls what a caller handed in. Its panic becomes an error, since no call of this package may panic.
func (f *first) attempt(call func()) {
	defer func() {
		if recover() != nil {
			f.Fail(api.ErrForm)
		}
	}()
	call()
}

// Writer writes bytes, up to its first error.
type Writer struct {
	first
	b []byte
}

// NewWriter is a writer of no bytes.
func NewWriter() *Writer {
	return &Writer{}
}

// write puts bytes behind the others, unless there is an error.
func (w *Writer) write(b ...byte) {
	if w.err == nil {
		w.b = append(w.b, b...)
	}
}

// Number writes a number of a width, its high byte first.
func (w *Writer) Number(n, width int) {
	if width < 1 || width > maxWidth || n < 0 || n>>(8*width) != 0 {
		w.Fail(api.ErrRange)
		return
	}
	for i := width - 1; i >= 0; i-- {
		w.write(byte(n >> (8 * i)))
	}
}

// Flag writes a flag.
func (w *Writer) Flag(is bool) {
	if is {
		w.write(1)
	} else {
		w.write(0)
	}
}

// Fixed writes bytes as they are.
func (w *Writer) Fixed(b []byte) {
	w.write(b...)
}

// Bytes writes how many bytes, and they.
func (w *Writer) Bytes(b []byte, most int) {
	if len(b) > most || len(b) > api.MaxBytes {
		w.Fail(api.ErrRange)
		return
	}
	w.Number(len(b), 2)
	w.Fixed(b)
}

// Done is all bytes; none, if there is an error.
func (w *Writer) Done() ([]byte, error) {
	if w.err != nil {
		return nil, w.err
	}
	return bytes.Clone(w.b), nil
}

// Put writes a list: how many elements, and each of them by one.
func Put[T any](w *Writer, list []T, most int, one func(w *Writer, x T)) {
	if w == nil {
		return
	}
	if len(list) > most || len(list) > maxList {
		w.Fail(api.ErrRange)
		return
	}
	w.Number(len(list), 1)
	w.attempt(func() {
		for _, x := range list {
			one(w, x)
		}
	})
}

// Reader reads bytes, up to its first error.
type Reader struct {
	first
	left []byte
}

// NewReader is a reader of bytes.
func NewReader(b []byte) *Reader {
	return &Reader{left: bytes.Clone(b)}
}

// next takes the next n bytes (n isn't below 0); none, if there is an error. They are a piece of the reader's own.
func (r *Reader) next(n int) []byte {
	if n > len(r.left) {
		r.Fail(api.ErrShort)
	}
	if r.err != nil {
		return nil
	}
	b := r.left[:n]
	r.left = r.left[n:]
	return b
}

// Number reads a number of a width.
func (r *Reader) Number(width int) int {
	if width < 1 || width > maxWidth {
		r.Fail(api.ErrRange)
		return 0
	}
	n := uint64(0)
	for _, c := range r.next(width) {
		n = n<<8 | uint64(c)
	}
	if n > math.MaxInt64 {
		r.Fail(api.ErrRange)
		return 0
	}
	return int(n)
}

// Flag reads a flag.
func (r *Reader) Flag() bool {
	n := r.Number(1)
	if n > 1 {
		r.Fail(api.ErrForm)
	}
	return n == 1
}

// Fixed reads n bytes.
func (r *Reader) Fixed(n int) []byte {
	if n < 0 {
		r.Fail(api.ErrRange)
		return nil
	}
	return bytes.Clone(r.next(n))
}

// Bytes reads how many bytes, and they.
func (r *Reader) Bytes(most int) []byte {
	n := r.Number(2)
	if n > most {
		r.Fail(api.ErrRange)
	}
	return r.Fixed(n)
}

// Err is its error.
func (r *Reader) Err() error {
	return r.err
}

// Done is its error; ErrLong, if there is none and bytes are left.
func (r *Reader) Done() error {
	if r.err == nil && len(r.left) > 0 {
		return api.ErrLong
	}
	return r.err
}

// Take reads a list: how many elements, and each of them by one; none, if there is an error.
func Take[T any](r *Reader, most int, one func(r *Reader) T) []T {
	if r == nil {
		return nil
	}
	n := r.Number(1)
	if n > most {
		r.Fail(api.ErrRange)
	}
	var list []T
	r.attempt(func() {
		for len(list) < n && r.err == nil {
			list = append(list, one(r))
		}
	})
	if r.err != nil {
		return nil
	}
	return list
}
