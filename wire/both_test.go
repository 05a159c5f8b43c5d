package wire_test

import (
	"bytes"
	"math/rand"
	"slices"
	"testing"

	"quorate/wire"
)

// A step is a call of a writer, and of a reader, with what is written or read by it.
type step struct {
	kind, size int // size: a width, how many, or the most
	n          int
	is         bool
	b          []byte
	list       [][]byte
}

const (
	stepNumber = iota
	stepFlag
	stepFixed
	stepBytes
	stepList
	stepKinds
)

func (s step) write(w *wire.Writer) {
	switch s.kind {
	case stepNumber:
		w.Number(s.n, s.size)
	case stepFlag:
		w.Flag(s.is)
	case stepFixed:
		w.Fixed(s.b)
	case stepBytes:
		w.Bytes(s.b, s.size)
	case stepList:
		wire.Put(w, s.list, s.size, func(w *wire.Writer, b []byte) { w.Bytes(b, s.size) })
	}
}

// read is a step of the same call, with what a reader answers.
func (s step) read(r *wire.Reader) step {
	x := step{kind: s.kind, size: s.size}
	switch s.kind {
	case stepNumber:
		x.n = r.Number(s.size)
	case stepFlag:
		x.is = r.Flag()
	case stepFixed:
		x.b = r.Fixed(s.size)
	case stepBytes:
		x.b = r.Bytes(s.size)
	case stepList:
		x.list = wire.Take(r, s.size, func(r *wire.Reader) []byte { return r.Bytes(s.size) })
	}
	return x
}

func (s step) same(x step) bool {
	return s.kind == x.kind && s.n == x.n && s.is == x.is && bytes.Equal(s.b, x.b) && slices.EqualFunc(s.list, x.list, bytes.Equal)
}

func randomBytes(rnd *rand.Rand, most int) []byte {
	b := make([]byte, rnd.Intn(most+1))
	rnd.Read(b)
	return b
}

// randomStep is a step that has no error.
func randomStep(rnd *rand.Rand) step {
	s := step{kind: rnd.Intn(stepKinds)}
	switch s.kind {
	case stepNumber:
		s.size = 1 + rnd.Intn(8)
		s.n = int(rnd.Int63()) >> (63 - min(8*s.size, 63)) >> rnd.Intn(8*s.size)
	case stepFlag:
		s.is = rnd.Intn(2) == 1
	case stepFixed:
		s.b = randomBytes(rnd, 9)
		s.size = len(s.b)
	case stepBytes:
		s.b = randomBytes(rnd, 300)
		s.size = len(s.b) + rnd.Intn(2)
	case stepList:
		s.size = rnd.Intn(256)
		for range rnd.Intn(s.size + 1) {
			s.list = append(s.list, randomBytes(rnd, min(s.size, 3)))
		}
	}
	return s
}

func readAll(t *testing.T, r *wire.Reader, steps []step) {
	t.Helper()
	for i, s := range steps {
		if x := s.read(r); !s.same(x) {
			t.Fatalf("step %d: written %+v, read %+v", i, s, x)
		}
	}
	ends(t, "what was written", r, nil)
}

// P1.2: what is written is read.
func TestWhatIsWrittenIsRead(t *testing.T) {
	rnd := rand.New(rand.NewSource(1))
	for range 2000 {
		var steps []step
		w := wire.NewWriter()
		for range rnd.Intn(12) {
			s := randomStep(rnd)
			steps = append(steps, s)
			s.write(w)
		}
		b, err := w.Done()
		if err != nil {
			t.Fatalf("%+v: %v", steps, err)
		}
		readAll(t, wire.NewReader(b), steps)
	}
}

// P1.2, at the edges of all widths.
func TestEachNumberIsRead(t *testing.T) {
	for width := 1; width <= 8; width++ {
		var steps []step
		for bit := range min(8*width, 63) {
			for _, n := range []int{1<<bit - 1, 1 << bit, 1<<bit + (1<<bit - 1)} {
				steps = append(steps, step{kind: stepNumber, size: width, n: n})
			}
		}
		w := wire.NewWriter()
		for _, s := range steps {
			s.write(w)
		}
		b, err := w.Done()
		if err != nil || len(b) != width*len(steps) {
			t.Fatalf("width %d: %d bytes, %v", width, len(b), err)
		}
		readAll(t, wire.NewReader(b), steps)
	}
}

// P1.2: what is read is written, also of bytes that nobody wrote (small ones mostly, so that counts fit).
func TestWhatIsReadIsWritten(t *testing.T) {
	rnd := rand.New(rand.NewSource(2))
	whole := 0
	for range 20000 {
		in := randomBytes(rnd, 12)
		for i := range in {
			if rnd.Intn(4) > 0 {
				in[i] %= 3
			}
		}
		r, w := wire.NewReader(in), wire.NewWriter()
		for range 100 { // a read may take no byte
			if r.Err() != nil || r.Done() == nil {
				break
			}
			x := randomStep(rnd).read(r)
			if r.Err() == nil {
				x.write(w)
			}
		}
		if r.Done() != nil {
			continue
		}
		whole++
		if b, err := w.Done(); err != nil || !bytes.Equal(b, in) {
			t.Fatalf("read %x, written %x, %v", in, b, err)
		}
	}
	if whole < 1000 {
		t.Errorf("only %d inputs were read to their end", whole)
	}
}
