package hash_test

import (
	"bytes"
	"crypto/sha256"
	"encoding/binary"
	"encoding/hex"
	"slices"
	"testing"

	"quorate/api"
	"quorate/hash"
)

// pattern is n bytes without a short period.
func pattern(n int) []byte {
	b := make([]byte, n)
	for i := range b {
		b[i] = byte(i*i + i/7 + 3*i/256)
	}
	return b
}

// P2.1: the standard's examples.
func TestSumOfTheStandardsTexts(t *testing.T) {
	for _, c := range []struct{ text, want string }{
		{"", "e3b0c44298fc1c149afbf4c8996fb92427ae41e4649b934ca495991b7852b855"},
		{"abc", "ba7816bf8f01cfea414140de5dae2223b00361a396177a9cb410ff61f20015ad"},
		{"abcdbcdecdefdefgefghfghighijhijkijkljklmklmnlmnomnopnopq", "248d6a61d20638b8e5c026930c3e6039a33ce45964ff2167f6ecedd419db06c1"},
	} {
		if got := hash.Sum([]byte(c.text)); hex.EncodeToString(got[:]) != c.want {
			t.Errorf("Sum(%q) answers %x, want %s", c.text, got, c.want)
		}
	}
	if got := hash.Sum(nil); got != sha256.Sum256(nil) {
		t.Errorf("Sum(nil) answers %x", got)
	}
}

// P2.1: every length around the ends of blocks.
func TestSumOfAllLengths(t *testing.T) {
	all := pattern(700)
	for n := range len(all) + 1 {
		if got, want := hash.Sum(all[:n]), sha256.Sum256(all[:n]); got != want {
			t.Fatalf("Sum of %d bytes answers %x, want %x", n, got, want)
		}
	}
	for _, n := range []int{8191, 65535, 65536, 1 << 20} {
		b := pattern(n)
		if got, want := hash.Sum(b), sha256.Sum256(b); got != want {
			t.Errorf("Sum of %d bytes answers %x, want %x", n, got, want)
		}
	}
}

// P2.1: every byte counts, and every bit of it.
func TestSumOfEveryByte(t *testing.T) {
	for c := range 256 {
		b := bytes.Repeat([]byte{byte(c)}, 65)
		if got, want := hash.Sum(b), sha256.Sum256(b); got != want {
			t.Errorf("Sum of 65 times %d answers %x, want %x", c, got, want)
		}
	}
}

// P2.1: a count of bits that needs more than 32 of them.
func TestSumOfManyBytes(t *testing.T) {
	if testing.Short() {
		t.Skip("half a billion bytes")
	}
	piece := pattern(1 << 22)
	h, want := hash.New(), sha256.New()
	for range 129 {
		h.Write(piece)
		want.Write(piece)
	}
	if got := h.Sum(); !bytes.Equal(got[:], want.Sum(nil)) {
		t.Errorf("Sum of 129 times 2^22 bytes answers %x, want %x", got, want.Sum(nil))
	}
}

// P2.1: bytes may come in any pieces, and Sum leaves the hash as it is.
func TestWriteInPieces(t *testing.T) {
	all := pattern(300)
	for size := 1; size <= 140; size++ {
		h := hash.New()
		for at := 0; at < len(all); at += size {
			end := min(at+size, len(all))
			h.Write(all[at:end])
			h.Write(nil)
			h.Write([]byte{})
			if got, want := h.Sum(), sha256.Sum256(all[:end]); got != want {
				t.Fatalf("pieces of %d: Sum of %d bytes answers %x, want %x", size, end, got, want)
			}
			if h.Sum() != h.Sum() {
				t.Fatalf("pieces of %d: Sum changes the hash", size)
			}
		}
	}
}

// P2.1: two cuts at any places.
func TestWriteAtAnyCuts(t *testing.T) {
	all := pattern(135)
	want := sha256.Sum256(all)
	for i := range len(all) + 1 {
		for j := i; j <= len(all); j++ {
			h := hash.New()
			h.Write(all[:i])
			h.Write(all[i:j])
			h.Write(all[j:])
			if got := h.Sum(); got != want {
				t.Fatalf("cut at %d and %d: Sum answers %x, want %x", i, j, got, want)
			}
		}
	}
}

// P2.1: hashes have nothing in common, a fresh one is of no bytes.
func TestHashesAreOfTheirOwn(t *testing.T) {
	a, b := hash.New(), hash.New()
	a.Write([]byte("one"))
	b.Write([]byte("two"))
	a.Write([]byte("more"))
	if a.Sum() != sha256.Sum256([]byte("onemore")) || b.Sum() != sha256.Sum256([]byte("two")) {
		t.Errorf("two hashes answer %x, %x", a.Sum(), b.Sum())
	}
	if hash.New().Sum() != sha256.Sum256(nil) {
		t.Errorf("New's Sum answers %x", hash.New().Sum())
	}
}

// P2.1 and the rules: what was written may be changed behind the call, and isn't changed by it.
func TestWriteKeepsNothing(t *testing.T) {
	for _, n := range []int{1, 63, 64, 65, 100, 128} {
		b := pattern(n)
		h := hash.New()
		h.Write(b)
		if !bytes.Equal(b, pattern(n)) {
			t.Fatalf("Write changes its %d bytes", n)
		}
		clear(b)
		if h.Sum() != sha256.Sum256(pattern(n)) {
			t.Errorf("a change of %d bytes shows behind Write", n)
		}
	}
	b := pattern(100)
	hash.Sum(b)
	hash.Of(1, b, b[:3])
	if !bytes.Equal(b, pattern(100)) {
		t.Error("Sum or Of changes its bytes")
	}
}

// of is what the document says of Of, by the standard library's SHA-256.
func of(domain int, parts ...[]byte) api.Digest {
	all := []byte{byte(domain)}
	for _, p := range parts {
		all = binary.BigEndian.AppendUint32(all, uint32(len(p)))
		all = append(all, p...)
	}
	sum := sha256.Sum256(all)
	return api.Digest(sum[:16])
}

// P2.1: a domain's lowest byte, and each part behind its length.
func TestOf(t *testing.T) {
	lists := [][][]byte{
		nil, {}, {nil}, {{}}, {{}, nil}, {{0}}, {{7}, {8}}, {{7, 8}}, {{7, 8}, nil}, {nil, {7, 8}},
		{[]byte("ab"), []byte("c")}, {[]byte("a"), []byte("bc")}, {[]byte("abc")},
		{pattern(54)}, {pattern(55)}, {pattern(59), pattern(60)}, {pattern(255)}, {pattern(256)}, {pattern(65535)}, {pattern(65536)},
		{pattern(1<<24 + 5), {1}}, {pattern(16), pattern(4), {1}, {2}, {3}},
	}
	for i, parts := range lists {
		for _, domain := range []int{0, 1, 10, 255, 256, 257, 511, 1 << 40, -1, -255, -256, -1 << 63, 1<<63 - 1} {
			if len(parts) > 0 && len(parts[0]) > 1<<20 && domain != 10 {
				continue
			}
			if got, want := hash.Of(domain, parts...), of(domain, parts...); got != want {
				t.Errorf("list %d: Of of domain %d answers %x, want %x", i, domain, got, want)
			}
		}
	}
}

// P2.1: unlike parts and domains have unlike short hashes.
func TestOfTellsPartsApart(t *testing.T) {
	var seen []api.Digest
	for _, d := range []api.Digest{
		hash.Of(1), hash.Of(2), hash.Of(1, nil), hash.Of(1, nil, nil), hash.Of(1, []byte{0}), hash.Of(1, []byte{0, 0}),
		hash.Of(1, []byte("ab")), hash.Of(1, []byte("a"), []byte("b")), hash.Of(1, []byte("ab"), nil), hash.Of(1, nil, []byte("ab")),
	} {
		if slices.Contains(seen, d) {
			t.Errorf("%x stands for two lists of parts", d)
		}
		seen = append(seen, d)
	}
}

// P2.1: Zero of all digests with one bit, and of none.
func TestZero(t *testing.T) {
	if !hash.Zero(api.Digest{}) {
		t.Error("Zero of 0s is no")
	}
	for i := range api.DigestSize {
		for bit := range 8 {
			var d api.Digest
			d[i] = 1 << bit
			if hash.Zero(d) {
				t.Errorf("Zero of %x is yes", d)
			}
		}
	}
	var all api.Digest
	for i := range all {
		all[i] = 255
	}
	if hash.Zero(all) {
		t.Error("Zero of 255s is yes")
	}
}
