package codec_test

import (
	"bytes"
	"fmt"
	"testing"

	"quorate/api"
	"quorate/codec"
	"quorate/hash"
)

// text is a thing's fields as text: nil and empty lists are the same in it.
func text(x any) string { return fmt.Sprint(x) }

// decodes asks that bytes are read to an error and nothing else.
func decodes(t *testing.T, name string, b []byte, want error) {
	t.Helper()
	if m, err := codec.Decode(b); err != want || text(m) != text(api.Message{}) {
		t.Errorf("%s: Decode answers %v, want %v (a zero message: %v)", name, err, want, text(m) == text(api.Message{}))
	}
}

// P9.1: the bytes of all kinds of messages, and of blocks and Changes.
func TestForms(t *testing.T) {
	for i, k := range makers() {
		for kind := 1; kind <= 6; kind++ {
			m := k.message(kind)
			if b, err := codec.Encode(m); err != nil || !bytes.Equal(b, messageForm(m)) {
				t.Errorf("maker %d, kind %d: Encode answers %x, %v", i, kind, b, err)
			}
		}
		b := k.block()
		if got, err := codec.Bytes(b); err != nil || !bytes.Equal(got, blockForm(b)) {
			t.Errorf("maker %d: Bytes answers %x, %v", i, got, err)
		}
		c := k.change()
		if got, err := codec.Change(c); err != nil || !bytes.Equal(got, changeForm(c)) {
			t.Errorf("maker %d: Change answers %x, %v", i, got, err)
		}
	}
	if b, err := codec.Encode(api.Message{Kind: 4}); err != nil || !bytes.Equal(b, append([]byte{4}, make([]byte, 32)...)) {
		t.Errorf("a Want of 0s has the bytes %x, %v", b, err)
	}
}

// P9.2: what is encoded is decoded to the same, and that is encoded to the same bytes.
func TestThereAndBack(t *testing.T) {
	for i, k := range makers() {
		for kind := 1; kind <= 6; kind++ {
			m := k.message(kind)
			b := messageForm(m)
			kept := bytes.Clone(b)
			got, err := codec.Decode(b)
			if err != nil || text(got) != text(m) {
				t.Errorf("maker %d, kind %d: Decode answers %v, %v", i, kind, got, err)
			}
			if !bytes.Equal(b, kept) {
				t.Fatal("Decode changes the bytes")
			}
			clear(b)
			if again, err := codec.Encode(got); err != nil || !bytes.Equal(again, kept) {
				t.Errorf("maker %d, kind %d: what was decoded is encoded to other bytes (%v), or a change of the bytes shows", i, kind, err)
			}
		}
		b := k.block()
		if got, err := codec.Block(blockForm(b)); err != nil || text(got) != text(b) {
			t.Errorf("maker %d: Block answers %v, %v", i, got, err)
		}
		c := k.change()
		if got, err := codec.ReadChange(changeForm(c)); err != nil || text(got) != text(c) {
			t.Errorf("maker %d: ReadChange answers %v, %v", i, got, err)
		}
	}
}

// P9.1: what the other kinds' fields hold doesn't matter, and decoding leaves them zero.
func TestOtherKindsFields(t *testing.T) {
	k := makers()[2]
	var all api.Message
	for kind := 1; kind <= 6; kind++ {
		m := k.message(kind)
		switch kind {
		case 1:
			all.Vote = m.Vote
		case 2:
			all.Timeout = m.Timeout
		case 3:
			all.Proposal = m.Proposal
		case 4:
			all.Want = m.Want
		case 5:
			all.Reply = m.Reply
		case 6:
			all.Change = m.Change
		}
	}
	for kind := 1; kind <= 6; kind++ {
		all.Kind = kind
		b, err := codec.Encode(all)
		if err != nil || !bytes.Equal(b, messageForm(all)) {
			t.Errorf("kind %d: Encode answers %x, %v", kind, b, err)
		}
		got, err := codec.Decode(b)
		if err != nil || text(got) == text(all) {
			t.Errorf("kind %d: Decode answers %v, %v", kind, got, err)
		}
	}
	wrong := api.Message{Kind: 4, Vote: api.Vote{Epoch: -1}, Change: api.Change{QC: api.QC{Votes: make([]api.Signed, 99)}}}
	if b, err := codec.Encode(wrong); err != nil || len(b) != 33 {
		t.Errorf("with wrong fields of other kinds Encode answers %x, %v", b, err)
	}
}

// P9.1: kinds that there aren't, also ahead of other errors.
func TestNoKinds(t *testing.T) {
	for _, kind := range []int{0, 7, 8, 255, 256, 257, -1, 1 << 40, -1 << 63, 1<<63 - 1} {
		m := makers()[1].message(1)
		m.Kind = kind
		m.Vote.Epoch = -1
		if b, err := codec.Encode(m); err != api.ErrForm || b != nil {
			t.Errorf("kind %d: Encode answers %x, %v", kind, b, err)
		}
	}
	for _, kind := range []byte{0, 7, 8, 127, 128, 255} {
		decodes(t, fmt.Sprint("kind ", kind), []byte{kind}, api.ErrForm)
		decodes(t, fmt.Sprint("kind ", kind), append([]byte{kind}, make([]byte, 50)...), api.ErrForm)
	}
	decodes(t, "no bytes", nil, api.ErrShort)
}

// P9.1: bytes that end too soon, at every place, and bytes more.
func TestShortAndLong(t *testing.T) {
	for i, k := range makers()[:3] {
		for kind := 1; kind <= 6; kind++ {
			b := messageForm(k.message(kind))
			for n := range b {
				decodes(t, fmt.Sprintf("maker %d, kind %d, %d bytes", i, kind, n), b[:n], api.ErrShort)
			}
			decodes(t, fmt.Sprintf("maker %d, kind %d, a byte more", i, kind), append(bytes.Clone(b), 0), api.ErrLong)
		}
		b := blockForm(k.block())
		for n := range b {
			if got, err := codec.Block(b[:n]); err != api.ErrShort || text(got) != text(api.Block{}) {
				t.Errorf("maker %d: Block of %d bytes answers %v, %v", i, n, got, err)
			}
		}
		if got, err := codec.Block(append(b, 1)); err != api.ErrLong || text(got) != text(api.Block{}) {
			t.Errorf("maker %d: Block of a byte more answers %v, %v", i, got, err)
		}
		c := changeForm(k.change())
		for n := range c {
			if got, err := codec.ReadChange(c[:n]); err != api.ErrShort || text(got) != text(api.Change{}) {
				t.Errorf("maker %d: ReadChange of %d bytes answers %v, %v", i, n, got, err)
			}
		}
		if got, err := codec.ReadChange(append(c, 1)); err != api.ErrLong || text(got) != text(api.Change{}) {
			t.Errorf("maker %d: ReadChange of a byte more answers %v, %v", i, got, err)
		}
	}
}

// P9.2: any bytes are no message, or one that is encoded to them.
func TestAnyBytes(t *testing.T) {
	for i, k := range makers()[:3] {
		for kind := 1; kind <= 6; kind++ {
			good := messageForm(k.message(kind))
			for at := range good {
				for _, c := range []byte{0, 1, 2, 5, 6, 8, 69, 128, 255} {
					b := bytes.Clone(good)
					b[at] = c
					m, err := codec.Decode(b)
					if err != nil {
						continue
					}
					if again, err := codec.Encode(m); err != nil || !bytes.Equal(again, b) {
						t.Fatalf("maker %d, kind %d, byte %d is %d: encoded to %x, %v", i, kind, at, c, again, err)
					}
				}
			}
		}
	}
}

// edges is a field's setter, and the width of its number.
type edge struct {
	name  string
	kind  int
	width int
	set   func(m *api.Message, n int)
}

func edges() []edge {
	return []edge{
		{"vote epoch", 1, 4, func(m *api.Message, n int) { m.Vote.Epoch = n }},
		{"vote round", 1, 6, func(m *api.Message, n int) { m.Vote.Round = n }},
		{"vote who", 1, 1, func(m *api.Message, n int) { m.Vote.From.Who = n }},
		{"vote leaf", 1, 1, func(m *api.Message, n int) { m.Vote.From.Sig.Leaf = n }},
		{"timeout epoch", 2, 4, func(m *api.Message, n int) { m.Timeout.Epoch = n }},
		{"timeout round", 2, 6, func(m *api.Message, n int) { m.Timeout.Round = n }},
		{"timeout high epoch", 2, 4, func(m *api.Message, n int) { m.Timeout.High.Epoch = n }},
		{"timeout high round", 2, 6, func(m *api.Message, n int) { m.Timeout.High.Round = n }},
		{"timeout high who", 2, 1, func(m *api.Message, n int) { m.Timeout.High.Votes[1].Who = n }},
		{"timeout last epoch", 2, 4, func(m *api.Message, n int) { m.Timeout.Last.Epoch = n }},
		{"timeout last round", 2, 6, func(m *api.Message, n int) { m.Timeout.Last.Round = n }},
		{"timeout late who", 2, 1, func(m *api.Message, n int) { m.Timeout.Last.Lates[1].Who = n }},
		{"timeout late high", 2, 6, func(m *api.Message, n int) { m.Timeout.Last.Lates[0].High = n }},
		{"timeout late leaf", 2, 1, func(m *api.Message, n int) { m.Timeout.Last.Lates[2].Sig.Leaf = n }},
		{"timeout who", 2, 1, func(m *api.Message, n int) { m.Timeout.From.Who = n }},
		{"proposal epoch", 3, 4, func(m *api.Message, n int) { m.Proposal.Block.Epoch = n }},
		{"proposal round", 3, 6, func(m *api.Message, n int) { m.Proposal.Block.Round = n }},
		{"proposal justify round", 3, 6, func(m *api.Message, n int) { m.Proposal.Block.Justify.Round = n }},
		{"proposal power", 3, 6, func(m *api.Message, n int) { m.Proposal.Block.Next[3].Power = n }},
		{"proposal last round", 3, 6, func(m *api.Message, n int) { m.Proposal.Last.Round = n }},
		{"proposal leaf", 3, 1, func(m *api.Message, n int) { m.Proposal.From.Sig.Leaf = n }},
		{"reply epoch", 5, 4, func(m *api.Message, n int) { m.Reply.Block.Epoch = n }},
		{"change block epoch", 6, 4, func(m *api.Message, n int) { m.Change.Blocks[2].Epoch = n }},
		{"change round", 6, 6, func(m *api.Message, n int) { m.Change.QC.Round = n }},
	}
}

// P9.1: numbers of all fields up to what their widths hold, and beyond.
func TestWidths(t *testing.T) {
	for _, e := range edges() {
		for _, n := range []int{0, 1, 255, 1<<(8*e.width) - 1, 1 << (8*e.width - 1)} {
			if n >= 1<<(8*e.width) {
				continue
			}
			m := makers()[2].message(e.kind)
			e.set(&m, n)
			b, err := codec.Encode(m)
			if err != nil || !bytes.Equal(b, messageForm(m)) {
				t.Errorf("%s of %d: Encode answers %x, %v", e.name, n, b, err)
			}
			if got, err := codec.Decode(b); err != nil || text(got) != text(m) {
				t.Errorf("%s of %d: Decode answers %v, %v", e.name, n, got, err)
			}
		}
		for _, n := range []int{-1, -1 << 63, 1 << (8 * e.width), 1<<63 - 1} {
			m := makers()[2].message(e.kind)
			e.set(&m, n)
			if b, err := codec.Encode(m); err != api.ErrRange || b != nil {
				t.Errorf("%s of %d: Encode answers %x, %v", e.name, n, b, err)
			}
		}
	}
}

// longs is messages with one list too long, and whether it is that one whose bytes are ahead of all else.
func longs() []api.Message {
	var list []api.Message
	add := func(kind int, change func(m *api.Message)) {
		m := makers()[2].message(kind)
		change(&m)
		list = append(list, m)
	}
	add(1, func(m *api.Message) { m.Vote.From.Sig.Chains = make([]api.Digest, 69) })
	add(1, func(m *api.Message) { m.Vote.From.Sig.Path = make([]api.Digest, 6) })
	add(2, func(m *api.Message) { m.Timeout.High.Votes = make([]api.Signed, 8) })
	add(2, func(m *api.Message) { m.Timeout.Last.Lates = make([]api.Late, 8) })
	add(3, func(m *api.Message) { m.Proposal.Block.Payload = make([][]byte, 5) })
	add(3, func(m *api.Message) { m.Proposal.Block.Payload = [][]byte{{1}, make([]byte, 17)} })
	add(3, func(m *api.Message) { m.Proposal.Block.Next = make([]api.Validator, 8) })
	add(5, func(m *api.Message) { m.Reply.Block.Justify.Votes = make([]api.Signed, 8) })
	add(6, func(m *api.Message) { m.Change.Blocks[1].Next = make([]api.Validator, 8) })
	add(6, func(m *api.Message) { m.Change.QC.Votes = make([]api.Signed, 8) })
	return list
}

// P9.1: lists that are too long are neither written nor read.
func TestLongLists(t *testing.T) {
	for i, m := range longs() {
		if b, err := codec.Encode(m); err != api.ErrRange || b != nil {
			t.Errorf("list %d: Encode answers %x, %v", i, b, err)
		}
		decodes(t, fmt.Sprint("list ", i), messageForm(m), api.ErrRange)
	}
	for _, n := range []int{256, 260, 1000} {
		m := makers()[2].message(1)
		m.Vote.From.Sig.Chains = make([]api.Digest, n)
		if b, err := codec.Encode(m); err != api.ErrRange || b != nil {
			t.Errorf("%d chains: Encode answers %x, %v", n, b, err)
		}
	}
}

// P9.1: Bytes, ID and Change have the writer's first error, and nothing beside it.
func TestWrongBlocks(t *testing.T) {
	for i, change := range []func(b *api.Block){
		func(b *api.Block) { b.Epoch = -1 },
		func(b *api.Block) { b.Epoch = 1 << 32 },
		func(b *api.Block) { b.Round = 1 << 48 },
		func(b *api.Block) { b.Payload = make([][]byte, 5) },
		func(b *api.Block) { b.Payload[0] = make([]byte, 17) },
		func(b *api.Block) { b.Next[0].Power = -1 },
		func(b *api.Block) { b.Justify.Votes[0].Sig.Path = make([]api.Digest, 6) },
	} {
		b := makers()[2].block()
		change(&b)
		if got, err := codec.Bytes(b); err != api.ErrRange || got != nil {
			t.Errorf("block %d: Bytes answers %x, %v", i, got, err)
		}
		if got, err := codec.ID(b); err != api.ErrRange || got != (api.Digest{}) {
			t.Errorf("block %d: ID answers %x, %v", i, got, err)
		}
		c := makers()[2].change()
		c.Blocks[i%3] = b
		if got, err := codec.Change(c); err != api.ErrRange || got != nil {
			t.Errorf("block %d: Change answers %x, %v", i, got, err)
		}
	}
}

// P9.1: reading has the first error in the order of the bytes.
func TestFirstError(t *testing.T) {
	m := makers()[2].message(1)
	m.Vote.From.Sig.Chains = make([]api.Digest, 69)
	b := messageForm(m)
	decodes(t, "too many chains, and bytes that end", b[:len(b)-5], api.ErrRange)
	decodes(t, "too many chains, and bytes more", append(b, 1, 2, 3), api.ErrRange)
	decodes(t, "bytes that end ahead of too many chains", b[:20], api.ErrShort)
	m = makers()[2].message(3)
	m.Proposal.Block.Payload = [][]byte{make([]byte, 17)}
	b = messageForm(m)
	decodes(t, "a long transaction, and bytes more", append(b, 0), api.ErrRange)
}

// P9.1: ids.
func TestID(t *testing.T) {
	seen := map[api.Digest]bool{}
	for i, k := range makers() {
		for range 3 {
			b := k.block()
			got, err := codec.ID(b)
			if err != nil || got != hash.Of(6, blockForm(b)) {
				t.Errorf("maker %d: ID answers %x, %v", i, got, err)
			}
			if seen[got] {
				t.Errorf("two blocks have the id %x", got)
			}
			seen[got] = true
		}
	}
	if got, err := codec.ID(api.Block{}); err != nil || got != hash.Of(6, blockForm(api.Block{})) {
		t.Errorf("ID of the zero block answers %x, %v", got, err)
	}
}

// P9.1: what is signed, of any numbers.
func TestWhatIsSigned(t *testing.T) {
	numbers := []int{0, 1, 2, 255, 256, 1 << 30, 1 << 40, 1<<63 - 1, -1, -2, -256, -1 << 63}
	for _, d := range []api.Digest{{}, {1, 2, 3, 15: 255}} {
		for _, e := range numbers {
			for _, r := range numbers {
				if got := codec.ForVote(e, r, d); got != hash.Of(7, num(e, 8), num(r, 8), d[:]) {
					t.Errorf("ForVote(%d, %d, %x) answers %x", e, r, d, got)
				}
				for _, h := range numbers {
					if got := codec.ForLate(e, r, h); got != hash.Of(8, num(e, 8), num(r, 8), num(h, 8)) {
						t.Errorf("ForLate(%d, %d, %d) answers %x", e, r, h, got)
					}
				}
			}
		}
		if got := codec.ForProposal(d); got != hash.Of(9, d[:]) {
			t.Errorf("ForProposal(%x) answers %x", d, got)
		}
	}
}

// P9.1 and the rules: what is handed in isn't changed, and what is answered is the caller's own.
func TestAnswersAreTheCallersOwn(t *testing.T) {
	m := makers()[2].message(3)
	before := text(m)
	b, err := codec.Encode(m)
	if err != nil || text(m) != before {
		t.Fatalf("Encode changes the message, or answers %v", err)
	}
	one, _ := codec.Decode(b)
	two, _ := codec.Decode(b)
	clear(one.Proposal.Block.Payload[0])
	clear(one.Proposal.Block.Payload)
	clear(one.Proposal.Block.Next)
	clear(one.Proposal.From.Sig.Chains)
	clear(one.Proposal.Block.Justify.Votes[0].Sig.Path)
	if text(two) != before {
		t.Error("two answers share something")
	}
	if again, err := codec.Encode(two); err != nil || !bytes.Equal(again, b) {
		t.Error("an answer's change shows in the bytes")
	}
}
