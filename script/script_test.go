package script_test

import (
	"fmt"
	"strings"
	"testing"

	"quorate/api"
	"quorate/craft"
	"quorate/script"
	"quorate/world"
)

// text is ops' fields as text; nil and empty lists are the same in it.
func text(x any) string { return fmt.Sprint(x) }

// pair is an op and its line.
type pair struct {
	line string
	op   world.Op
}

// pairs is ops of all kinds, at their edges, with no fields but those that belong to them.
func pairs() []pair {
	long := make([]bool, 64)
	for i := range long {
		long[i] = i%3 == 0
	}
	return []pair{
		{"deliver 0", world.Op{Kind: 1}}, {"deliver 999999", world.Op{Kind: 1, N: 999999}}, {"drop 7", world.Op{Kind: 2, N: 7}},
		{"copy 10", world.Op{Kind: 3, N: 10}}, {"tick 0", world.Op{Kind: 4}}, {"tick 12", world.Op{Kind: 4, Node: 12}}, {"tick 999999", world.Op{Kind: 4, Node: 999999}},
		{"submit 1 -", world.Op{Kind: 5, Node: 1}}, {"submit 0 00ff1a", world.Op{Kind: 5, Data: []byte{0, 255, 0x1a}}},
		{"submit 2 0123456789abcdef", world.Op{Kind: 5, Node: 2, Data: []byte{0x01, 0x23, 0x45, 0x67, 0x89, 0xab, 0xcd, 0xef}}},
		{"reconf 3 -", world.Op{Kind: 6, Node: 3}}, {"reconf 0 0", world.Op{Kind: 6, Set: []int{0}}}, {"reconf 1 1,0,999999", world.Op{Kind: 6, Node: 1, Set: []int{1, 0, 999999}}},
		{"reconf 0 1,2,3,4,5,6,7", world.Op{Kind: 6, Set: []int{1, 2, 3, 4, 5, 6, 7}}},
		{"arm 4 0", world.Op{Kind: 7, Node: 4}}, {"arm 0 123456", world.Op{Kind: 7, N: 123456}},
		{"crash 5 -", world.Op{Kind: 8, Node: 5}}, {"crash 0 0", world.Op{Kind: 8, Keep: []bool{false}}}, {"crash 0 101", world.Op{Kind: 8, Keep: []bool{true, false, true}}},
		{"crash 1 " + strings.Repeat("100", 21) + "1", world.Op{Kind: 8, Node: 1, Keep: long}},
		{"raw 6 -", world.Op{Kind: 9, Node: 6}}, {"raw 0 04", world.Op{Kind: 9, Data: []byte{4}}},
		{"forge 0 0 -", world.Op{Kind: 10}}, {"forge 1 31 c0de", world.Op{Kind: 10, Node: 1, N: 31, Data: []byte{0xc0, 0xde}}},
	}
}

// P23.1: each line is its op, and each op has its line.
func TestLines(t *testing.T) {
	for _, p := range pairs() {
		if got, err := script.Parse(p.line + "\n"); err != nil || text(got) != text([]world.Op{p.op}) {
			t.Errorf("Parse of %q answers %v, %v", p.line, got, err)
		}
		if got, err := script.Line(p.op); err != nil || got != p.line {
			t.Errorf("Line of %v answers %q, %v", p.op, got, err)
		}
	}
}

// P23.1 and P23.2: fields that don't belong to an op's kind don't matter, and aren't read.
func TestOtherFields(t *testing.T) {
	for _, p := range pairs() {
		o := p.op
		word, _, _ := strings.Cut(p.line, " ")
		uses := map[string]string{"deliver": "n", "drop": "n", "copy": "n", "tick": "i", "submit": "ix", "reconf": "is", "arm": "in", "crash": "ik", "raw": "ix", "forge": "inx"}[word]
		if !strings.Contains(uses, "n") {
			o.N = -5
		}
		if !strings.Contains(uses, "i") {
			o.Node = 1 << 40
		}
		if !strings.Contains(uses, "x") {
			o.Data = []byte{1}
		}
		if !strings.Contains(uses, "s") {
			o.Set = make([]int, 99)
		}
		if !strings.Contains(uses, "k") {
			o.Keep = make([]bool, 99)
		}
		if got, err := script.Line(o); err != nil || got != p.line {
			t.Errorf("Line of %v answers %q, %v", o, got, err)
		}
		all, err := script.Text([]world.Op{o})
		if err != nil {
			t.Fatal(err)
		}
		if got, err := script.Parse(all); err != nil || text(got) != text([]world.Op{p.op}) {
			t.Errorf("Parse of Text answers %v, %v, want %v", got, err, p.op)
		}
	}
}

// P23.1: ops that no line is.
func TestNoLine(t *testing.T) {
	for _, o := range []world.Op{
		{}, {Kind: -1}, {Kind: 11}, {Kind: 1 << 40}, {Kind: -1 << 63}, {Kind: 1<<63 - 1},
		{Kind: 1, N: -1}, {Kind: 1, N: 1000000}, {Kind: 2, N: -1 << 63}, {Kind: 3, N: 1<<63 - 1}, {Kind: 4, Node: -1}, {Kind: 4, Node: 1000000},
		{Kind: 5, Node: -1}, {Kind: 6, Node: -1}, {Kind: 6, Set: []int{-1}}, {Kind: 6, Set: []int{1, 1000000}}, {Kind: 6, Set: make([]int, 8)},
		{Kind: 7, Node: -1}, {Kind: 7, N: -1}, {Kind: 7, N: 1000000}, {Kind: 8, Node: 1 << 30}, {Kind: 8, Keep: make([]bool, 65)},
		{Kind: 9, Node: -2}, {Kind: 10, Node: -1}, {Kind: 10, N: -1}, {Kind: 10, N: 1000000},
	} {
		if got, err := script.Line(o); err != api.ErrForm || got != "" {
			t.Errorf("Line of %v answers %q, %v", o, got, err)
		}
		if got, err := script.Text([]world.Op{{Kind: 1}, o, {Kind: 2}}); err != api.ErrForm || got != "" {
			t.Errorf("Text with %v answers %q, %v", o, got, err)
		}
	}
}

// P23.1: texts that aren't a script's.
func TestNoScript(t *testing.T) {
	for _, s := range []string{
		"\n", " \n", "tick 0", "tick 0\ntick 1", "tick 0\n\n", "\ntick 0\n", "tick 0\r\n", "tick  0\n", " tick 0\n", "tick 0 \n", "tick\n", "tick \n", "tick 0 0\n",
		"tick\t0\n", "Tick 0\n", "TICK 0\n", "tic 0\n", "ticks 0\n", "0\n", "- 0\n", "tick 00\n", "tick 01\n", "tick -0\n", "tick +1\n", "tick -1\n", "tick 1000000\n",
		"tick 0999999\n", "tick 99999999999999999999\n", "tick 1.0\n", "tick 1_0\n", "tick 0x1\n", "tick a\n", "tick -\n", "tick \xff\n", "tick ٣\n",
		"deliver\n", "deliver 1 2\n", "deliver -\n", "drop x\n", "copy\n", "copy 1000000\n", "copy 0 0\n",
		"submit 0\n", "submit -\n", "submit 0 \n", "submit 0 0\n", "submit 0 000\n", "submit 0 AA\n", "submit 0 0G\n", "submit 0 g0\n", "submit 0 --\n", "submit 0 a-\n", "submit 0 -a\n", "submit 0 00 00\n", "submit 0 -00\n",
		"reconf 0\n", "reconf 0 \n", "reconf 0 ,\n", "reconf 0 1,\n", "reconf 0 ,1\n", "reconf 0 1,,2\n", "reconf 0 1, 2\n", "reconf 0 01\n", "reconf 0 1,-\n", "reconf 0 -,1\n", "reconf 0 -1\n",
		"reconf 0 1000000\n", "reconf 0 1,2,3,4,5,6,7,8\n", "reconf x 1\n", "reconf 0 1;2\n",
		"arm 0\n", "arm 0 -\n", "arm - 0\n", "arm 0 1 2\n", "arm 0 1000000\n",
		"crash 0\n", "crash 0 \n", "crash 0 2\n", "crash 0 01a\n", "crash 0 --\n", "crash 0 0 1\n", "crash 0 " + strings.Repeat("0", 65) + "\n",
		"raw 0\n", "raw 0 0\n", "raw 0x0 00\n", "forge 0 0\n", "forge 0 -\n", "forge 0 00 00\n", "forge 0 0 0\n", "forge - 0 -\n", "forge 0 - -\n", "forge 0 0 - -\n",
		"tick 0\nnonsense\ntick 1\n", "tick 0\x00\n", "tick 0\n ", "tick 0\n\x00", strings.Repeat("tick 0\n", 9000) + "x",
	} {
		if got, err := script.Parse(s); err != api.ErrForm || got != nil {
			t.Errorf("Parse of %.40q answers %v, %v", s, got, err)
		}
	}
	if got, err := script.Parse(""); err != nil || len(got) != 0 {
		t.Errorf("Parse of no text answers %v, %v", got, err)
	}
	if got, err := script.Text(nil); err != nil || got != "" {
		t.Errorf("Text of no ops answers %q, %v", got, err)
	}
	if got, err := script.Parse("tick 0\ndeliver 0\n"); err != nil || text(got) != text([]world.Op{{Kind: 4}, {Kind: 1}}) {
		t.Errorf("Parse of two lines answers %v, %v", got, err)
	}
}

// P23.1: texts of MaxBytes, and one more.
func TestLong(t *testing.T) {
	data := make([]byte, 30000)
	head := "submit 0 " + strings.Repeat("00", 30000) + "\n"
	ops := []world.Op{{Kind: 5, Data: data}}
	for len(head)+len("tick 0\n") <= api.MaxBytes-16 {
		head += "tick 0\n"
		ops = append(ops, world.Op{Kind: 4})
	}
	for more := range 16 {
		n := "1" + strings.Repeat("0", more%6)
		full, list := head, append([]world.Op{}, ops...)
		var value int
		fmt.Sscan(n, &value)
		for range 1 + more/6 {
			full += "tick " + n + "\n"
			list = append(list, world.Op{Kind: 4, Node: value})
		}
		var want error
		if len(full) > api.MaxBytes {
			want = api.ErrLong
		}
		got, err := script.Parse(full)
		if err != want || want == nil && text(got) != text(list) || want != nil && got != nil {
			t.Errorf("Parse of %d bytes answers %d ops, %v", len(full), len(got), err)
		}
		back, err := script.Text(list)
		if err != want || want == nil && back != full || want != nil && back != "" {
			t.Errorf("Text of %d bytes answers %d bytes, %v", len(full), len(back), err)
		}
	}
	for n, want := range map[int]error{api.MaxBytes: api.ErrForm, api.MaxBytes + 1: api.ErrLong, 1 << 20: api.ErrLong} {
		if got, err := script.Parse(strings.Repeat("x", n)); err != want || got != nil {
			t.Errorf("Parse of %d bytes answers %v, %v", n, got, err)
		}
	}
	for extra := range 3 { // "raw 10 " and the end are 8 bytes, so that the text's lengths are 65534, 65536, 65538; with one byte fewer, 65533 ..
		for _, node := range []int{1, 10} {
			o := world.Op{Kind: 9, Node: node, Data: make([]byte, 32763+extra)}
			line, err := script.Line(o)
			if err != nil {
				t.Fatal(err)
			}
			got, err := script.Text([]world.Op{o})
			if fits := len(line)+1 <= api.MaxBytes; fits && (err != nil || got != line+"\n") || !fits && (err != api.ErrLong || got != "") {
				t.Errorf("Text of a line of %d bytes answers %d bytes, %v", len(line), len(got), err)
			}
			if _, err := script.Text([]world.Op{o, {Kind: 4}, {}}); err != api.ErrForm {
				t.Errorf("Text of a long line and no op answers %v", err)
			}
		}
	}
}

// P23.2: Parse of Text is the ops, of any ops.
func TestThereAndBack(t *testing.T) {
	var all []world.Op
	lines := ""
	for _, p := range pairs() {
		all = append(all, p.op)
		lines += p.line + "\n"
	}
	before := text(all)
	got, err := script.Text(all)
	if err != nil || got != lines {
		t.Errorf("Text answers %q, %v", got, err)
	}
	ops, err := script.Parse(got)
	if err != nil || text(ops) != before {
		t.Errorf("Parse of Text answers %v, %v", ops, err)
	}
	if text(all) != before {
		t.Error("Text changes the ops")
	}
	ops[8].Data[0] = 77
	again, err := script.Parse(got)
	if err != nil || text(again) != before {
		t.Error("a change of an answer shows in the next one")
	}
}

// fresh is a world of four nodes.
func fresh(t *testing.T) *world.World {
	t.Helper()
	var seeds []api.Digest
	for i := range 4 {
		seeds = append(seeds, craft.Seed(i))
	}
	w, err := world.New(seeds, []int{1, 1, 1, 1}, make([]bool, 4), 100)
	if err != nil {
		t.Fatal(err)
	}
	return w
}

// P23.1: Run does ops up to the first one that answers an error.
func TestRun(t *testing.T) {
	for i, c := range []struct {
		text    string
		n       int
		want    error
		pending int
	}{
		{"", 0, nil, 0}, {"tick 1\n", 1, nil, 4}, {"tick 1\ndeliver 0\ndrop 0\n", 3, nil, 3}, {"submit 0 -\ntick 1\n", 0, api.ErrForm, 0},
		{"submit 0 61\nsubmit 0 61\ntick 1\n", 1, api.ErrTwice, 0}, {"tick 1\ncopy 0\nraw 0 07\ntick 0\n", 2, api.ErrForm, 5},
		{"arm 1 0\ntick 1\ntick 1\n", 1, api.ErrPower, 0}, {"arm 1 0\ncrash 1 -\ntick 1\n", 3, nil, 4}, {"tick 9\ndeliver 9\ntick 1\nreconf 1 0,0\n", 3, api.ErrSet, 4},
	} {
		ops, err := script.Parse(c.text)
		if err != nil {
			t.Fatal(err)
		}
		w := fresh(t)
		if n, err := script.Run(w, ops); n != c.n || err != c.want || w.Pending() != c.pending {
			t.Errorf("script %d: Run answers %d, %v, and there are %d messages", i, n, err, w.Pending())
		}
	}
	w := fresh(t)
	if n, err := script.Run(w, []world.Op{{}, {Kind: 99}, {Kind: -1}}); n != 3 || err != nil {
		t.Errorf("Run of ops that do nothing answers %d, %v", n, err)
	}
}
