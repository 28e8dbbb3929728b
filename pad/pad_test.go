package pad_test

import (
	standard "crypto/aes"
	"encoding/binary"
	"encoding/hex"
	"math"
	"slices"
	"testing"

	"bastion/api"
	"bastion/pad"
)

// Numbers of all kinds: those that fit, the edges of 1, 2, 4 and 8 bytes, and those that don't fit.
var (
	numbers = []int{0, 1, 2, 255, 256, 258, 0x1234, 1<<16 - 1, 1 << 16, 0x12345678, 1<<31 - 1, 1 << 31, 1<<32 - 1, 1 << 32, 0x0123456789abcdef,
		math.MaxInt, -1, -2, -256, -1 << 16, -1 << 32, math.MinInt, math.MinInt + 1}
	majors = []uint64{0, 1, 255, 256, 0x12345678, 1<<32 - 1, 1 << 32, 0x0123456789abcdef, 1 << 63, math.MaxUint64}
)

// blockOf gives a seed's block by the words of the document.
func blockOf(s api.Seed) (b api.Block) {
	binary.LittleEndian.PutUint32(b[:], uint32(s.Line))
	binary.LittleEndian.PutUint64(b[4:], s.Major)
	binary.LittleEndian.PutUint16(b[12:], uint16(s.Minor))
	b[14] = byte(s.Block)
	return b
}

// padOf gives a seed's pad by the library's own cipher.
func padOf(t *testing.T, key api.Block, s api.Seed) (out api.Block) {
	t.Helper()
	c, err := standard.NewCipher(key[:])
	if err != nil {
		t.Fatal(err)
	}
	b := blockOf(s)
	c.Encrypt(out[:], b[:])
	return out
}

// pair gives the two seeds of a line.
func pair(line int, major uint64, minor int) []api.Seed {
	return []api.Seed{{Line: line, Major: major, Minor: minor}, {Line: line, Major: major, Minor: minor, Block: 1}}
}

// sealOf enciphers a line byte by byte.
func sealOf(t *testing.T, key api.Block, line int, major uint64, minor int, plain api.Line) (out api.Line) {
	t.Helper()
	for k, s := range pair(line, major, minor) {
		x := padOf(t, key, s)
		for i := range x {
			out[16*k+i] = plain[16*k+i] ^ x[i]
		}
	}
	return out
}

// mixed gives lines of no order, by a number.
func mixed(n int) (out api.Line) {
	at := uint32(n)*2654435761 + 1
	for i := range out {
		at = at*1664525 + 1013904223
		out[i] = byte(at >> 24)
	}
	return out
}

func keys() []api.Block {
	odd := mixed(77)
	return []api.Block{{}, {1, 2, 3}, {15: 1}, api.Block(odd[:16]), api.Block(odd[16:])}
}

// lines gives lines of noughts, of ones, and mixed ones.
func lines() []api.Line {
	out := []api.Line{{}, {0: 1}, {15: 128}, {16: 1}, {31: 128}, mixed(1), mixed(2)}
	var ones api.Line
	for i := range ones {
		ones[i] = 255
	}
	return append(out, ones)
}

// check holds what was used against what should have been, and asks twice, as looking changes nothing.
func check(t *testing.T, p *pad.Pads, want []api.Seed) {
	t.Helper()
	var again []api.Seed
	for i, s := range want {
		if slices.Contains(want[:i], s) {
			again = append(again, s)
		}
	}
	for range 2 {
		if got := p.Used(); !slices.Equal(got, want) {
			t.Fatalf("Used: %v, not %v", got, want)
		}
		if got := p.Twice(); !slices.Equal(got, again) {
			t.Fatalf("Twice: %v, not %v", got, again)
		}
	}
}

// P12.1: the document's order and widths, written out.
func TestBytesWrittenOut(t *testing.T) {
	for want, s := range map[string]api.Seed{
		"00000000000000000000000000000000": {},
		"02010000030000000000000004000100": {Line: 258, Major: 3, Minor: 4, Block: 1},
		"0403020111100f0e0d0c0b0a22212300": {Line: 0x01020304, Major: 0x0a0b0c0d0e0f1011, Minor: 0x2122, Block: 0x23},
		"ffffffffffffffffffffffffffffff00": {Line: -1, Major: math.MaxUint64, Minor: -1, Block: -1},
		"ffffffff0000000000000000ffffff00": {Line: 1<<32 - 1, Minor: 1<<16 - 1, Block: 255},
	} {
		if got := pad.Bytes(s); hex.EncodeToString(got[:]) != want {
			t.Errorf("%v: %x, not %s", s, got, want)
		}
	}
}

// P12.1: each bit of each number is at its place alone, and those that don't fit are at none.
func TestBytesBitByBit(t *testing.T) {
	for k := range 64 {
		for _, c := range []struct {
			seed      api.Seed
			at, width int
		}{
			{api.Seed{Line: 1 << k}, 0, 4},
			{api.Seed{Major: 1 << k}, 4, 8},
			{api.Seed{Minor: 1 << k}, 12, 2},
			{api.Seed{Block: 1 << k}, 14, 1},
		} {
			var want api.Block
			if k/8 < c.width {
				want[c.at+k/8] = 1 << (k % 8)
			}
			if got := pad.Bytes(c.seed); got != want {
				t.Errorf("%v: %x, not %x", c.seed, got, want)
			}
		}
	}
}

// P12.1: Bytes of numbers of all kinds together, and Pad of them by several keys; no seed is used by it.
func TestBytesAndPad(t *testing.T) {
	for _, key := range keys() {
		p := pad.New(key)
		for i, line := range numbers {
			for j, minor := range numbers {
				s := api.Seed{Line: line, Major: majors[(i+j)%len(majors)], Minor: minor, Block: numbers[(i+2*j)%len(numbers)]}
				if got, want := pad.Bytes(s), blockOf(s); got != want {
					t.Fatalf("Bytes of %v: %x, not %x", s, got, want)
				}
				if got, want := p.Pad(s), padOf(t, key, s); got != want {
					t.Fatalf("Pad of %v: %x, not %x", s, got, want)
				}
			}
		}
		check(t, p, nil)
	}
}

// P12.1: what FIPS-197's cipher makes of noughts by the key of noughts, written out.
func TestSealWrittenOut(t *testing.T) {
	p := pad.New(api.Block{})
	got := p.Seal(0, 0, 0, api.Line{})
	if hex.EncodeToString(got[:16]) != "66e94bd4ef8a2c3b884cfa59ca342b2e" {
		t.Errorf("%x", got)
	}
	if first := p.Pad(api.Seed{}); first != api.Block(got[:16]) {
		t.Errorf("%x", first)
	}
	if second := p.Pad(api.Seed{Block: 1}); second != api.Block(got[16:]) {
		t.Errorf("%x", second)
	}
}

// P12.1: Seal and Open, of numbers of all kinds, by several keys; the seeds are used by Seal, as they were told, and by it alone.
func TestSealAndOpen(t *testing.T) {
	all := lines()
	for _, key := range keys() {
		p := pad.New(key)
		var used []api.Seed
		for i, line := range numbers {
			for j, major := range majors {
				minor, plain := numbers[(i+3*j)%len(numbers)], all[(i+j)%len(all)]
				want := sealOf(t, key, line, major, minor, plain)
				if got := p.Open(line, major, minor, want); got != plain {
					t.Fatalf("Open of %d, %d, %d: %x, not %x", line, major, minor, got, plain)
				}
				if got := p.Seal(line, major, minor, plain); got != want {
					t.Fatalf("Seal of %d, %d, %d: %x, not %x", line, major, minor, got, want)
				}
				used = append(used, pair(line, major, minor)...)
			}
		}
		check(t, p, used)
	}
}

// P12.1: each bit of a line is turned in the answer at its own place, and nowhere else.
func TestEachBit(t *testing.T) {
	p := pad.New(keys()[3])
	sealed, opened := p.Seal(7, 8, 9, api.Line{}), p.Open(7, 8, 9, api.Line{})
	if sealed != opened {
		t.Error("Open of noughts is other than Seal of them")
	}
	for k := range 8 * api.LineBytes {
		var line api.Line
		line[k/8] = 1 << (k % 8)
		want := sealed
		want[k/8] ^= 1 << (k % 8)
		if got := p.Seal(7, 8, 9, line); got != want {
			t.Errorf("Seal, the bit %d: %x, not %x", k, got, want)
		}
		if got := p.Open(7, 8, 9, line); got != want {
			t.Errorf("Open, the bit %d: %x, not %x", k, got, want)
		}
	}
}

// P12.1: by another line, Major, Minor or key a line is opened as another one.
func TestOpenedByOther(t *testing.T) {
	p := pad.New(api.Block{})
	plain := mixed(3)
	sealed := p.Seal(1, 2, 3, plain)
	for _, other := range []api.Line{p.Open(0, 2, 3, sealed), p.Open(1, 3, 3, sealed), p.Open(1, 2, 2, sealed), pad.New(api.Block{1}).Open(1, 2, 3, sealed)} {
		if api.Block(other[:16]) == api.Block(plain[:16]) || api.Block(other[16:]) == api.Block(plain[16:]) {
			t.Errorf("%x", other)
		}
	}
	if sealed == p.Seal(1, 2, 4, plain) {
		t.Error("another Minor, and the same bytes")
	}
}

// P12.2: the document's example, and the seeds, in order, of what is sealed a third time.
func TestTwice(t *testing.T) {
	p := pad.New(api.Block{1})
	check(t, p, nil)
	p.Seal(4, 5, 6, api.Line{})
	check(t, p, pair(4, 5, 6))
	if len(p.Twice()) != 0 {
		t.Errorf("%v", p.Twice())
	}
	p.Seal(4, 5, 6, mixed(1))
	if got := p.Twice(); !slices.Equal(got, pair(4, 5, 6)) {
		t.Errorf("%v", got)
	}
	p.Seal(4, 5, 7, api.Line{})
	p.Seal(4, 5, 6, api.Line{})
	if got := p.Twice(); !slices.Equal(got, slices.Concat(pair(4, 5, 6), pair(4, 5, 6))) {
		t.Errorf("%v", got)
	}
}

// P12.2: seeds are others if one number is, be the blocks that they are the same: only the bits that fit are in these.
func TestUnlikeSeedsOfOneBlock(t *testing.T) {
	p := pad.New(api.Block{1})
	first := p.Seal(0, 0, 0, api.Line{})
	if p.Seal(1<<32, 0, 0, api.Line{}) != first || p.Seal(0, 0, 1<<16, api.Line{}) != first || p.Seal(math.MinInt, 0, -1<<16, api.Line{}) != first {
		t.Error("the bits that fit are the same, the pads aren't")
	}
	check(t, p, slices.Concat(pair(0, 0, 0), pair(1<<32, 0, 0), pair(0, 0, 1<<16), pair(math.MinInt, 0, -1<<16)))
	if len(p.Twice()) != 0 {
		t.Errorf("%v", p.Twice())
	}
	p.Seal(1<<32, 0, 0, api.Line{})
	if got := p.Twice(); !slices.Equal(got, pair(1<<32, 0, 0)) {
		t.Errorf("%v", got)
	}
}

// P12.2: every run of five calls: Seal of four kinds of numbers, each unlike the first in one of them, Open and Pad.
func TestEveryRun(t *testing.T) {
	for run := range 6 * 6 * 6 * 6 * 6 {
		p := pad.New(api.Block{2})
		var used []api.Seed
		for step, left := 0, run; step < 5; step, left = step+1, left/6 {
			switch kind := left % 6; kind {
			case 4:
				p.Open(1, 1, 1, api.Line{})
			case 5:
				p.Pad(api.Seed{Line: 1, Major: 1, Minor: 1})
			default:
				s := []api.Seed{{Line: 1, Major: 1, Minor: 1}, {Line: 2, Major: 1, Minor: 1}, {Line: 1, Major: 2, Minor: 1}, {Line: 1, Major: 1, Minor: 2}}[kind]
				p.Seal(s.Line, s.Major, s.Minor, api.Line{})
				used = append(used, pair(s.Line, s.Major, s.Minor)...)
			}
		}
		check(t, p, used)
	}
}

// P12.2, P12.1: a long jumble of seals and opens; what is sealed is opened as it was, whenever it is.
func TestJumble(t *testing.T) {
	p := pad.New(keys()[4])
	var used []api.Seed
	var sealed []api.Line
	at := uint32(1)
	for step := range 600 {
		at = at*1664525 + 1013904223
		line, major, minor := int(at>>8%9), uint64(at>>16%5), int(at>>24%7)
		sealed = append(sealed, p.Seal(line, major, minor, mixed(step)))
		used = append(used, pair(line, major, minor)...)
		then := int(at>>4) % len(sealed)
		s := used[2*then]
		if got := p.Open(s.Line, s.Major, s.Minor, sealed[then]); got != mixed(then) {
			t.Fatalf("the line of the step %d, opened in the step %d: %x, not %x", then, step, got, mixed(then))
		}
	}
	check(t, p, used)
}

// P12.3: what is done to an answer changes neither the pads nor another answer, and what is sealed later doesn't change an answer.
func TestNewMemory(t *testing.T) {
	p := pad.New(api.Block{3})
	var want []api.Seed
	for _, minor := range []int{1, 2, 1, 3, 2} {
		p.Seal(5, 6, minor, api.Line{})
		want = append(want, pair(5, 6, minor)...)
	}
	again := slices.Concat(pair(5, 6, 1), pair(5, 6, 2))
	used, alsoUsed, twice, alsoTwice := p.Used(), p.Used(), p.Twice(), p.Twice()
	clear(used[:3])
	clear(twice[1:])
	for _, room := range [][]api.Seed{used[:cap(used)], twice[:cap(twice)]} {
		for i := range room {
			room[i].Line += 9
		}
	}
	check(t, p, want)
	p.Seal(5, 6, 1, api.Line{})
	if !slices.Equal(alsoUsed, want) || !slices.Equal(alsoTwice, again) {
		t.Errorf("an answer has changed: %v, %v", alsoUsed, alsoTwice)
	}
	check(t, p, append(want, pair(5, 6, 1)...))
}

// P12.3: what was answered of one line isn't that of another call, nor is the line that was handed in changed.
func TestLinesApart(t *testing.T) {
	p := pad.New(api.Block{3})
	plain := mixed(5)
	one := p.Seal(1, 1, 1, plain)
	two := p.Seal(1, 1, 1, plain)
	one[0]++
	back := p.Open(1, 1, 1, two)
	two[0]++
	if plain != mixed(5) || back != plain || one != two {
		t.Errorf("%x, %x, %x", plain, back, one)
	}
}

// P2: pads know nothing of one another, and answer the same whatever is asked between.
func TestSameAnswers(t *testing.T) {
	quiet, asked, other := pad.New(api.Block{4}), pad.New(api.Block{4}), pad.New(api.Block{5})
	for i := range 40 {
		other.Seal(i, 9, 9, api.Line{})
		asked.Open(i, 3, 3, mixed(i))
		asked.Pad(api.Seed{Line: i})
		asked.Used()
		asked.Twice()
		line, minor := i%7, i%4
		one, two := quiet.Seal(line, 1, minor, mixed(i)), asked.Seal(line, 1, minor, mixed(i))
		if one != two || one == other.Open(line, 1, minor, mixed(i)) {
			t.Fatalf("the line %d: %x and %x", i, one, two)
		}
	}
	check(t, asked, quiet.Used())
	if len(asked.Used()) != 80 || len(other.Used()) != 80 || len(other.Twice()) != 0 {
		t.Errorf("%d and %d seeds are used", len(asked.Used()), len(other.Used()))
	}
}
