package bits_test

import (
	"bytes"
	"encoding/binary"
	"encoding/hex"
	"math"
	"strings"
	"testing"

	"bastion/api"
	"bastion/bits"
)

// counted gives n bytes, each one unlike its neighbours.
func counted(n int) []byte {
	out := make([]byte, n)
	for i := range out {
		out[i] = byte(i*37 + 1)
	}
	return out
}

// P1.1: the bytes of the least weight first, behind those that were there.
func TestNumberPutsBytesBehind(t *testing.T) {
	const v = 0x8877665544332211
	zeros := make([]byte, 56)
	eight := []byte{0x11, 0x22, 0x33, 0x44, 0x55, 0x66, 0x77, 0x88}
	for _, c := range []struct {
		n    int
		want []byte
	}{
		{math.MinInt, nil}, {-1, nil}, {0, nil},
		{1, eight[:1]}, {3, eight[:3]}, {7, eight[:7]}, {8, eight},
		{9, append(bytes.Clone(eight), 0)},
		{63, append(bytes.Clone(eight), zeros[:55]...)},
		{64, append(bytes.Clone(eight), zeros...)},
		{65, append(bytes.Clone(eight), zeros...)},
		{math.MaxInt, append(bytes.Clone(eight), zeros...)},
	} {
		for _, out := range [][]byte{nil, {}, {9}, counted(20)} {
			want := append(bytes.Clone(out), c.want...)
			if got := bits.Number(out, v, c.n); !bytes.Equal(got, want) {
				t.Errorf("Number(%v, v, %d): %v, want %v", out, c.n, got, want)
			}
		}
	}
	if got := bits.Number(nil, 258, 3); !bytes.Equal(got, []byte{2, 1, 0}) {
		t.Errorf("the document's example: %v", got)
	}
}

// P1.1: what Number answers is new memory, even where there is room behind what was handed in.
func TestNumberIsNewMemory(t *testing.T) {
	for _, n := range []int{-1, 0, 1, 8, 64} {
		all := counted(100)
		out := all[:4]
		got := bits.Number(out, math.MaxUint64, n)
		for i := range got {
			got[i] = ^got[i]
		}
		if !bytes.Equal(all, counted(100)) {
			t.Errorf("n %d: what was handed in is changed", n)
		}
		once, again := bits.Number(out, 1, n), bits.Number(out, 1, n)
		once[0]++
		if once[0] == again[0] {
			t.Errorf("n %d: two answers share memory", n)
		}
	}
}

// P1.1: the first 8 bytes are the number, those that there aren't count as 0.
func TestRead(t *testing.T) {
	all := []byte{0xf1, 0xe2, 0xd3, 0xc4, 0xb5, 0xa6, 0x97, 0x88, 0xff, 0xee}
	for n := range len(all) + 1 {
		var eight [8]byte
		copy(eight[:], all[:n])
		if got, want := bits.Read(all[:n]), binary.LittleEndian.Uint64(eight[:]); got != want {
			t.Errorf("Read of %d bytes: %x, want %x", n, got, want)
		}
	}
	if bits.Read(nil) != 0 || bits.Read([]byte{}) != 0 {
		t.Error("Read of nothing isn't 0")
	}
	for _, v := range []uint64{0, 1, 255, 256, math.MaxUint64, 1 << 63} {
		for n := 8; n < 12; n++ {
			if got := bits.Read(bits.Number(nil, v, n)); got != v {
				t.Errorf("Read of Number of %x: %x", v, got)
			}
		}
	}
}

// apart gives the bits of bytes one by one: the bit k is of the byte k / 8.
func apart(b []byte) []byte {
	var out []byte
	for _, x := range b {
		for weight := 1; weight < 256; weight *= 2 {
			out = append(out, byte(int(x)/weight%2))
		}
	}
	return out
}

// together gives the bytes whose bits these are.
func together(ones []byte) []byte {
	out := make([]byte, len(ones)/8)
	for k, one := range ones {
		out[k/8] += one << (k % 8)
	}
	return out
}

// wanted tells what the document asks of Put.
func wanted(b []byte, at, n int, v uint64) ([]byte, api.Errno) {
	if at < 0 || n < 0 || n > 64 || at > 8*len(b) || at+n > 8*len(b) {
		return bytes.Clone(b), api.ErrRange
	}
	if n < 64 && v >= 1<<uint(n) {
		return bytes.Clone(b), api.ErrArg
	}
	ones := apart(b)
	for i := range n {
		ones[at+i] = byte(v >> i & 1)
	}
	return together(ones), api.OK
}

// P1.2: at all places and of all lengths, with numbers that fit and numbers that don't.
func TestPutAndGet(t *testing.T) {
	for _, first := range [][]byte{nil, {0}, {255, 255, 255}, {0xa5, 0x3c, 0x7e}, counted(9), counted(11)} {
		for at := -2; at <= 8*len(first)+2; at++ {
			for n := -2; n <= 67; n++ {
				for _, v := range numbersFor(n) {
					checkPut(t, first, at, n, v)
				}
			}
		}
	}
}

// numbersFor gives numbers about the greatest one of n bits.
func numbersFor(n int) []uint64 {
	out := []uint64{0, 1, 0x5a5a5a5a5a5a5a5a, math.MaxUint64}
	if n >= 0 && n < 64 {
		most := uint64(1)<<uint(n) - 1
		out = append(out, most, most+1, most/3)
	}
	return out
}

func checkPut(t *testing.T, first []byte, at, n int, v uint64) {
	t.Helper()
	b := bytes.Clone(first)
	want, code := wanted(first, at, n, v)
	if got := bits.Put(b, at, n, v); got != code || !bytes.Equal(b, want) {
		t.Fatalf("Put(%v, %d, %d, %x): %v, %v; want %v, %v", first, at, n, v, got, b, code, want)
	}
	read, e := bits.Get(b, at, n)
	switch {
	case code == api.ErrRange && (read != 0 || e != api.ErrRange):
		t.Fatalf("Get(%v, %d, %d): %x, %v; want ErrRange", b, at, n, read, e)
	case code == api.OK && (read != v || e != api.OK):
		t.Fatalf("Get(%v, %d, %d): %x, %v; want %x", b, at, n, read, e, v)
	}
	if !bytes.Equal(b, want) {
		t.Fatalf("Get(%v, %d, %d) changed the bytes to %v", want, at, n, b)
	}
}

// P1.2: bits that Put never wrote are read, too.
func TestGetReadsBits(t *testing.T) {
	b := counted(12)
	ones := apart(b)
	for at := range 8*len(b) + 1 {
		for n := range min(64, 8*len(b)-at) + 1 {
			var want uint64
			for i := range n {
				want += uint64(ones[at+i]) << i
			}
			if got, e := bits.Get(b, at, n); got != want || e != api.OK {
				t.Fatalf("Get(b, %d, %d): %x, %v; want %x", at, n, got, e, want)
			}
		}
	}
}

// P1.2 and P1: the edges that the document names, and numbers whose sum would go round.
func TestPutAndGetEdges(t *testing.T) {
	two := []byte{0, 0}
	if e := bits.Put(two, 6, 3, 5); e != api.OK || !bytes.Equal(two, []byte{64, 1}) {
		t.Errorf("the document's example: %v, %v", two, e)
	}
	for _, c := range []struct {
		at, n int
		v     uint64
		want  api.Errno
	}{
		{24, 0, 0, api.OK}, {25, 0, 0, api.ErrRange}, {24, 0, 1, api.ErrArg}, {25, 0, 1, api.ErrRange},
		{23, 1, 1, api.OK}, {24, 1, 0, api.ErrRange}, {0, 24, 1 << 24, api.ErrArg}, {0, 25, 0, api.ErrRange},
		{-1, 1, 0, api.ErrRange}, {-1, 0, 0, api.ErrRange}, {-1, 1, 2, api.ErrRange}, {0, -1, 0, api.ErrRange}, {8, -1, 1, api.ErrRange},
		{0, 65, 0, api.ErrRange}, {math.MaxInt, 64, 0, api.ErrRange}, {math.MaxInt, 1, 0, api.ErrRange},
		{math.MaxInt, math.MaxInt, 0, api.ErrRange}, {0, math.MaxInt, 0, api.ErrRange}, {1, math.MaxInt, 9, api.ErrRange},
		{math.MinInt, 64, 0, api.ErrRange}, {0, math.MinInt, 0, api.ErrRange}, {math.MinInt, math.MinInt, 0, api.ErrRange},
		{math.MaxInt, math.MinInt, 0, api.ErrRange}, {math.MinInt, math.MaxInt, 0, api.ErrRange},
	} {
		b := []byte{0, 0, 0}
		if e := bits.Put(b, c.at, c.n, c.v); e != c.want {
			t.Errorf("Put(b, %d, %d, %d): %v, want %v", c.at, c.n, c.v, e, c.want)
		}
		code := c.want
		if code == api.ErrArg {
			code = api.OK
		}
		if _, e := bits.Get([]byte{0, 0, 0}, c.at, c.n); e != code {
			t.Errorf("Get(b, %d, %d): %v, want %v", c.at, c.n, e, code)
		}
	}
	if bits.Put(nil, 0, 0, 0) != api.OK || bits.Put(nil, 1, 0, 0) != api.ErrRange || bits.Put(nil, 0, 1, 0) != api.ErrRange {
		t.Error("Put into nothing")
	}
}

// P1.3: as many bytes as the shorter one has, in new memory.
func TestXor(t *testing.T) {
	for x := range 256 {
		for y := range 256 {
			want := byte(0)
			for weight := 1; weight < 256; weight *= 2 {
				if x/weight%2 != y/weight%2 {
					want += byte(weight)
				}
			}
			if got := bits.Xor([]byte{7, byte(x)}, []byte{7, byte(y), 1}); !bytes.Equal(got, []byte{0, want}) {
				t.Fatalf("Xor of %d and %d: %v", x, y, got)
			}
		}
	}
	for n := range 5 {
		a, b := counted(n), []byte{3, 3}
		got := bits.Xor(a, b)
		if len(got) != min(n, 2) || len(bits.Xor(b, a)) != len(got) {
			t.Errorf("Xor of %d and 2 bytes has %d", n, len(got))
		}
		for i := range got {
			got[i]++
		}
		if !bytes.Equal(a, counted(n)) || !bytes.Equal(b, []byte{3, 3}) {
			t.Error("Xor changed, or shares, what was handed in")
		}
	}
	if len(bits.Xor(nil, nil)) != 0 || len(bits.Xor(nil, []byte{1})) != 0 {
		t.Error("Xor of nothing")
	}
}

// P1.3: two digits of each byte, that of the greater weight first.
func TestHex(t *testing.T) {
	var all []byte
	for x := range 256 {
		all = append(all, byte(x))
	}
	for _, b := range [][]byte{nil, {}, {0}, {255}, {0x1f, 0xf1}, all} {
		s := bits.Hex(b)
		if s != hex.EncodeToString(b) {
			t.Errorf("Hex(%v): %q", b, s)
		}
		back, e := bits.Unhex(s)
		if e != api.OK || !bytes.Equal(back, b) {
			t.Errorf("Unhex(%q): %v, %v", s, back, e)
		}
	}
}

// P1.3: what Hex doesn't give is ErrForm, and nothing beside it.
func TestUnhex(t *testing.T) {
	const digits = "0123456789abcdef"
	for x := range 256 {
		for y := range 256 {
			s := string([]byte{byte(x), byte(y)})
			high, low := strings.IndexByte(digits, s[0]), strings.IndexByte(digits, s[1])
			got, e := bits.Unhex("5e" + s)
			if high >= 0 && low >= 0 {
				if e != api.OK || !bytes.Equal(got, []byte{0x5e, byte(16*high + low)}) {
					t.Fatalf("Unhex of 5e%q: %v, %v", s, got, e)
				}
			} else if e != api.ErrForm || len(got) != 0 {
				t.Fatalf("Unhex of 5e%q: %v, %v", s, got, e)
			}
		}
	}
	for _, s := range []string{"0", "000", "abc", "AB", "aB", "0x00", " 00", "00 ", "00\n", "é", "éé", "\x00\x00", "00zz", "zz00", "--", "+1"} {
		if got, e := bits.Unhex(s); e != api.ErrForm || len(got) != 0 {
			t.Errorf("Unhex(%q): %v, %v", s, got, e)
		}
	}
	if got, e := bits.Unhex(""); e != api.OK || len(got) != 0 {
		t.Errorf("Unhex of nothing: %v, %v", got, e)
	}
}

// P2: the same calls give the same answers, whatever was called between.
func TestSameAnswers(t *testing.T) {
	type answers struct {
		number, xor, unhex string
		read, get          uint64
		put, getCode, code api.Errno
		hex                string
		put8               [3]byte
	}
	ask := func() answers {
		b := [3]byte{1, 2, 3}
		put := bits.Put(b[:], 3, 9, 300)
		get, getCode := bits.Get(b[:], 2, 11)
		un, code := bits.Unhex("00ff10")
		return answers{string(bits.Number([]byte{4}, 77777, 5)), string(bits.Xor(b[:], un)), string(un), bits.Read(b[:]), get, put, getCode, code, bits.Hex(b[:]), b}
	}
	first := ask()
	bits.Put(make([]byte, 9), 70, 64, 0)
	bits.Unhex("q")
	if again := ask(); again != first {
		t.Errorf("%v, and then %v", first, again)
	}
}
