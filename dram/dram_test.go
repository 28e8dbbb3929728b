package dram_test

import (
	"bytes"
	"math"
	"testing"

	"bastion/api"
	"bastion/dram"
)

const most = 1 << 20 // bytes of memory

// edges are numbers at which sums would go round, or nothing stands.
var edges = []int{math.MinInt, math.MinInt + 1, math.MinInt + 64, -most, -65, -2, -1, most + 1, math.MaxInt/8 + 1, math.MaxInt - 64, math.MaxInt - 1, math.MaxInt}

// ramp gives n bytes that aren't 0, of which neighbours, and those of neighbouring rows, are unlike.
func ramp(n int) []byte {
	out := make([]byte, n)
	for i := range out {
		out[i] = byte(1 + (i*7+i/64)%251)
	}
	return out
}

// model is memory by the words of the document, byte by byte.
type model struct {
	bytes []byte
	kept  [][]byte
	drops int
	use   api.Use
	rows  map[int]int // by bank
}

func modelOf(size int, first []byte) *model {
	m := &model{rows: map[int]int{}}
	for i := range size {
		if i < len(first) {
			m.bytes = append(m.bytes, first[i])
		} else {
			m.bytes = append(m.bytes, 0)
		}
	}
	return m
}

func (m *model) there(at, n int) bool {
	return n >= 0 && n <= len(m.bytes) && at >= 0 && at <= len(m.bytes) && at+n <= len(m.bytes)
}

func (m *model) touch(at, n int) {
	for i := at; i < at+n; i++ {
		row := i / 64
		if open, ok := m.rows[row%4]; !ok || open != row {
			m.rows[row%4] = row
			m.use.Opens++
		}
	}
}

func (m *model) read(at, n int) ([]byte, api.Errno) {
	if !m.there(at, n) {
		return nil, api.ErrRange
	}
	m.use.Reads++
	m.touch(at, n)
	return bytes.Clone(m.bytes[at : at+n]), api.OK
}

func (m *model) write(at int, b []byte) api.Errno {
	if !m.there(at, len(b)) {
		return api.ErrRange
	}
	m.use.Writes++
	m.touch(at, len(b))
	if m.drops > 0 {
		m.drops--
		return api.OK
	}
	m.lay(at, b)
	return api.OK
}

func (m *model) lay(at int, b []byte) {
	for i, v := range b {
		m.bytes[at+i] = v
	}
}

func (m *model) tamper(t api.Tamper) api.Errno {
	switch t.Kind {
	case api.TamperSet:
		if !m.there(t.At, len(t.Bytes)) {
			return api.ErrRange
		}
		m.lay(t.At, t.Bytes)
	case api.TamperFlip:
		if t.At < 0 || t.At/8 >= len(m.bytes) {
			return api.ErrRange
		}
		m.bytes[t.At/8] ^= []byte{1, 2, 4, 8, 16, 32, 64, 128}[t.At%8]
	case api.TamperMove:
		if !m.there(t.At, t.N) || !m.there(t.To, t.N) {
			return api.ErrRange
		}
		m.lay(t.To, bytes.Clone(m.bytes[t.At:t.At+t.N]))
	case api.TamperSnap:
		if len(m.kept) >= 64 {
			return api.ErrFull
		}
		m.kept = append(m.kept, bytes.Clone(m.bytes))
	case api.TamperReplay:
		if !m.there(t.At, t.N) {
			return api.ErrRange
		}
		if t.To < 0 || t.To >= len(m.kept) {
			return api.ErrNone
		}
		m.lay(t.At, m.kept[t.To][t.At:t.At+t.N])
	case api.TamperDrop:
		if t.N < 0 {
			return api.ErrArg
		}
		m.drops = t.N
	default:
		return api.ErrArg
	}
	return api.OK
}

// agree holds all that is seen of memory against a model's.
func agree(t *testing.T, m *dram.Memory, w *model, where ...any) {
	t.Helper()
	if m.Size() != len(w.bytes) || !bytes.Equal(m.Bytes(), w.bytes) || m.Use() != w.use || m.Drops() != w.drops {
		t.Fatalf("%v: size %d, use %v, drops %d; want %d, %v, %d", where, m.Size(), m.Use(), m.Drops(), len(w.bytes), w.use, w.drops)
	}
}

// P8.1: of New, what there is of first comes first, all else is 0; no more bytes than asked for, nor than 2^20.
func TestNew(t *testing.T) {
	for _, size := range []int{0, 1, 2, 5, 63, 64, 65, 300} {
		for _, n := range []int{0, 1, 4, 5, 6, 64, 299, 300, 301, 400} {
			m := dram.New(size, ramp(n))
			agree(t, m, modelOf(size, ramp(n)), size, n)
		}
	}
	for _, x := range []struct{ size, want int }{
		{-1, 0}, {-5, 0}, {math.MinInt, 0}, {most - 1, most - 1}, {most, most}, {most + 1, most}, {2 * most, most}, {math.MaxInt, most},
	} {
		m := dram.New(x.size, []byte{7})
		if m.Size() != x.want || len(m.Bytes()) != x.want || m.Use() != (api.Use{}) || m.Drops() != 0 {
			t.Errorf("%d: %d, %v, %d", x.size, m.Size(), m.Use(), m.Drops())
		}
		if x.want > 0 && (m.Bytes()[0] != 7 || m.Bytes()[x.want-1] != 0) {
			t.Errorf("%d: wrong bytes", x.size)
		}
	}
	whole := ramp(most + 1)
	if m := dram.New(math.MaxInt, whole); !bytes.Equal(m.Bytes(), whole[:most]) {
		t.Error("first is cut at 2^20")
	}
}

// P8.1: every read of small memory; of those that aren't all there none counts.
func TestReadAll(t *testing.T) {
	for _, size := range []int{0, 1, 64, 70} {
		m, w := dram.New(size, ramp(size)), modelOf(size, ramp(size))
		for at := -2; at <= size+2; at++ {
			for n := -2; n <= size+2; n++ {
				b, e := m.Read(at, n)
				want, code := w.read(at, n)
				if !bytes.Equal(b, want) || e != code {
					t.Fatalf("%d: Read(%d, %d): %v, %v", size, at, n, b, e)
				}
			}
		}
		agree(t, m, w, size)
	}
}

// P8.1: every write of small memory; of those that aren't all there nothing is done.
func TestWriteAll(t *testing.T) {
	for _, size := range []int{0, 1, 9} {
		for at := -2; at <= size+2; at++ {
			for n := 0; n <= size+2; n++ {
				m, w := dram.New(size, ramp(size)), modelOf(size, ramp(size))
				b := bytes.Repeat([]byte{200}, n)
				if e, want := m.Write(at, b), w.write(at, b); e != want {
					t.Fatalf("%d: Write(%d, %d): %v", size, at, n, e)
				}
				agree(t, m, w, size, at, n)
			}
		}
	}
}

// P1, P8.1: places and counts of any size are answered by ErrRange, and change nothing.
func TestRangeEdges(t *testing.T) {
	m, w := dram.New(300, ramp(300)), modelOf(300, ramp(300))
	m.Tamper(api.Tamper{Kind: api.TamperDrop, N: 3})
	w.drops = 3
	for _, v := range edges {
		for _, x := range []struct{ at, n int }{{v, 0}, {v, 1}, {v, 64}, {0, v}, {1, v}, {299, v}, {300, v}, {v, v}, {v, -v}, {math.MaxInt, v}, {v, math.MaxInt}} {
			if b, e := m.Read(x.at, x.n); e != api.ErrRange || len(b) != 0 {
				t.Errorf("Read(%d, %d): %v, %v", x.at, x.n, b, e)
			}
		}
		for _, n := range []int{0, 1, 300} {
			if e := m.Write(v, make([]byte, n)); e != api.ErrRange {
				t.Errorf("Write(%d, %d bytes): %v", v, n, e)
			}
		}
	}
	if e := m.Write(0, make([]byte, 301)); e != api.ErrRange {
		t.Error(e)
	}
	agree(t, m, w)
}

// P8.1: of no bytes a place may be any up to the end; it counts, and opens no row.
func TestNoBytes(t *testing.T) {
	for _, size := range []int{0, 128} {
		for at := 0; at <= size; at += 64 {
			m := dram.New(size, nil)
			if b, e := m.Read(at, 0); e != api.OK || len(b) != 0 {
				t.Error(b, e)
			}
			if e := m.Write(at, nil); e != api.OK {
				t.Error(e)
			}
			if e := m.Write(at, []byte{}); e != api.OK {
				t.Error(e)
			}
			if m.Use() != (api.Use{Reads: 1, Writes: 2}) {
				t.Errorf("%d, %d: %v", size, at, m.Use())
			}
		}
	}
}

// P8.1: the rows of which bytes a read and a write open; the first example.
func TestRows(t *testing.T) {
	type call struct{ at, n, opens int } // opens: what this one adds
	for i, calls := range [][]call{
		{{60, 8, 2}},
		{{0, 1, 1}, {0, 64, 0}, {63, 1, 0}, {64, 1, 1}, {63, 2, 0}, {128, 64, 1}, {192, 64, 1}, {0, 256, 0}, {256, 1, 1}, {0, 1, 1}, {256, 1, 1}},
		{{0, 256, 4}, {256, 256, 4}, {256, 256, 0}, {0, 512, 8}},
		{{0, 257, 5}, {0, 1, 1}, {0, 257, 1}}, // row 0 is open, and row 4 takes its place
		{{0, 320, 5}, {0, 320, 2}, {64, 192, 0}},
		{{512, 1, 1}, {0, 1, 1}, {512, 1, 1}, {256, 1, 1}}, // three rows of the bank 0
		{{512, 0, 0}, {64, 0, 0}, {511, 1, 1}, {511, 2, 1}},
		{{1000, 1, 1}, {960, 64, 0}, {959, 1, 1}, {704, 64, 1}, {1023, 1, 1}},
	} {
		for _, write := range []bool{false, true} {
			m, opens := dram.New(1024, nil), 0
			for _, c := range calls {
				if write {
					m.Write(c.at, make([]byte, c.n))
				} else {
					m.Read(c.at, c.n)
				}
				opens += c.opens
				if m.Use().Opens != opens {
					t.Errorf("%d, %v, at %v: %v, want %d", i, write, c, m.Use(), opens)
				}
			}
		}
	}
	m := dram.New(1024, nil) // reads and writes share the open rows
	m.Read(0, 1)
	m.Write(1, []byte{1})
	m.Read(256, 1)
	m.Write(1, []byte{1})
	if m.Use() != (api.Use{Reads: 2, Writes: 2, Opens: 3}) {
		t.Error(m.Use())
	}
}

// P8.1: a write that is dropped changes no byte, counts, opens its rows, and one fewer is to be dropped.
func TestDropped(t *testing.T) {
	m := dram.New(300, ramp(300))
	m.Tamper(api.Tamper{Kind: api.TamperDrop, N: 3})
	was := m.Bytes()
	if e := m.Write(60, make([]byte, 8)); e != api.OK || m.Drops() != 2 || m.Use() != (api.Use{Writes: 1, Opens: 2}) {
		t.Errorf("%v, %d, %v", e, m.Drops(), m.Use())
	}
	if e := m.Write(299, make([]byte, 2)); e != api.ErrRange || m.Drops() != 2 || m.Use().Writes != 1 {
		t.Errorf("a write that isn't all there isn't one: %v, %d", e, m.Drops())
	}
	if b, e := m.Read(60, 8); e != api.OK || m.Drops() != 2 || !bytes.Equal(b, was[60:68]) {
		t.Errorf("%v, %v, %d", b, e, m.Drops())
	}
	if e := m.Write(0, nil); e != api.OK || m.Drops() != 1 {
		t.Errorf("a write of no bytes is one: %v, %d", e, m.Drops())
	}
	if e := m.Tamper(api.Tamper{Kind: api.TamperSet, At: 5, Bytes: []byte{0}}); e != api.OK || m.Drops() != 1 || m.Bytes()[5] != 0 {
		t.Errorf("tampering isn't dropped: %v, %d", e, m.Drops())
	}
	m.Write(6, []byte{0})
	if m.Drops() != 0 || m.Bytes()[6] != was[6] {
		t.Error("the last one is dropped")
	}
	m.Write(6, []byte{0})
	if m.Drops() != 0 || m.Bytes()[6] != 0 {
		t.Error("the next one isn't")
	}
}

// P8.2: TamperSet lays Bytes, whatever N and To are.
func TestSet(t *testing.T) {
	for at := -2; at <= 12; at++ {
		for n := range 13 {
			for _, rest := range []int{0, 3, -1, math.MaxInt, math.MinInt} {
				m, w := dram.New(10, ramp(10)), modelOf(10, ramp(10))
				x := api.Tamper{Kind: api.TamperSet, At: at, To: rest, N: rest, Bytes: bytes.Repeat([]byte{255}, n)}
				if e, want := m.Tamper(x), w.tamper(x); e != want {
					t.Fatalf("%v: %v", x, e)
				}
				agree(t, m, w, x)
			}
		}
	}
}

// P8.2: TamperFlip turns each bit of memory, and no other; twice is not at all.
func TestFlip(t *testing.T) {
	first := ramp(9)
	for bit := -9; bit < 81; bit++ {
		m, w := dram.New(9, first), modelOf(9, first)
		x := api.Tamper{Kind: api.TamperFlip, At: bit, To: -1, N: -1, Bytes: make([]byte, 20)}
		if e, want := m.Tamper(x), w.tamper(x); e != want {
			t.Fatalf("bit %d: %v", bit, e)
		}
		agree(t, m, w, bit)
		m.Tamper(x)
		if !bytes.Equal(m.Bytes(), first) {
			t.Fatalf("bit %d, twice: %v", bit, m.Bytes())
		}
	}
	m := dram.New(most, nil)
	if e := m.Tamper(api.Tamper{Kind: api.TamperFlip, At: 8*most - 1}); e != api.OK || m.Bytes()[most-1] != 128 {
		t.Error(e)
	}
	if e := m.Tamper(api.Tamper{Kind: api.TamperFlip, At: 8 * most}); e != api.ErrRange {
		t.Error(e)
	}
	if e := dram.New(0, nil).Tamper(api.Tamper{Kind: api.TamperFlip}); e != api.ErrRange {
		t.Error(e)
	}
}

// P8.2: TamperMove, of all places and counts, also where both parts have bytes in common.
func TestMove(t *testing.T) {
	for at := -2; at <= 10; at++ {
		for to := -2; to <= 10; to++ {
			for n := -2; n <= 10; n++ {
				m, w := dram.New(8, ramp(8)), modelOf(8, ramp(8))
				x := api.Tamper{Kind: api.TamperMove, At: at, To: to, N: n, Bytes: []byte{99}}
				if e, want := m.Tamper(x), w.tamper(x); e != want {
					t.Fatalf("%v: %v", x, e)
				}
				agree(t, m, w, x)
			}
		}
	}
}

// P8.2: as many keepings as MaxSnaps, whatever else the tamper tells; each is as memory was then.
func TestSnaps(t *testing.T) {
	m := dram.New(3, nil)
	for i := range api.MaxSnaps {
		m.Write(1, []byte{byte(i + 1)})
		if e := m.Tamper(api.Tamper{Kind: api.TamperSnap, At: -1, To: 999, N: -5, Bytes: make([]byte, 9)}); e != api.OK {
			t.Fatalf("%d: %v", i, e)
		}
	}
	for range 2 {
		if e := m.Tamper(api.Tamper{Kind: api.TamperSnap}); e != api.ErrFull {
			t.Error(e)
		}
	}
	for i := range api.MaxSnaps {
		keeping := (i * 37) % api.MaxSnaps
		if e := m.Tamper(api.Tamper{Kind: api.TamperReplay, To: keeping, N: 3}); e != api.OK || !bytes.Equal(m.Bytes(), []byte{0, byte(keeping + 1), 0}) {
			t.Errorf("%d: %v, %v", keeping, e, m.Bytes())
		}
	}
	for _, to := range []int{api.MaxSnaps, api.MaxSnaps + 1, -1, math.MinInt, math.MaxInt} {
		if e := m.Tamper(api.Tamper{Kind: api.TamperReplay, To: to, N: 1}); e != api.ErrNone {
			t.Errorf("%d: %v", to, e)
		}
	}
	if m.Use() != (api.Use{Writes: api.MaxSnaps, Opens: 1}) {
		t.Error(m.Use())
	}
}

// P8.2: TamperReplay, of all places and counts; ErrRange is ahead of ErrNone.
func TestReplay(t *testing.T) {
	for snaps := range 3 {
		for at := -2; at <= 10; at++ {
			for n := -2; n <= 10; n++ {
				for to := -2; to <= 3; to++ {
					m, w := dram.New(8, ramp(8)), modelOf(8, ramp(8))
					for k := range snaps {
						m.Tamper(api.Tamper{Kind: api.TamperSnap})
						w.tamper(api.Tamper{Kind: api.TamperSnap})
						over := bytes.Repeat([]byte{byte(100 + k)}, 8)
						m.Write(0, over)
						w.write(0, over)
					}
					x := api.Tamper{Kind: api.TamperReplay, At: at, To: to, N: n, Bytes: []byte{99}}
					if e, want := m.Tamper(x), w.tamper(x); e != want {
						t.Fatalf("%d: %v: %v", snaps, x, e)
					}
					agree(t, m, w, snaps, x)
				}
			}
		}
	}
	m := dram.New(8, nil)
	if e := m.Tamper(api.Tamper{Kind: api.TamperReplay, At: 9, To: 5}); e != api.ErrRange {
		t.Error(e)
	}
}

// P8.2, P8.3: TamperDrop tells anew how many; a count below 0 changes nothing.
func TestDrop(t *testing.T) {
	m := dram.New(8, nil)
	for _, n := range []int{5, 2, 9, 0, 1, math.MaxInt, 3} {
		if e := m.Tamper(api.Tamper{Kind: api.TamperDrop, At: -1, To: 99, N: n, Bytes: make([]byte, 99)}); e != api.OK || m.Drops() != n {
			t.Errorf("%d: %v, %d", n, e, m.Drops())
		}
	}
	for _, n := range []int{-1, -2, math.MinInt} {
		if e := m.Tamper(api.Tamper{Kind: api.TamperDrop, N: n}); e != api.ErrArg || m.Drops() != 3 {
			t.Errorf("%d: %v, %d", n, e, m.Drops())
		}
	}
	m.Tamper(api.Tamper{Kind: api.TamperDrop, N: math.MaxInt})
	if m.Write(0, []byte{1}); m.Drops() != math.MaxInt-1 || m.Bytes()[0] != 0 {
		t.Error(m.Drops())
	}
}

// P8.2: no other kinds, whatever else is told.
func TestOtherKinds(t *testing.T) {
	m, w := dram.New(8, ramp(8)), modelOf(8, ramp(8))
	for _, kind := range append([]int{0, 7, 8, 255, 256 + api.TamperSet, 1<<32 + api.TamperFlip}, edges...) {
		for _, x := range []api.Tamper{{}, {N: 1}, {At: 99, To: 99, N: 99}, {At: -1, N: -1}, {Bytes: []byte{1}}} {
			x.Kind = kind
			if e := m.Tamper(x); e != api.ErrArg {
				t.Errorf("%v: %v", x, e)
			}
		}
	}
	agree(t, m, w)
}

// P1, P8.2: places and counts of any size are answered, and change nothing.
func TestTamperEdges(t *testing.T) {
	m, w := dram.New(300, ramp(300)), modelOf(300, ramp(300))
	for _, v := range edges {
		for kind := api.TamperSet; kind <= api.TamperReplay; kind++ {
			if kind == api.TamperSnap {
				continue
			}
			if e := m.Tamper(api.Tamper{Kind: kind, At: v}); e != api.ErrRange {
				t.Errorf("%d at %d: %v", kind, v, e)
			}
			if kind < api.TamperMove {
				continue
			}
			for _, at := range []int{0, 1, 300, v} {
				if e := m.Tamper(api.Tamper{Kind: kind, At: at, N: v}); e != api.ErrRange {
					t.Errorf("%d at %d of %d: %v", kind, at, v, e)
				}
			}
		}
		for _, n := range []int{0, 1, v} {
			if e := m.Tamper(api.Tamper{Kind: api.TamperMove, To: v, N: n}); e != api.ErrRange {
				t.Errorf("to %d of %d: %v", v, n, e)
			}
		}
	}
	agree(t, m, w)
}

// P8.1 to P8.3: long rows of calls, of all kinds, as the document's words have them; P2: twice the same.
func TestLong(t *testing.T) {
	for _, size := range []int{0, 1, 64, 300, 1000} {
		first := ramp(size / 2)
		m, again, w := dram.New(size, first), dram.New(size, first), modelOf(size, first)
		state := uint32(size + 1)
		next := func(n int) int {
			state = state*1664525 + 1013904223
			return int(state>>8) % n
		}
		for i := range 4000 {
			at, n, to := next(size+4)-2, next(12)*next(12), next(size+4)-2
			switch kind := next(10); kind {
			case 0, 7:
				b, e := m.Read(at, n)
				c, f := again.Read(at, n)
				want, code := w.read(at, n)
				if !bytes.Equal(b, want) || e != code || !bytes.Equal(b, c) || e != f {
					t.Fatalf("%d, %d: Read(%d, %d): %v, %v", size, i, at, n, b, e)
				}
			case 8, 9:
				b := ramp(n + i%50)[i%50:]
				if e, f, want := m.Write(at, b), again.Write(at, b), w.write(at, b); e != want || e != f {
					t.Fatalf("%d, %d: Write(%d, %v): %v", size, i, at, b, e)
				}
			default:
				x := api.Tamper{Kind: kind, At: at, To: to, N: n, Bytes: ramp(next(20))}
				switch kind {
				case api.TamperFlip:
					x.At = next(8*size+10) - 5
				case api.TamperReplay:
					x.To = next(70) - 2
				case api.TamperDrop:
					x.N = next(6) - 2
				}
				if e, f, want := m.Tamper(x), again.Tamper(x), w.tamper(x); e != want || e != f {
					t.Fatalf("%d, %d: %v: %v", size, i, x, e)
				}
			}
			agree(t, m, w, size, i)
			agree(t, again, w, size, i)
		}
	}
}

// P8.3: what is handed in isn't changed and isn't kept; answers are new memory.
func TestNewMemory(t *testing.T) {
	first := ramp(20)[:10]
	m := dram.New(10, first)
	dram.New(30, first)
	if !bytes.Equal(first[:20], ramp(20)) {
		t.Error("what is behind first is changed")
	}
	first[0] = 0
	b := []byte{1, 2, 3}
	m.Write(2, b)
	set := []byte{4, 5}
	m.Tamper(api.Tamper{Kind: api.TamperSet, At: 6, Bytes: set})
	m.Tamper(api.Tamper{Kind: api.TamperSnap})
	want := append(ramp(10)[:2], 1, 2, 3, ramp(10)[5], 4, 5, ramp(10)[8], ramp(10)[9])
	m.Write(0, make([]byte, 10))
	m.Tamper(api.Tamper{Kind: api.TamperReplay, N: 10})
	m.Write(0, make([]byte, 5)) // the keeping isn't memory itself, neither ahead nor behind a replay
	m.Tamper(api.Tamper{Kind: api.TamperReplay, N: 10})
	if !bytes.Equal(m.Bytes(), want) {
		t.Errorf("%v, want %v", m.Bytes(), want)
	}
	if !bytes.Equal(b, []byte{1, 2, 3}) || !bytes.Equal(set, []byte{4, 5}) {
		t.Error("what is handed in is changed")
	}
	clear(b)
	clear(set)
	clear(m.Bytes())
	got, _ := m.Read(0, 5)
	clear(got[:cap(got)])
	_ = append(got, 9)
	if !bytes.Equal(m.Bytes(), want) {
		t.Errorf("%v, want %v", m.Bytes(), want)
	}
	got, _ = m.Read(0, 5)
	all := m.Bytes()
	m.Write(0, make([]byte, 10))
	if !bytes.Equal(got, want[:5]) || !bytes.Equal(all, want) {
		t.Error("an answer is changed by a write")
	}
}
