package code_test

import (
	"bytes"
	"encoding/binary"
	"math"
	"math/big"
	"reflect"
	"slices"
	"testing"

	"bastion/api"
	"bastion/code"
)

const most = 1 << 32 // the greatest Major of any plan

// planOf gives a right plan with so many lines of a page, bits of a Minor, and that greatest Major.
func planOf(lines, minor int, major uint64) api.Plan {
	return api.Plan{
		Cores: 1, Banks: 1, Pages: 2, Lines: lines, Arity: 2, Minor: minor, Major: major,
		Near: api.Shape{Sets: 1, Ways: 1}, Far: api.Shape{Sets: 1, Ways: 1}, Meta: 3, Queue: 1,
	}
}

// shapes gives a plan of each Lines and Minor.
func shapes(major uint64) []api.Plan {
	var out []api.Plan
	for lines := 1; lines <= 8; lines++ {
		for minor := 1; minor <= 8; minor++ {
			out = append(out, planOf(lines, minor, major))
		}
	}
	return out
}

// wrongPlans gives plans that aren't right, for which all else might be.
func wrongPlans() []api.Plan {
	out := []api.Plan{{}, {Lines: 2, Minor: 3, Major: 2}, planOf(2, 3, most+1), planOf(2, 3, math.MaxUint64)}
	for _, v := range []int{math.MinInt, -1, 0, 9, 64, math.MaxInt} {
		out = append(out, planOf(2, v, 2), planOf(v, 3, 2))
	}
	short := planOf(2, 3, 2)
	short.Meta--
	return append(out, short)
}

// majors gives some at most a plan's.
func majors(p api.Plan) []uint64 {
	return slices.DeleteFunc([]uint64{0, 1, 255, 256, 0x12345678, 1<<32 - 1, 1 << 32}, func(v uint64) bool { return v > p.Major })
}

// fill gives the Minors of a plan by a rule, cut to their bits.
func fill(p api.Plan, rule func(slot int) int) []int {
	out := make([]int, p.Lines)
	for slot := range out {
		out[slot] = rule(slot) & (1<<p.Minor - 1)
	}
	return out
}

// samples gives right counters of a plan: all noughts, all ones, one Minor alone with each of its values, and mixed ones.
func samples(p api.Plan) []api.Counters {
	var out []api.Counters
	for _, major := range majors(p) {
		out = append(out,
			api.Counters{Major: major, Minors: fill(p, func(int) int { return 0 })},
			api.Counters{Major: major, Minors: fill(p, func(int) int { return -1 })},
			api.Counters{Major: major, Minors: fill(p, func(slot int) int { return 0x55 + slot*37 })},
			api.Counters{Major: major, Minors: fill(p, func(slot int) int { return 0xaa ^ slot*91 })})
	}
	for alone := range p.Lines {
		for v := 1; v < 1<<p.Minor; v++ {
			out = append(out, api.Counters{Major: p.Major, Minors: fill(p, func(slot int) int {
				if slot == alone {
					return v
				}
				return 0
			})})
		}
	}
	return out
}

// told gives the bytes of counters as those of one great number.
func told(p api.Plan, c api.Counters) api.Line {
	n := new(big.Int).SetUint64(c.Major)
	for slot, minor := range c.Minors {
		v := big.NewInt(int64(minor))
		n.Add(n, v.Lsh(v, uint(64+slot*p.Minor)))
	}
	var b api.Line
	n.FillBytes(b[:])
	slices.Reverse(b[:])
	return b
}

// twin gives counters of the same numbers that share no memory.
func twin(c api.Counters) api.Counters {
	return api.Counters{Major: c.Major, Minors: slices.Clone(c.Minors)}
}

// P7.1: the bytes of the document's example, and what they tell.
func TestExample(t *testing.T) {
	p := planOf(2, 3, 2)
	c := api.Counters{Major: 1, Minors: []int{5, 6}}
	want := api.Line{0: 1, 8: 53}
	if b, e := code.Counters(p, c); b != want || e != api.OK {
		t.Errorf("%v, %v", b, e)
	}
	if x, e := code.Count(p, want); !reflect.DeepEqual(x, c) || e != api.OK {
		t.Errorf("%v, %v", x, e)
	}
}

// P7.1: a Minor may stand over the end of a byte; nothing stands behind the last one.
func TestCountersEdges(t *testing.T) {
	for _, x := range []struct {
		p    api.Plan
		c    api.Counters
		want api.Line
	}{
		{planOf(1, 1, 0), api.Counters{Minors: []int{1}}, api.Line{8: 1}},
		{planOf(3, 3, 0), api.Counters{Minors: []int{0, 0, 7}}, api.Line{8: 0xc0, 9: 1}},
		{planOf(8, 8, most), api.Counters{Major: most, Minors: []int{1, 2, 3, 4, 5, 6, 7, 255}},
			api.Line{4: 1, 8: 1, 9: 2, 10: 3, 11: 4, 12: 5, 13: 6, 14: 7, 15: 255}},
	} {
		if b, e := code.Counters(x.p, x.c); b != x.want || e != api.OK {
			t.Errorf("%v: %v, %v", x.c, b, e)
		}
	}
}

// P7.1: Counters of all shapes of pages, and Count takes them back.
func TestCountersAndCount(t *testing.T) {
	for _, p := range shapes(most) {
		for _, c := range samples(p) {
			b, e := code.Counters(p, c)
			if b != told(p, c) || e != api.OK {
				t.Fatalf("%d lines of %d bits, %v: %v, %v", p.Lines, p.Minor, c, b, e)
			}
			if x, e := code.Count(p, b); !reflect.DeepEqual(x, c) || e != api.OK {
				t.Fatalf("%d lines of %d bits, %v: %v, %v", p.Lines, p.Minor, c, x, e)
			}
		}
	}
}

// P7.1: Count looks at any bytes, tells a Major above the plan's, too, and not the bits behind the Minors.
func TestCountOfAnyBytes(t *testing.T) {
	for _, p := range shapes(2) {
		for seed := range 9 {
			var b api.Line
			for i := range b {
				b[i] = byte(255 - seed*(i*29+seed*5))
			}
			x, e := code.Count(p, b)
			if e != api.OK || len(x.Minors) != p.Lines || x.Major != binary.LittleEndian.Uint64(b[:8]) {
				t.Fatalf("%v: %v, %v", b, x, e)
			}
			all := binary.LittleEndian.Uint64(b[8:16])
			for slot, minor := range x.Minors {
				if want := int(all >> (slot * p.Minor) & (1<<p.Minor - 1)); minor != want {
					t.Fatalf("%d lines of %d bits, %v: the Minor %d is %d", p.Lines, p.Minor, b, slot, minor)
				}
			}
		}
	}
}

// P7.1, P7.4: a plan that isn't right is told ahead of all else that is wrong.
func TestWrongPlans(t *testing.T) {
	for _, p := range wrongPlans() {
		for _, c := range []api.Counters{{}, {Minors: []int{0, 0}}, {Major: math.MaxUint64, Minors: []int{-1}}} {
			if b, e := code.Counters(p, c); b != (api.Line{}) || e != api.ErrConfig {
				t.Errorf("Counters of %+v: %v, %v", p, b, e)
			}
			for _, slot := range []int{0, 1, -1, 9} {
				if x, over, e := code.Next(p, c, slot); !none(x) || over || e != api.ErrConfig {
					t.Errorf("Next of %+v: %v, %v, %v", p, x, over, e)
				}
			}
		}
		if x, e := code.Count(p, api.Line{1, 8: 1}); !none(x) || e != api.ErrConfig {
			t.Errorf("Count of %+v: %v, %v", p, x, e)
		}
	}
}

func none(c api.Counters) bool { return c.Major == 0 && len(c.Minors) == 0 }

// wrongCounters gives counters that aren't right for a plan.
func wrongCounters(p api.Plan) []api.Counters {
	zero := func() []int { return make([]int, p.Lines) }
	out := []api.Counters{
		{}, {Minors: []int{}},
		{Minors: zero()[1:]}, {Minors: append(zero(), 0)}, {Minors: make([]int, 99)},
		{Major: p.Major + 1, Minors: zero()}, {Major: math.MaxUint64, Minors: zero()},
	}
	for slot := range p.Lines {
		for _, v := range []int{1 << p.Minor, 1<<p.Minor + 1, 256, -1, math.MinInt, math.MaxInt, 1 << 32} {
			minors := zero()
			minors[slot] = v
			out = append(out, api.Counters{Minors: minors})
		}
	}
	return out
}

// P7.1, P7.4: counters that aren't right, ahead of a slot that there isn't.
func TestWrongCounters(t *testing.T) {
	for _, p := range append(shapes(0), shapes(5)...) {
		for _, c := range wrongCounters(p) {
			if b, e := code.Counters(p, c); b != (api.Line{}) || e != api.ErrArg {
				t.Fatalf("%d lines of %d bits, %v: %v, %v", p.Lines, p.Minor, c, b, e)
			}
			for _, slot := range []int{-1, 0, p.Lines - 1, p.Lines, math.MaxInt} {
				if x, over, e := code.Next(p, c, slot); !none(x) || over || e != api.ErrArg {
					t.Fatalf("%d lines of %d bits, %v, slot %d: %v, %v, %v", p.Lines, p.Minor, c, slot, x, over, e)
				}
			}
		}
	}
}

// node gives bytes that are all unlike.
func node() api.Line {
	var b api.Line
	for i := range b {
		b[i] = byte(i*7 + 129)
	}
	return b
}

// P7.2: a child's tag is told by its 8 bytes; With changes these alone.
func TestTags(t *testing.T) {
	for child := range 4 {
		b := node()
		if tag, e := code.Tag(b, child); tag != binary.LittleEndian.Uint64(b[8*child:]) || e != api.OK {
			t.Errorf("child %d: %x, %v", child, tag, e)
		}
		for _, tag := range []uint64{0, 1, 258, 0x0123456789abcdef, math.MaxUint64} {
			want := node()
			binary.LittleEndian.PutUint64(want[8*child:], tag)
			x, e := code.With(b, child, tag)
			if x != want || e != api.OK {
				t.Errorf("child %d, %x: %v, %v", child, tag, x, e)
			}
			if got, e := code.Tag(x, child); got != tag || e != api.OK {
				t.Errorf("child %d, %x: %x, %v", child, tag, got, e)
			}
		}
		if b != node() {
			t.Errorf("child %d: what was handed in is %v", child, b)
		}
	}
}

// P7.2: a child that there isn't: ErrRange, and zero values.
func TestTagsOfNoChild(t *testing.T) {
	for _, child := range []int{-1, -2, -8, 4, 5, 8, 32, math.MinInt, math.MaxInt, 1 << 61, 1 << 62} {
		if tag, e := code.Tag(node(), child); tag != 0 || e != api.ErrRange {
			t.Errorf("child %d: %x, %v", child, tag, e)
		}
		if b, e := code.With(node(), child, 5); b != (api.Line{}) || e != api.ErrRange {
			t.Errorf("child %d: %v, %v", child, b, e)
		}
	}
}

// P7.3: the message of a line, of the numbers the bits that fit.
func TestData(t *testing.T) {
	cipher := node()
	for _, line := range []int{0, 1, 127, 258, 1 << 40, -1, math.MinInt, math.MaxInt} {
		for _, major := range []uint64{0, 2, 1 << 32, 0x0123456789abcdef, math.MaxUint64} {
			for _, minor := range []int{0, 1, 255, 256, 65535, 65536, 65537 + 512, -1, -2, math.MinInt, math.MaxInt} {
				want := []byte{1}
				want = binary.LittleEndian.AppendUint64(want, uint64(line))
				want = binary.LittleEndian.AppendUint64(want, major)
				want = binary.LittleEndian.AppendUint16(want, uint16(minor))
				want = append(want, cipher[:]...)
				if m := code.Data(line, major, minor, cipher); !bytes.Equal(m, want) {
					t.Errorf("line %d, %d, %d: %v", line, major, minor, m)
				}
			}
		}
	}
}

// P7.3: the message of an item, of the numbers the bits that fit.
func TestItem(t *testing.T) {
	b := node()
	for _, level := range []int{0, 1, 4, 255, 256, 259, -1, math.MinInt, math.MaxInt} {
		for _, index := range []int{0, 1, 15, 258, 1 << 40, -1, math.MinInt, math.MaxInt} {
			want := []byte{2, byte(level)}
			want = binary.LittleEndian.AppendUint64(want, uint64(index))
			want = append(want, b[:]...)
			if m := code.Item(api.Item{Level: level, Index: index}, b); !bytes.Equal(m, want) {
				t.Errorf("level %d, index %d: %v", level, index, m)
			}
		}
	}
}

// P7.4: the document's example, up to the Major that can't go on.
func TestNextExample(t *testing.T) {
	p := planOf(2, 3, 2)
	c, over, e := code.Next(p, api.Counters{Major: 1, Minors: []int{5, 6}}, 1)
	if !reflect.DeepEqual(c, api.Counters{Major: 1, Minors: []int{5, 7}}) || over || e != api.OK {
		t.Errorf("%v, %v, %v", c, over, e)
	}
	c, over, e = code.Next(p, c, 1)
	if !reflect.DeepEqual(c, api.Counters{Major: 2, Minors: []int{0, 0}}) || !over || e != api.OK {
		t.Errorf("%v, %v, %v", c, over, e)
	}
	c, over, e = code.Next(p, api.Counters{Major: 2, Minors: []int{5, 7}}, 1)
	if !none(c) || over || e != api.ErrCount {
		t.Errorf("%v, %v, %v", c, over, e)
	}
}

// P7.4: with Major 0 and one bit of a Minor a line is written once.
func TestNextOfLeast(t *testing.T) {
	p := planOf(1, 1, 0)
	c, over, e := code.Next(p, api.Counters{Minors: []int{0}}, 0)
	if !reflect.DeepEqual(c, api.Counters{Minors: []int{1}}) || over || e != api.OK {
		t.Errorf("%v, %v, %v", c, over, e)
	}
	c, over, e = code.Next(p, c, 0)
	if !none(c) || over || e != api.ErrCount {
		t.Errorf("%v, %v, %v", c, over, e)
	}
}

// after tells what Next is to give of right counters.
func after(p api.Plan, c api.Counters, slot int) (api.Counters, bool, api.Errno) {
	if c.Minors[slot]+1 < 1<<p.Minor {
		next := twin(c)
		next.Minors[slot]++
		return next, false, api.OK
	}
	if c.Major == p.Major {
		return api.Counters{}, false, api.ErrCount
	}
	return api.Counters{Major: c.Major + 1, Minors: make([]int, p.Lines)}, true, api.OK
}

// P7.4: Next of all shapes of pages, and each slot; a slot that there isn't.
func TestNext(t *testing.T) {
	for _, p := range append(shapes(most), shapes(256)...) {
		for _, c := range samples(p) {
			for slot := range p.Lines {
				want, wantOver, wantCode := after(p, c, slot)
				next, over, e := code.Next(p, c, slot)
				if !reflect.DeepEqual(next, want) || over != wantOver || e != wantCode {
					t.Fatalf("%d lines of %d bits, %v, slot %d: %v, %v, %v", p.Lines, p.Minor, c, slot, next, over, e)
				}
			}
			for _, slot := range []int{-1, p.Lines, p.Lines + 1, 99, math.MinInt, math.MaxInt} {
				if next, over, e := code.Next(p, c, slot); !none(next) || over || e != api.ErrRange {
					t.Fatalf("%d lines of %d bits, %v, slot %d: %v, %v, %v", p.Lines, p.Minor, c, slot, next, over, e)
				}
			}
		}
	}
}

// P7.4: from noughts on, no counters of a line come twice, until there are none left.
func TestNextNeverRepeats(t *testing.T) {
	p := planOf(3, 2, 9)
	type pair struct {
		major uint64
		minor int
	}
	seen := map[pair]int{}
	c := api.Counters{Minors: make([]int, 3)}
	for step := 1; ; step++ {
		next, _, e := code.Next(p, c, 1)
		if e == api.ErrCount {
			break
		}
		at := pair{next.Major, next.Minors[1]}
		if seen[at] != 0 || e != api.OK || step > 40 {
			t.Fatalf("step %d: %v, %v", step, next, e)
		}
		seen[at] = step
		c = next
	}
	if len(seen) != 39 {
		t.Errorf("%d counters", len(seen))
	}
}

// P7.5: counters that are handed in stay as they are, and answers share no memory with them.
func TestCountersAreNewMemory(t *testing.T) {
	p := planOf(3, 2, 4)
	for _, c := range []api.Counters{{Major: 1, Minors: []int{0, 1, 2}}, {Major: 1, Minors: []int{0, 3, 2}}} {
		c.Minors = append(make([]int, 0, 8), c.Minors...)
		same := twin(c)
		if b, e := code.Counters(p, c); e != api.OK || b != told(p, same) {
			t.Errorf("%v, %v", b, e)
		}
		next, _, e := code.Next(p, c, 1)
		want, _, _ := after(p, same, 1)
		if e != api.OK || !reflect.DeepEqual(c, same) {
			t.Errorf("%v is %v, %v", same, c, e)
		}
		clear(c.Minors[:8])
		c.Minors = append(c.Minors, 99)
		if !reflect.DeepEqual(next, want) {
			t.Errorf("%v hangs on what was handed in", next)
		}
		again, _, _ := code.Next(p, same, 1)
		clear(next.Minors)
		if !reflect.DeepEqual(again, want) {
			t.Errorf("two answers share memory: %v", again)
		}
	}
}

// P7.5: two answers of Count, Data and Item share no memory, with room behind them or without.
func TestAnswersAreNewMemory(t *testing.T) {
	p := planOf(3, 2, 4)
	b := node()
	first, _ := code.Count(p, b)
	second, _ := code.Count(p, b)
	same := twin(second)
	clear(first.Minors[:cap(first.Minors)])
	if !reflect.DeepEqual(second, same) {
		t.Errorf("Count: %v", second)
	}
	for name, make := range map[string]func() []byte{
		"Data": func() []byte { return code.Data(3, 2, 1, b) },
		"Item": func() []byte { return code.Item(api.Item{Level: 1, Index: 2}, b) },
	} {
		one, two := make(), make()
		same := slices.Clone(two)
		clear(one[:cap(one)])
		if !bytes.Equal(two, same) || b != node() {
			t.Errorf("%s: %v, %v", name, two, b)
		}
	}
}

// P2: the same calls give the same answers.
func TestSame(t *testing.T) {
	p := planOf(5, 3, 7)
	for _, c := range samples(p) {
		one, e1 := code.Counters(p, c)
		two, e2 := code.Counters(p, c)
		if one != two || e1 != e2 {
			t.Errorf("%v: %v and %v", c, one, two)
		}
		next, over, e3 := code.Next(p, c, 2)
		next2, over2, e4 := code.Next(p, c, 2)
		if !reflect.DeepEqual(next, next2) || over != over2 || e3 != e4 {
			t.Errorf("%v: %v and %v", c, next, next2)
		}
	}
}
