package tree_test

import (
	"bytes"
	"encoding/binary"
	"math"
	"reflect"
	"slices"
	"testing"

	"bastion/api"
	"bastion/dram"
	"bastion/mac"
	"bastion/plan"
	"bastion/tree"
)

// Numbers that no bank and no page has.
var outside = []int{-1, -2, -64, -1 << 32, math.MinInt, math.MinInt + 1, 16, 64, 1 << 32, math.MaxInt - 1, math.MaxInt}

func item(level, index int) api.Item { return api.Item{Level: level, Index: index} }

// widths gives how many items there are on each level, by the words of layer 5.
func widths(p api.Plan) []int {
	out := []int{p.Pages}
	for n := p.Pages; n > 1; {
		up := n / p.Arity
		if n%p.Arity != 0 {
			up++
		}
		n = up
		out = append(out, n)
	}
	return out
}

// items gives all items of the tree, by the level, then the index.
func items(p api.Plan) []api.Item {
	var out []api.Item
	for level, n := range widths(p) {
		for i := range n {
			out = append(out, item(level, i))
		}
	}
	return out
}

// bytesAt gives where an item's bytes stand, by the words of layer 6.
func bytesAt(p api.Plan, x api.Item) int {
	return p.Pages*p.Lines*(32+8) + 32*slices.Index(items(p), x)
}

// sizeOf gives how many bytes memory must have.
func sizeOf(p api.Plan) int { return p.Pages*p.Lines*(32+8) + 32*len(items(p)) }

// bytesOf gives the bytes of counters, bit by bit, by the words of layer 7.
func bytesOf(p api.Plan, c api.Counters) api.Line {
	var b api.Line
	binary.LittleEndian.PutUint64(b[:], c.Major)
	for slot, minor := range c.Minors {
		for bit := range p.Minor {
			at := 64 + slot*p.Minor + bit
			b[at/8] |= byte(minor>>bit&1) << (at % 8)
		}
	}
	return b
}

// countersOf gives the counters that bytes tell.
func countersOf(p api.Plan, b api.Line) api.Counters {
	c := api.Counters{Major: binary.LittleEndian.Uint64(b[:])}
	for slot := range p.Lines {
		minor := 0
		for bit := range p.Minor {
			at := 64 + slot*p.Minor + bit
			minor |= int(b[at/8]>>(at%8)&1) << bit
		}
		c.Minors = append(c.Minors, minor)
	}
	return c
}

// messageOf gives the message of an item's bytes.
func messageOf(x api.Item, b api.Line) []byte {
	m := binary.LittleEndian.AppendUint64([]byte{2, byte(x.Level)}, uint64(x.Index))
	return append(m, b[:]...)
}

func same(a, b api.Counters) bool { return a.Major == b.Major && slices.Equal(a.Minors, b.Minors) }

// model is the tree by the words of the document: what is cached, and when each was used, and a memory and a book of its own.
type model struct {
	plan   api.Plan
	memory *dram.Memory
	book   *mac.Book
	items  map[api.Item]api.Cached
	used   map[api.Item]int
	time   int
	root   uint64
}

func modelOf(p api.Plan, m *dram.Memory, b *mac.Book) *model {
	o := &model{p, m, b, map[api.Item]api.Cached{}, map[api.Item]int{}, 0, 0}
	tags := map[api.Item]uint64{}
	for _, x := range items(p) {
		var line api.Line
		for child := range p.Arity {
			if x.Level > 0 {
				binary.LittleEndian.PutUint64(line[8*child:], tags[item(x.Level-1, x.Index*p.Arity+child)])
			}
		}
		tags[x] = o.written(x, line)
		o.root = tags[x]
	}
	return o
}

// written writes an item's bytes to memory, and gives the tag.
func (o *model) written(x api.Item, b api.Line) uint64 {
	o.memory.Write(bytesAt(o.plan, x), b[:])
	return o.book.Tag(messageOf(x, b))
}

func (o *model) page(n int) bool { return 0 <= n && n < o.plan.Pages }

func (o *model) bank(n int) bool { return 0 <= n && n < o.plan.Banks }

// way gives an item and all above it.
func (o *model) way(x api.Item) []api.Item {
	var out []api.Item
	for slices.Contains(items(o.plan), x) {
		out = append(out, x)
		x = item(x.Level+1, x.Index/o.plan.Arity)
	}
	return out
}

// next gives the item that is to be read next.
func (o *model) next(page int) (api.Item, bool) {
	way := o.way(item(0, page))
	slices.Reverse(way)
	for _, x := range way {
		if _, ok := o.items[x]; !ok {
			return x, true
		}
	}
	return api.Item{}, false
}

// order gives what a bank's cache has, the one used first ahead.
func (o *model) order(bank int) []api.Item {
	var out []api.Item
	for x, v := range o.items {
		if v.Bank == bank {
			out = append(out, x)
		}
	}
	slices.SortFunc(out, func(a, b api.Item) int { return o.used[a] - o.used[b] })
	return out
}

func (o *model) victim(bank int, pages []int) (api.Item, bool) {
	var kept []api.Item
	for _, page := range pages {
		kept = append(kept, o.way(item(0, page))...)
	}
	for _, x := range o.order(bank) {
		if !slices.Contains(kept, x) {
			return o.down(x), true
		}
	}
	return api.Item{}, false
}

// down gives x, if nothing is cached right beneath it, else what down gives of the one beneath with the least index.
func (o *model) down(x api.Item) api.Item {
	for child := range o.plan.Arity {
		y := item(x.Level-1, x.Index*o.plan.Arity+child)
		if _, ok := o.items[y]; ok {
			return o.down(y)
		}
	}
	return x
}

func (o *model) use(v api.Cached) {
	o.items[v.Item] = v
	o.time++
	o.used[v.Item] = o.time
}

// told gives the tag that an item must have.
func (o *model) told(x api.Item) uint64 {
	if x.Level+1 == len(widths(o.plan)) {
		return o.root
	}
	up := o.items[item(x.Level+1, x.Index/o.plan.Arity)]
	return binary.LittleEndian.Uint64(up.Bytes[8*(x.Index%o.plan.Arity):])
}

func (o *model) away(x api.Item) {
	if v := o.items[x]; v.Dirty {
		tag := o.written(x, v.Bytes)
		if x.Level+1 == len(widths(o.plan)) {
			o.root = tag
		} else {
			up := o.items[item(x.Level+1, x.Index/o.plan.Arity)]
			binary.LittleEndian.PutUint64(up.Bytes[8*(x.Index%o.plan.Arity):], tag)
			up.Dirty = true
			o.use(up)
		}
	}
	delete(o.items, x)
	delete(o.used, x)
}

func (o *model) step(bank, page int, keep []int) (bool, api.Errno) {
	if !o.bank(bank) || !o.page(page) {
		return false, api.ErrRange
	}
	v, cached := o.items[item(0, page)]
	if cached && v.Bank == bank {
		return true, api.OK
	}
	if len(o.order(bank)) == o.plan.Meta {
		x, ok := o.victim(bank, append([]int{page}, keep...))
		if !ok {
			return false, api.ErrFull
		}
		o.away(x)
		return false, api.OK
	}
	if cached {
		v.Bank = bank
		o.use(v)
		return false, api.OK
	}
	x, _ := o.next(page)
	read, _ := o.memory.Read(bytesAt(o.plan, x), 32)
	b := api.Line(read)
	if !o.book.Verify(messageOf(x, b), o.told(x)) {
		return false, api.ErrTag
	}
	o.use(api.Cached{Item: x, Bank: bank, Bytes: b})
	return false, api.OK
}

func (o *model) counters(page int) (api.Counters, bool) {
	v, ok := o.items[item(0, page)]
	if !ok {
		return api.Counters{}, false
	}
	return countersOf(o.plan, v.Bytes), true
}

func (o *model) right(c api.Counters) bool {
	for _, minor := range c.Minors {
		if minor < 0 || minor >= 1<<o.plan.Minor {
			return false
		}
	}
	return c.Major <= o.plan.Major && len(c.Minors) == o.plan.Lines
}

func (o *model) write(page int, c api.Counters) api.Errno {
	v, cached := o.items[item(0, page)]
	switch {
	case !o.page(page):
		return api.ErrRange
	case !cached:
		return api.ErrNone
	case !o.right(c):
		return api.ErrArg
	}
	v.Bytes, v.Dirty = bytesOf(o.plan, c), true
	o.use(v)
	return api.OK
}

// all gives what is cached, by the level, then the index.
func (o *model) all() []api.Cached {
	var out []api.Cached
	for _, x := range items(o.plan) {
		if v, ok := o.items[x]; ok {
			out = append(out, v)
		}
	}
	return out
}

// pair is a tree, and the model that it is held against; each has a memory and a book of its own.
type pair struct {
	t *testing.T
	x *tree.Tree
	m *dram.Memory
	b *mac.Book
	o *model
}

func bookOf(p api.Plan) *mac.Book {
	b, _ := mac.New(p.Kind, p.Tag)
	return b
}

func pairOf(t *testing.T, p api.Plan) *pair {
	t.Helper()
	return pairOver(t, p, func() *dram.Memory { return dram.New(sizeOf(p), nil) }, func() *mac.Book { return bookOf(p) })
}

// pairOver gives a pair over memories and books that are made alike.
func pairOver(t *testing.T, p api.Plan, memory func() *dram.Memory, book func() *mac.Book) *pair {
	t.Helper()
	m, b := memory(), book()
	x, e := tree.New(p, m, b)
	if e != api.OK || x == nil {
		t.Fatalf("New of %v: %v", p, e)
	}
	return &pair{t, x, m, b, modelOf(p, memory(), book())}
}

func (p *pair) step(bank, page int, keep ...int) (bool, api.Errno) {
	p.t.Helper()
	done, e := p.x.Step(bank, page, keep)
	if want, code := p.o.step(bank, page, keep); done != want || e != code {
		p.t.Fatalf("Step of %d, %d, %v: %t, %v, not %t, %v; %v has %v", bank, page, keep, done, e, want, code, p.o.plan, p.o.all())
	}
	return done, e
}

func (p *pair) write(page int, c api.Counters) api.Errno {
	p.t.Helper()
	got, want := p.x.Write(page, c), p.o.write(page, c)
	if got != want {
		p.t.Fatalf("Write of %d, %v: %v, not %v; %v has %v", page, c, got, want, p.o.plan, p.o.all())
	}
	return got
}

func (p *pair) tamper(v api.Tamper) {
	p.t.Helper()
	if got, want := p.m.Tamper(v), p.o.memory.Tamper(v); got != want {
		p.t.Fatalf("Tamper of %v: %v, %v", v, got, want)
	}
}

// stands gives an item's bytes in memory, without a Read that would count.
func (p *pair) stands(x api.Item) api.Line { return api.Line(p.m.Bytes()[bytesAt(p.o.plan, x):]) }

// untilGone steps until an item is cached no longer.
func (p *pair) untilGone(x api.Item, bank, page int) {
	p.t.Helper()
	for range 50 {
		if _, ok := p.x.Caches().Get(x); !ok {
			return
		}
		p.step(bank, page)
	}
	p.t.Fatalf("%v stays, though %d is reached; %v", x, page, p.o.all())
}

// reach steps until the counters are there, or an error comes; how often.
func (p *pair) reach(bank, page int, keep ...int) (int, api.Errno) {
	p.t.Helper()
	for n := 1; n <= 200; n++ {
		if done, e := p.step(bank, page, keep...); done || e != api.OK {
			return n, e
		}
	}
	p.t.Fatalf("%v: no counters of %d", p.o.plan, page)
	return 0, api.OK
}

// must reaches counters.
func (p *pair) must(bank, page int, keep ...int) int {
	p.t.Helper()
	n, e := p.reach(bank, page, keep...)
	if e != api.OK {
		p.t.Fatalf("Step of %d, %d, %v: %v; %v has %v", bank, page, keep, e, p.o.plan, p.o.all())
	}
	return n
}

// look holds what is seen of the tree, but the order of use, against the model.
func (p *pair) look() {
	p.t.Helper()
	if got, want := p.x.Root(), p.o.root; got != want {
		p.t.Fatalf("Root: %d, not %d", got, want)
	}
	if got, want := p.x.Caches().All(), p.o.all(); !slices.Equal(got, want) {
		p.t.Fatalf("Caches: %v, not %v", got, want)
	}
	for page := -1; page <= p.o.plan.Pages; page++ {
		x, ok := p.x.Way(page)
		if want, is := p.o.next(page); x != want || ok != is {
			p.t.Fatalf("Way of %d: %v, %t, not %v, %t", page, x, ok, want, is)
		}
		c, ok := p.x.Counters(page)
		if want, is := p.o.counters(page); !same(c, want) || ok != is {
			p.t.Fatalf("Counters of %d: %v, %t, not %v, %t", page, c, ok, want, is)
		}
	}
	if got, want := p.m.Bytes(), p.o.memory.Bytes(); !bytes.Equal(got, want) {
		p.t.Fatalf("memory: %v, not %v", got, want)
	}
	if got, want := p.m.Use(), p.o.memory.Use(); got != want {
		p.t.Fatalf("use of memory: %v, not %v", got, want)
	}
}

// check looks at all: the order of use, which the Victims show, and the book, too.
func (p *pair) check() {
	p.t.Helper()
	p.look()
	for bank := range p.o.plan.Banks {
		for page := -1; page < p.o.plan.Pages; page++ {
			got, ok := p.x.Caches().Victim(bank, []api.Item{item(0, page)})
			if want, is := p.o.victim(bank, []int{page}); got != want || ok != is {
				p.t.Fatalf("Victim of %d with %d to keep: %v, %t, not %v, %t", bank, page, got, ok, want, is)
			}
		}
	}
	if got, want := p.b.Marks(), p.o.book.Marks(); !reflect.DeepEqual(got, want) {
		p.t.Fatalf("marks: %v, not %v", got, want)
	}
	if got, want := p.b.Bad(), p.o.book.Bad(); len(got) != len(want) || len(got) > 0 && !reflect.DeepEqual(got, want) {
		p.t.Fatalf("bad events: %v, not %v", got, want)
	}
}

// beneath looks whether all that is cached stands beneath what is cached.
func (p *pair) beneath() {
	p.t.Helper()
	all := p.x.Caches().All()
	for _, v := range all {
		above := func(w api.Cached) bool { return w.Item == item(v.Item.Level+1, v.Item.Index/p.o.plan.Arity) }
		if v.Item.Level+1 < len(widths(p.o.plan)) && !slices.ContainsFunc(all, above) {
			p.t.Fatalf("%v: nothing is cached above %v", p.o.plan, v.Item)
		}
	}
}

// planOf gives a right plan, with so many items for a cache more than the least.
func planOf(banks, pages, arity, more int) api.Plan {
	p := plan.Fit(api.Plan{Banks: banks, Pages: pages, Lines: 1 + pages%8, Arity: arity, Minor: 1 + (pages+arity)%8, Major: 1000, Kind: api.KindIdeal, Tag: api.Block{9, 8, 7}})
	p.Meta = min(plan.Least(p)+more, 64)
	return p
}

// shapes gives plans with all numbers of banks and pages and all arities, and both kinds of tags.
func shapes() []api.Plan {
	var out []api.Plan
	for banks := 1; banks <= 4; banks++ {
		for pages := 1; pages <= 16; pages++ {
			for arity := 2; arity <= 4; arity++ {
				p := planOf(banks, pages, arity, (pages+arity)%3)
				if (banks+pages+arity)%2 == 1 {
					p.Kind = api.KindSip
				}
				out = append(out, p)
			}
		}
	}
	return out
}

// dice gives numbers of no order, the same ones each time.
type dice uint32

func (d *dice) below(n int) int {
	*d = *d*1664525 + 1013904223
	return int(*d>>8) % n
}

// counters gives right counters.
func (d *dice) counters(p api.Plan) api.Counters {
	c := api.Counters{Major: uint64(d.below(int(p.Major) + 1))}
	for range p.Lines {
		c.Minors = append(c.Minors, d.below(1<<p.Minor))
	}
	return c
}

// pages gives a few pages, as many as there may be to keep.
func (d *dice) pages(p api.Plan) []int {
	var out []int
	for range d.below(p.Banks) {
		out = append(out, d.below(p.Pages))
	}
	return out
}

// P14.1, P14.2, P14.3: the document's example: a Step for each level, from the last one down, and one more; and then nothing but true.
func TestExample(t *testing.T) {
	for _, plan := range shapes() {
		for page := range plan.Pages {
			p := pairOf(t, plan)
			levels := len(widths(plan))
			for n := range levels {
				want := item(levels-1-n, page)
				for range want.Level {
					want.Index /= plan.Arity
				}
				if x, ok := p.x.Way(page); x != want || !ok {
					t.Fatalf("%v: Way of %d: %v, %t, not %v", plan, page, x, ok, want)
				}
				if done, e := p.step(page%plan.Banks, page); done || e != api.OK {
					t.Fatalf("%v: the Step %d: %t, %v", plan, n, done, e)
				}
				if got := p.x.Caches().All(); len(got) != n+1 || got[0].Item != want || got[0].Bank != page%plan.Banks || got[0].Dirty {
					t.Fatalf("%v: the Step %d: %v", plan, n, got)
				}
			}
			for range 3 {
				if done, e := p.step(page%plan.Banks, page); !done || e != api.OK {
					t.Fatalf("%v: the last Step: %t, %v", plan, done, e)
				}
			}
			if u := p.m.Use(); u.Reads != levels || u.Writes != len(items(plan)) {
				t.Fatalf("%v: %v", plan, u)
			}
			p.check()
		}
	}
}

// P14.1: of all shapes: each item's bytes in memory, each one's tag told once, level by level, the root the last one; nothing is cached, all counters are 0.
func TestNew(t *testing.T) {
	for _, plan := range shapes() {
		p := pairOf(t, plan)
		p.check()
		all, marks := items(plan), p.b.Marks()
		if len(p.x.Caches().All()) != 0 || len(marks) != len(all) || p.m.Use().Writes != len(all) || p.m.Use().Reads != 0 {
			t.Fatalf("%v: %v, %v", plan, p.x.Caches().All(), p.m.Use())
		}
		for n, x := range all {
			if !bytes.Equal(marks[n].Message, messageOf(x, p.stands(x))) {
				t.Fatalf("%v: the mark %d: %v", plan, n, marks[n])
			}
		}
		if p.x.Root() != marks[len(marks)-1].Tag {
			t.Fatalf("%v: the root: %d", plan, p.x.Root())
		}
		for page := range plan.Pages {
			pairOf(t, plan).must(0, page)
		}
	}
}

// P14.1: three pages, two children of a node: what memory has, written out: noughts, the tags 1 and 2, 3 and none, 4 and 5; the root is 6.
func TestNewWrittenOut(t *testing.T) {
	plan := plan.Fit(api.Plan{Pages: 3, Lines: 1, Arity: 2})
	p := pairOf(t, plan)
	want := make([]byte, 3*32+3*8+6*32)
	nodes := want[3*32+3*8+3*32:]
	nodes[0], nodes[8], nodes[32], nodes[64], nodes[72] = 1, 2, 3, 4, 5
	if got := p.m.Bytes(); !bytes.Equal(got, want) || p.x.Root() != 6 {
		t.Errorf("%v, %d", got, p.x.Root())
	}
}

// P14.1: memory and book may have been used ahead: nothing but the items' bytes is written, and the tags go on where the book is.
func TestNewOverOthers(t *testing.T) {
	for _, plan := range shapes() {
		junk := bytes.Repeat([]byte{0xa5}, sizeOf(plan)+100)
		memory := func() *dram.Memory { return dram.New(len(junk), junk) }
		book := func() *mac.Book {
			b := bookOf(plan)
			b.Tag([]byte("ahead"))
			b.Tag(messageOf(item(0, 0), api.Line{}))
			b.Tag(messageOf(item(len(widths(plan))-1, 0), api.Line{5}))
			return b
		}
		p := pairOver(t, plan, memory, book)
		p.check()
		begin, got := bytesAt(plan, item(0, 0)), p.m.Bytes()
		if !bytes.Equal(got[:begin], junk[:begin]) || !bytes.Equal(got[sizeOf(plan):], junk[sizeOf(plan):]) {
			t.Fatalf("%v: other bytes have changed", plan)
		}
		p.must(0, plan.Pages-1)
		p.check()
	}
}

// P14.1: ErrConfig of plans that aren't right, ErrRange of too few bytes, the first one ahead; nothing is written, and no tag told.
func TestNewWrong(t *testing.T) {
	var wrong []api.Plan
	for _, p := range shapes() {
		few, many, more, kind := p, p, p, p
		few.Meta, many.Meta, more.Banks, kind.Kind = plan.Least(p)-1, 65, 5, 2
		wrong = append(wrong, few, many, more, kind)
	}
	try := func(p api.Plan, size int, want api.Errno) {
		m, b := dram.New(size, nil), bookOf(planOf(1, 1, 2, 0))
		if x, e := tree.New(p, m, b); x != nil || e != want || m.Use() != (api.Use{}) || len(b.Marks()) != 0 {
			t.Errorf("%v, of %d bytes: %v, %v", p, size, e, m.Use())
		}
	}
	for _, p := range append(wrong, api.Plan{}) {
		try(p, 1<<16, api.ErrConfig)
		try(p, 0, api.ErrConfig)
	}
	for _, p := range shapes() {
		try(p, sizeOf(p)-1, api.ErrRange)
		try(p, 0, api.ErrRange)
	}
}

// P14.1, P14.3: writes that are dropped when the tree is laid are found out, as soon as the item is read.
func TestNewDropped(t *testing.T) {
	plan := planOf(1, 4, 2, 0) // seven items, the nodes the last three
	for drops, want := range []int{4, 4, 4, 4, 4, 2, 2, 1} {
		p := pairOver(t, plan, func() *dram.Memory {
			m := dram.New(sizeOf(plan), nil)
			m.Tamper(api.Tamper{Kind: api.TamperDrop, N: drops})
			return m
		}, func() *mac.Book { return bookOf(plan) })
		n, e := p.reach(0, 0)
		if n != want || (e == api.ErrTag) != (drops > 4) {
			t.Errorf("%d dropped: %d, %v", drops, n, e)
		}
		p.check()
	}
}

// P14.2, P14.3, P14.4: of banks and pages that there aren't: ErrRange, zero values and false; nothing changes.
func TestOutside(t *testing.T) {
	for _, plan := range shapes() {
		p := pairOf(t, plan)
		p.must(0, 0)
		for _, n := range append([]int{plan.Pages, max(plan.Banks, plan.Pages)}, outside...) {
			for _, page := range []int{0, plan.Pages - 1, n} {
				if done, e := p.x.Step(0, n, []int{page}); done || e != api.ErrRange {
					t.Fatalf("%v: Step of the page %d: %t, %v", plan, n, done, e)
				}
				if n >= 0 && n < plan.Banks {
					continue
				}
				if done, e := p.x.Step(n, page, nil); done || e != api.ErrRange {
					t.Fatalf("%v: Step of the bank %d: %t, %v", plan, n, done, e)
				}
			}
			if x, ok := p.x.Way(n); x != (api.Item{}) || ok {
				t.Fatalf("Way of %d: %v", n, x)
			}
			if c, ok := p.x.Counters(n); c.Major != 0 || c.Minors != nil || ok {
				t.Fatalf("Counters of %d: %v", n, c)
			}
			p.write(n, api.Counters{Minors: make([]int, plan.Lines)})
			p.write(n, api.Counters{})
		}
		if done, e := p.x.Step(plan.Banks, 0, nil); done || e != api.ErrRange {
			t.Fatalf("Step of the bank %d: %t, %v", plan.Banks, done, e)
		}
		p.check()
	}
}

// P14.4: Write: ErrRange ahead of ErrNone, that ahead of ErrArg; counters at their bounds and right beyond them.
func TestWrite(t *testing.T) {
	plan := plan.Fit(api.Plan{Pages: 2, Lines: 3, Arity: 2, Minor: 3, Major: 9})
	p := pairOf(t, plan)
	p.must(0, 1)
	good := api.Counters{Major: 9, Minors: []int{7, 0, 7}}
	bad := []api.Counters{{}, {Major: 10, Minors: []int{0, 0, 0}}, {Minors: []int{0, 0}}, {Minors: []int{0, 0, 0, 0}}, {Minors: []int{0, 8, 0}}, {Minors: []int{0, 0, -1}}, {Major: math.MaxUint64, Minors: []int{0, 0, 0}}}
	for n, c := range append(bad, good) {
		for page, want := range map[int]api.Errno{-1: api.ErrRange, 2: api.ErrRange, 0: api.ErrNone, 1: api.ErrArg} {
			if n == len(bad) && page == 1 {
				want = api.OK
			}
			if got := p.write(page, c); got != want {
				t.Errorf("Write of %d, %v: %v", page, c, got)
			}
			p.check()
		}
	}
	if c, ok := p.x.Counters(1); !ok || !same(c, good) {
		t.Errorf("Counters: %v, %t", c, ok)
	}
	if v, _ := p.x.Caches().Get(item(0, 1)); !v.Dirty {
		t.Errorf("isn't dirty: %v", v)
	}
}

// P14.3: a Step that answers true does nothing else, though the cache be full; nor do Counters, Way, Root and Caches: the order of use stays.
func TestTrueAlone(t *testing.T) {
	plan := planOf(1, 16, 4, 0) // 3 levels, 4 items to the cache
	p := pairOf(t, plan)
	p.must(0, 0)
	p.must(0, 1)
	for range 3 {
		before := p.m.Use()
		if done, e := p.step(0, 0); !done || e != api.OK || p.m.Use() != before {
			t.Fatalf("%t, %v", done, e)
		}
		p.check()
	}
	if done, e := p.step(0, 2); done || e != api.OK {
		t.Fatalf("%t, %v", done, e)
	}
	if _, ok := p.x.Counters(0); ok {
		t.Error("what was used first didn't go")
	}
	if _, ok := p.x.Counters(1); !ok {
		t.Error("what was used last went")
	}
}

// P14.3: counters that are in another one's cache are moved, as they are, dirty too, in one Step; what is above them stays where it is.
func TestMove(t *testing.T) {
	for _, plan := range shapes() {
		if plan.Banks == 1 {
			continue
		}
		p := pairOf(t, plan)
		p.must(0, 0)
		c := api.Counters{Major: 3, Minors: make([]int, plan.Lines)}
		p.write(0, c)
		before := p.m.Use()
		for n, bank := range []int{1, 0, plan.Banks - 1} {
			if steps := p.must(bank, 0); steps != 2 {
				t.Fatalf("%v: %d Steps", plan, steps)
			}
			for _, v := range p.x.Caches().All() {
				if v.Item == item(0, 0) && (v.Bank != bank || !v.Dirty) || v.Item != item(0, 0) && (v.Bank != 0 || v.Dirty) {
					t.Fatalf("%v: after the move %d: %v", plan, n, v)
				}
			}
			if got, ok := p.x.Counters(0); !ok || !same(got, c) || p.m.Use() != before {
				t.Fatalf("%v: %v, %t", plan, got, ok)
			}
			p.check()
		}
	}
}

// P14.3: room is made ahead of a move, and of a read, one item a Step; the item that goes may be in another one's cache, and then the next one goes, too.
func TestRoomAhead(t *testing.T) {
	plan := planOf(2, 16, 2, 0) // 5 levels, 11 items to a cache
	p := pairOf(t, plan)
	p.must(1, 15)
	for page := range 4 {
		p.must(0, page)
	}
	for len(p.o.order(0)) < plan.Meta {
		p.must(0, 4+len(p.o.order(0))%11)
	}
	p.check()
	room := p.x.Caches().Room
	if done, e := p.step(0, 15); done || e != api.OK || room(0) != 1 {
		t.Fatalf("%t, %v, %d", done, e, room(0))
	}
	if v, _ := p.x.Caches().Get(item(0, 15)); v.Bank != 1 {
		t.Fatalf("%v", v)
	}
	if done, e := p.step(0, 15); done || e != api.OK || room(0) != 0 {
		t.Fatalf("%t, %v, %d", done, e, room(0))
	}
	if done, e := p.step(0, 15); !done || e != api.OK {
		t.Fatalf("%t, %v", done, e)
	}
	p.check()
}

// P14.3: the one used first is a node of this cache, what is beneath it is in another one: that goes ahead, and the cache is full still.
func TestVictimElsewhere(t *testing.T) {
	plan := planOf(2, 16, 2, 0)
	p := pairOf(t, plan)
	p.step(0, 0)
	p.step(0, 0) // the two uppermost nodes of the page 0
	p.must(1, 0) // and all beneath them
	for _, page := range []int{8, 9, 10, 11, 12, 13, 14, 15} {
		for p.x.Caches().Room(0) > 0 {
			if done, _ := p.step(0, page); done {
				break
			}
		}
	}
	before := len(p.o.order(1))
	if p.x.Caches().Room(0) != 0 || before != 3 {
		t.Fatalf("%v", p.o.all())
	}
	done, e := p.step(0, 15)
	if done || e != api.OK || p.x.Caches().Room(0) != 0 || len(p.o.order(1)) != before-1 {
		t.Errorf("%t, %v, %v", done, e, p.x.Caches().All())
	}
	if _, ok := p.x.Counters(0); ok {
		t.Error("the page's counters are cached still")
	}
	p.must(0, 15)
	p.check()
	p.beneath()
}

// P14.3: what is put away clean is neither written nor given a tag; what is dirty is, and makes the one above dirty.
func TestPutAway(t *testing.T) {
	plan := planOf(1, 4, 2, 0) // 3 levels, 4 items to the cache
	p := pairOf(t, plan)
	for n := range 20 {
		p.must(0, n%4)
	}
	if p.m.Use().Writes != 7 || len(p.b.Marks()) != 7 {
		t.Fatalf("%v, %d marks", p.m.Use(), len(p.b.Marks()))
	}
	p.must(0, 0)
	c := api.Counters{Major: 5, Minors: make([]int, plan.Lines)}
	p.write(0, c)
	if p.stands(item(0, 0)) != (api.Line{}) || len(p.b.Marks()) != 7 {
		t.Fatalf("written, though it wasn't put away: %v", p.stands(item(0, 0)))
	}
	above, _ := p.x.Caches().Get(item(1, 0))
	p.untilGone(item(0, 0), 0, 2)
	dirty, _ := p.x.Caches().Get(item(1, 0))
	if above.Dirty || !dirty.Dirty || dirty.Bytes == above.Bytes || p.stands(item(1, 0)) != above.Bytes {
		t.Fatalf("above: %v, then %v", above, dirty)
	}
	if p.stands(item(0, 0)) != bytesOf(plan, c) || p.m.Use().Writes != 8 || !p.b.Has(messageOf(item(0, 0), bytesOf(plan, c))) {
		t.Fatalf("%v, %v", p.stands(item(0, 0)), p.m.Use())
	}
	p.must(0, 2)
	p.untilGone(item(1, 0), 0, 3)
	if p.stands(item(1, 0)) != dirty.Bytes || p.m.Use().Writes != 9 || !p.b.Has(messageOf(item(1, 0), dirty.Bytes)) {
		t.Fatalf("%v, %v", p.stands(item(1, 0)), p.m.Use())
	}
	p.check()
	p.must(0, 0)
	if got, ok := p.x.Counters(0); !ok || !same(got, c) {
		t.Fatalf("%v, %t", got, ok)
	}
}

// P14.3, P14.4: the last level's item is on all ways, so that no Step puts it away: the root stays.
func TestRoot(t *testing.T) {
	d := dice(3)
	for _, plan := range shapes() {
		p := pairOf(t, plan)
		root := p.x.Root()
		for range 50 {
			page := d.below(plan.Pages)
			p.must(d.below(plan.Banks), page)
			p.write(page, d.counters(plan))
		}
		p.check()
		if p.x.Root() != root || root != p.b.Marks()[len(items(plan))-1].Tag {
			t.Fatalf("%v: %d, not %d", plan, p.x.Root(), root)
		}
	}
}

// P14.3: ErrFull, where all that is cached is to be kept; then nothing changes. Pages that there aren't keep nothing.
func TestFull(t *testing.T) {
	plan := planOf(1, 16, 4, 0) // 3 levels, 4 items to the cache
	p := pairOf(t, plan)
	p.must(0, 0)
	p.must(0, 1)
	p.write(0, api.Counters{Major: 1, Minors: make([]int, plan.Lines)})
	for _, keep := range [][]int{{0, 1}, {1, 0}, {5, 0, 0, -1, 1, 16}, {0, 1, 2, 3, 4, 5, 6, 7, 8, 9, 10, 11, 12, 13, 14, 15}} {
		before := p.m.Use()
		if done, e := p.step(0, 2, keep...); done || e != api.ErrFull || p.m.Use() != before {
			t.Errorf("%v: %t, %v", keep, done, e)
		}
		p.check()
	}
	if done, e := p.step(0, 1, 0, 1); !done || e != api.OK {
		t.Errorf("%t, %v", done, e)
	}
	if done, e := p.step(0, 2, append(outside, 0, -16)...); done || e != api.OK || len(p.x.Caches().All()) != 3 {
		t.Errorf("%t, %v", done, e)
	}
	if _, ok := p.x.Counters(0); !ok {
		t.Error("what was to be kept has gone")
	}
	p.check()
}

// P14.3: each bit of each item, turned in memory: ErrTag, at that item, as often as it is read; nothing is cached; turned back it is right again.
func TestEachBit(t *testing.T) {
	for _, kind := range []int{api.KindIdeal, api.KindSip} {
		plan := planOf(2, 5, 2, 0) // 4 levels
		plan.Kind = kind
		for n := range 256 * len(items(plan)) {
			p, x := pairOf(t, plan), items(plan)[n/256]
			page := x.Index << x.Level
			turn := api.Tamper{Kind: api.TamperFlip, At: 8*bytesAt(plan, x) + n%256}
			p.tamper(turn)
			for range 2 {
				_, e := p.reach(0, page)
				if y, _ := p.x.Way(page); e != api.ErrTag || y != x || p.m.Use().Reads == 0 {
					t.Fatalf("%v, the bit %d: %v at %v", x, n%256, e, y)
				}
				p.look()
			}
			p.tamper(turn)
			p.must(0, page)
			p.look()
			if len(p.b.Bad()) != 0 {
				t.Fatalf("%v", p.b.Bad())
			}
		}
	}
}

// P14.3: an item's bytes in another one's place aren't right, though they are its like.
func TestSwapped(t *testing.T) {
	plan := planOf(1, 16, 2, 0)
	all := items(plan)
	for _, x := range all {
		for _, y := range all {
			p := pairOf(t, plan)
			at, to := bytesAt(plan, x), bytesAt(plan, y)
			moved := !bytes.Equal(p.m.Bytes()[at:at+32], p.m.Bytes()[to:to+32])
			p.tamper(api.Tamper{Kind: api.TamperMove, At: at, To: to, N: 32})
			if _, e := p.reach(0, y.Index<<y.Level); (e == api.ErrTag) != moved {
				t.Fatalf("%v in the place of %v: %v", x, y, e)
			}
		}
	}
}

// P14.6: an item's bytes of an earlier time aren't right any more, be they put back alone, or with all of memory.
func TestReplay(t *testing.T) {
	plan := planOf(1, 16, 4, 0) // 3 levels, 4 items to the cache
	for _, x := range []api.Item{item(0, 0), item(1, 0), {}} {
		p := pairOf(t, plan)
		p.tamper(api.Tamper{Kind: api.TamperSnap})
		p.must(0, 0)
		p.write(0, api.Counters{Major: 1, Minors: make([]int, plan.Lines)})
		for _, page := range []int{4, 8, 12} { // until neither the counters nor the node above are cached
			p.must(0, page)
		}
		if y, _ := p.x.Way(0); y != item(1, 0) {
			t.Fatalf("%v", y)
		}
		at, n := bytesAt(plan, x), 32
		if x == (api.Item{}) {
			at, n = 0, sizeOf(plan)
		}
		p.tamper(api.Tamper{Kind: api.TamperReplay, At: at, N: n})
		if _, e := p.reach(0, 0); e != api.ErrTag {
			t.Errorf("%v: %v", x, e)
		}
		p.check()
	}
}

// P14.6: who has the key can forge counters, and all nodes above them with tags that are right; the root stays on the chip, and tells.
func TestForged(t *testing.T) {
	plan := planOf(1, 4, 2, 0) // 3 levels
	plan.Kind = api.KindSip
	p, forger := pairOf(t, plan), bookOf(plan)
	forged := bytesOf(plan, api.Counters{Major: 900, Minors: make([]int, plan.Lines)})
	for level := range 3 {
		x := item(level, 0)
		p.tamper(api.Tamper{Kind: api.TamperSet, At: bytesAt(plan, x), Bytes: forged[:]})
		q := pairOf(t, plan)
		q.tamper(api.Tamper{Kind: api.TamperSet, Bytes: p.m.Bytes()})
		if n, e := q.reach(0, 0); n != 3-level || e != api.ErrTag || len(q.b.Bad()) != 0 {
			t.Errorf("%v: %d, %v, %v", x, n, e, q.b.Bad())
		}
		q.check()
		if level < 2 {
			up := p.stands(item(level+1, 0))
			binary.LittleEndian.PutUint64(up[:], forger.Tag(messageOf(x, forged)))
			forged = up
		}
	}
}

// P14.5: from whatever is cached, with as many pages to keep as there are banks less 1: ErrFull isn't answered, and the counters are there after at most 200 Steps.
func TestReach(t *testing.T) {
	d := dice(5)
	for _, plan := range shapes() {
		p := pairOf(t, plan)
		for n := range 60 {
			keep := d.pages(plan)
			for range d.below(4) {
				p.step(d.below(plan.Banks), d.below(plan.Pages), d.pages(plan)...)
			}
			page := d.below(plan.Pages)
			steps := p.must(d.below(plan.Banks), page, keep...)
			if most := len(items(plan)) + len(widths(plan)) + 2; steps > most {
				t.Fatalf("%v: %d Steps", plan, steps)
			}
			if n%3 != 0 {
				p.write(page, d.counters(plan))
			}
			p.beneath()
		}
		p.check()
	}
}

// P14.5, P14.3: with each bank on its way to a page of its own, and these to keep, all get there in turn, and what is kept is there still.
func TestAllBanks(t *testing.T) {
	d := dice(11)
	for _, plan := range shapes() {
		if plan.Pages < plan.Banks {
			continue
		}
		p := pairOf(t, plan)
		for range 10 {
			var pages []int
			for len(pages) < plan.Banks {
				if page := d.below(plan.Pages); !slices.Contains(pages, page) {
					pages = append(pages, page)
				}
			}
			for turn := range 200 {
				for bank, page := range pages {
					others := slices.Delete(slices.Clone(pages), bank, bank+1)
					if _, e := p.step(bank, page, others...); e != api.OK {
						t.Fatalf("%v: turn %d: %v", plan, turn, e)
					}
				}
			}
			for bank, page := range pages {
				if v, ok := p.x.Caches().Get(item(0, page)); !ok || v.Bank != bank {
					t.Fatalf("%v: %v, %t", plan, v, ok)
				}
				p.write(page, d.counters(plan))
			}
		}
		p.check()
	}
}

// P14.2, P14.3, P14.4: every run of five pages to be reached, written or not, of a small tree of whose items not all fit in the cache.
func TestEveryRun(t *testing.T) {
	plan := planOf(1, 4, 2, 0)
	for run := range 8 * 8 * 8 * 8 * 8 {
		p := pairOf(t, plan)
		for n, left := 0, run; n < 5; n, left = n+1, left/8 {
			p.must(0, left%4)
			if left/4%2 == 1 {
				p.write(left%4, api.Counters{Major: uint64(n), Minors: make([]int, plan.Lines)})
			}
		}
		p.look()
		p.beneath()
	}
}

// P14.2, P14.3, P14.4: a long jumble of calls of all shapes of trees, wrong numbers among them, and more to keep than there is room for; all that is cached stands beneath what is cached.
func TestJumble(t *testing.T) {
	d := dice(1)
	for _, plan := range shapes() {
		p := pairOf(t, plan)
		for n := range 300 {
			page, bank := d.below(plan.Pages+2)-1, d.below(plan.Banks)
			var keep []int
			for range d.below(8) * d.below(2) {
				keep = append(keep, d.below(plan.Pages+2)-1)
			}
			switch d.below(8) {
			case 0:
				p.step(d.below(plan.Banks+2)-1, page, keep...)
			case 1, 2:
				c := d.counters(plan)
				c.Major += uint64(d.below(300))
				p.write(page, c)
			default:
				for range d.below(8) {
					p.step(bank, page, keep...)
				}
			}
			p.beneath()
			if n%10 == 0 {
				p.look()
			}
		}
		p.check()
	}
}

// P14.6: whatever is done to memory in between, counters that are told are those that were written last, 0 at first.
func TestFresh(t *testing.T) {
	d := dice(99)
	told, wrong := 0, 0
	for _, plan := range shapes() {
		for range 10 {
			p := pairOf(t, plan)
			last := map[int]api.Counters{}
			for page := range plan.Pages {
				last[page] = api.Counters{Minors: make([]int, plan.Lines)}
			}
			for range 60 {
				if d.below(8) == 0 {
					p.tamper(d.tamper(plan))
				}
				page := d.below(plan.Pages)
				if _, e := p.reach(d.below(plan.Banks), page, d.pages(plan)...); e != api.OK {
					wrong++
				}
				for page := range plan.Pages {
					c, ok := p.x.Counters(page)
					if ok && !same(c, last[page]) {
						t.Fatalf("%v: %v of %d, not %v", plan, c, page, last[page])
					}
					if ok {
						told++
					}
				}
				if c := d.counters(plan); d.below(2) == 0 && p.write(page, c) == api.OK {
					last[page] = c
				}
			}
			p.check()
			if len(p.b.Bad()) != 0 {
				t.Fatalf("%v: %v", plan, p.b.Bad())
			}
		}
	}
	if told < 100000 || wrong < 1000 {
		t.Errorf("told %d times, wrong %d times", told, wrong)
	}
}

// tamper gives something that an adversary may do, to items as a whole above all.
func (d *dice) tamper(p api.Plan) api.Tamper {
	all := items(p)
	at, to := bytesAt(p, all[d.below(len(all))]), bytesAt(p, all[d.below(len(all))])
	switch d.below(9) {
	case 0:
		return api.Tamper{Kind: api.TamperFlip, At: 8*at + d.below(256)}
	case 1:
		return api.Tamper{Kind: api.TamperSet, At: at + d.below(25), Bytes: []byte{byte(d.below(3)), 0, 0, 0, 0, 0, byte(d.below(2))}}
	case 2:
		return api.Tamper{Kind: api.TamperMove, At: at, To: to, N: 32}
	case 3:
		return api.Tamper{Kind: api.TamperDrop, N: d.below(3)}
	case 4:
		return api.Tamper{Kind: api.TamperReplay, N: sizeOf(p), To: d.below(2)}
	case 5:
		return api.Tamper{Kind: api.TamperReplay, At: at, To: d.below(4), N: 32}
	}
	return api.Tamper{Kind: api.TamperSnap}
}

// P14.6: with all of memory put back, what was written since isn't right when it is read, and what wasn't is.
func TestAllPutBack(t *testing.T) {
	wrong := 0
	for _, plan := range shapes() {
		for page := range plan.Pages {
			p := pairOf(t, plan)
			p.tamper(api.Tamper{Kind: api.TamperSnap})
			for other := range plan.Pages {
				p.must(other%plan.Banks, other)
				p.write(other, api.Counters{Major: uint64(other + 1), Minors: make([]int, plan.Lines)})
			}
			now := p.m.Bytes()
			p.tamper(api.Tamper{Kind: api.TamperReplay, N: sizeOf(plan)})
			want := api.OK
			for _, x := range p.o.way(item(0, page)) {
				_, cached := p.x.Caches().Get(x)
				if at := bytesAt(plan, x); !cached && !bytes.Equal(now[at:at+32], p.m.Bytes()[at:at+32]) {
					want = api.ErrTag
					wrong++
				}
			}
			if _, e := p.reach(page%plan.Banks, page); e != want {
				t.Fatalf("%v: %d: %v, not %v", plan, page, e, want)
			}
			p.look()
		}
	}
	if wrong < 100 {
		t.Errorf("wrong %d times", wrong)
	}
}

// P2: the same calls give the same answers, of two trees that know nothing of one another.
func TestSameCalls(t *testing.T) {
	for _, plan := range shapes() {
		p, q := pairOf(t, plan), pairOf(t, plan)
		for _, one := range []*pair{p, q} {
			d := dice(17)
			for range 60 {
				page := d.below(plan.Pages)
				one.reach(d.below(plan.Banks), page)
				one.write(page, d.counters(plan))
			}
		}
		if p.x.Root() != q.x.Root() || !slices.Equal(p.x.Caches().All(), q.x.Caches().All()) || !bytes.Equal(p.m.Bytes(), q.m.Bytes()) || !reflect.DeepEqual(p.b.Marks(), q.b.Marks()) {
			t.Fatalf("%v: two trees are unlike", plan)
		}
	}
}

// P14.4, and the rules: what is done to an answer or to what was handed in changes nothing, and the tree's changes don't change an answer.
func TestNewMemory(t *testing.T) {
	plan := plan.Fit(api.Plan{Pages: 4, Lines: 2, Arity: 2, Minor: 4, Major: 9, Banks: 2})
	p := pairOf(t, plan)
	p.must(0, 1)
	minors := []int{3, 4, 5}
	p.write(1, api.Counters{Major: 2, Minors: minors[:2]})
	if !slices.Equal(minors, []int{3, 4, 5}) {
		t.Errorf("what was written has changed: %v", minors)
	}
	clear(minors)
	p.check()
	first, _ := p.x.Counters(1)
	again, _ := p.x.Counters(1)
	clear(first.Minors)
	if !slices.Equal(again.Minors, []int{3, 4}) {
		t.Errorf("another answer has changed: %v", again)
	}
	p.check()
	p.write(1, api.Counters{Major: 3, Minors: []int{6, 7}})
	if again.Major != 2 || !slices.Equal(again.Minors, []int{3, 4}) {
		t.Errorf("an answer has changed with the tree: %v", again)
	}
	keep := []int{3, -1, 2, 1}
	for page := range 4 {
		p.reach(1, page, keep[:2]...)
	}
	if !slices.Equal(keep, []int{3, -1, 2, 1}) {
		t.Errorf("what was to be kept has changed: %v", keep)
	}
	clear(keep)
	p.check()
}
