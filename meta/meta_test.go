package meta_test

import (
	"math"
	"slices"
	"testing"

	"bastion/api"
	"bastion/meta"
	"bastion/plan"
)

// Numbers that no bank, level or index has.
var outside = []int{-1, -2, -64, -1 << 32, math.MinInt, math.MinInt + 1, 16, 64, 1 << 32, math.MaxInt - 1, math.MaxInt}

func item(level, index int) api.Item { return api.Item{Level: level, Index: index} }

// model is the caches by the words of the document: what is cached, and when each was used.
type model struct {
	plan  api.Plan
	items map[api.Item]api.Cached
	used  map[api.Item]int
	time  int
}

func modelOf(p api.Plan) *model {
	return &model{p, map[api.Item]api.Cached{}, map[api.Item]int{}, 0}
}

// widths gives how many items there are on each level, by the words of layer 5.
func widths(p api.Plan) []int {
	out := []int{p.Pages}
	for n := p.Pages; n > 1; {
		up := n / p.Arity
		if n%p.Arity != 0 {
			up++
		}
		n = up
		out = append(out, n)
	}
	return out
}

// items gives all items of the tree, by the level, then the index.
func items(p api.Plan) []api.Item {
	var out []api.Item
	for level, n := range widths(p) {
		for i := range n {
			out = append(out, item(level, i))
		}
	}
	return out
}

func (m *model) is(x api.Item) bool { return slices.Contains(items(m.plan), x) }

func (m *model) bank(bank int) bool { return 0 <= bank && bank < m.plan.Banks }

// above gives the item above one.
func (m *model) above(x api.Item) (api.Item, bool) {
	if !m.is(x) || x.Level+1 == len(widths(m.plan)) {
		return api.Item{}, false
	}
	return item(x.Level+1, x.Index/m.plan.Arity), true
}

// on tells whether x is on the way of an item.
func (m *model) on(x, of api.Item) bool {
	if x == of {
		return true
	}
	up, ok := m.above(of)
	return ok && m.on(x, up)
}

func (m *model) kept(x api.Item, keep []api.Item) bool {
	return slices.ContainsFunc(keep, func(k api.Item) bool { return m.on(x, k) })
}

// order gives what a bank's cache has, the one used first ahead.
func (m *model) order(bank int) []api.Item {
	var out []api.Item
	for x, v := range m.items {
		if v.Bank == bank {
			out = append(out, x)
		}
	}
	slices.SortFunc(out, func(a, b api.Item) int { return m.used[a] - m.used[b] })
	return out
}

func (m *model) room(bank int) int {
	if !m.bank(bank) {
		return 0
	}
	return m.plan.Meta - len(m.order(bank))
}

func (m *model) use(v api.Cached) {
	m.items[v.Item] = v
	m.time++
	m.used[v.Item] = m.time
}

func (m *model) get(x api.Item) (api.Cached, bool) {
	v, ok := m.items[x]
	return v, ok
}

func (m *model) put(bank int, x api.Item, b api.Line) api.Errno {
	switch _, ok := m.items[x]; {
	case !m.bank(bank) || !m.is(x):
		return api.ErrRange
	case ok:
		return api.ErrBusy
	case m.room(bank) == 0:
		return api.ErrFull
	}
	m.use(api.Cached{Item: x, Bank: bank, Bytes: b})
	return api.OK
}

func (m *model) update(x api.Item, b api.Line) api.Errno {
	v, ok := m.items[x]
	if !ok {
		return api.ErrNone
	}
	m.use(api.Cached{Item: x, Bank: v.Bank, Bytes: b, Dirty: true})
	return api.OK
}

func (m *model) move(x api.Item, bank int) api.Errno {
	v, ok := m.items[x]
	switch {
	case !m.bank(bank):
		return api.ErrRange
	case !ok:
		return api.ErrNone
	case v.Bank != bank && m.room(bank) == 0:
		return api.ErrFull
	}
	m.use(api.Cached{Item: x, Bank: bank, Bytes: v.Bytes, Dirty: v.Dirty})
	return api.OK
}

func (m *model) drop(x api.Item) api.Errno {
	if _, ok := m.items[x]; !ok {
		return api.ErrNone
	}
	delete(m.items, x)
	delete(m.used, x)
	return api.OK
}

func (m *model) victim(bank int, keep []api.Item) (api.Item, bool) {
	for _, x := range m.order(bank) {
		if !m.kept(x, keep) {
			return m.down(x), true
		}
	}
	return api.Item{}, false
}

// down gives x, if nothing is cached right beneath it, else what down gives of the one beneath with the least index.
func (m *model) down(x api.Item) api.Item {
	for _, y := range items(m.plan) {
		if _, ok := m.items[y]; !ok {
			continue
		}
		if up, ok := m.above(y); ok && up == x {
			return m.down(y)
		}
	}
	return x
}

func (m *model) all() []api.Cached {
	var out []api.Cached
	for _, x := range items(m.plan) {
		if v, ok := m.items[x]; ok {
			out = append(out, v)
		}
	}
	return out
}

// pair is caches, and the model that they are held against.
type pair struct {
	t *testing.T
	c *meta.Caches
	m *model
}

func pairOf(t *testing.T, p api.Plan) *pair {
	t.Helper()
	c, e := meta.New(p)
	if e != api.OK || c == nil {
		t.Fatalf("New of %v: %v", p, e)
	}
	return &pair{t, c, modelOf(p)}
}

func (p *pair) same(call string, got, want api.Errno) {
	p.t.Helper()
	if got != want {
		p.t.Fatalf("%s: %v, not %v; %v has %v", call, got, want, p.m.plan, p.m.all())
	}
}

func (p *pair) put(bank int, x api.Item, b api.Line) api.Errno {
	p.t.Helper()
	want := p.m.put(bank, x, b)
	p.same("Put", p.c.Put(bank, x, b), want)
	return want
}

func (p *pair) update(x api.Item, b api.Line) {
	p.t.Helper()
	p.same("Update", p.c.Update(x, b), p.m.update(x, b))
}

func (p *pair) move(x api.Item, bank int) api.Errno {
	p.t.Helper()
	want := p.m.move(x, bank)
	p.same("Move", p.c.Move(x, bank), want)
	return want
}

func (p *pair) drop(x api.Item) {
	p.t.Helper()
	p.same("Drop", p.c.Drop(x), p.m.drop(x))
}

func (p *pair) victim(bank int, keep ...api.Item) (api.Item, bool) {
	p.t.Helper()
	got, ok := p.c.Victim(bank, keep)
	if want, is := p.m.victim(bank, keep); got != want || ok != is {
		p.t.Fatalf("Victim of %d with %v: %v, %t, not %v, %t; %v has %v", bank, keep, got, ok, want, is, p.m.plan, p.m.all())
	}
	return got, ok
}

// look holds all that is seen without a keep against the model, but the order of use, which Victim shows.
func (p *pair) look() {
	p.t.Helper()
	for _, x := range append(items(p.m.plan), strange(p.m.plan)...) {
		got, ok := p.c.Get(x)
		if want, is := p.m.get(x); got != want || ok != is {
			p.t.Fatalf("Get of %v: %v, %t, not %v, %t", x, got, ok, want, is)
		}
	}
	for bank := -1; bank <= p.m.plan.Banks; bank++ {
		if got, want := p.c.Room(bank), p.m.room(bank); got != want {
			p.t.Fatalf("Room of %d: %d, not %d", bank, got, want)
		}
	}
	if got, want := p.c.All(), p.m.all(); !slices.Equal(got, want) {
		p.t.Fatalf("All: %v, not %v", got, want)
	}
}

// check looks at all, and at the Victims with nothing and with each one item to keep.
func (p *pair) check() {
	p.t.Helper()
	p.look()
	for bank := -1; bank <= p.m.plan.Banks; bank++ {
		p.victim(bank)
		for _, x := range items(p.m.plan) {
			p.victim(bank, x)
		}
	}
}

// strange gives items that there aren't, right beside those that there are among them.
func strange(p api.Plan) []api.Item {
	w := widths(p)
	var out []api.Item
	for level, n := range w {
		out = append(out, item(level, n), item(level, -1))
	}
	out = append(out, item(len(w), 0), item(-1, 0), item(-1, -1))
	for _, n := range outside {
		out = append(out, item(0, n), item(n, 0), item(n, n))
	}
	return out
}

// planOf gives a right plan, with so many items for a cache more than the least.
func planOf(banks, pages, arity, more int) api.Plan {
	p := plan.Fit(api.Plan{Banks: banks, Pages: pages, Arity: arity})
	p.Meta = min(plan.Least(p)+more, 64)
	return p
}

// shapes gives plans with all numbers of banks and pages and all arities.
func shapes() []api.Plan {
	var out []api.Plan
	for banks := 1; banks <= 4; banks++ {
		for pages := 1; pages <= 16; pages++ {
			for arity := 2; arity <= 4; arity++ {
				out = append(out, planOf(banks, pages, arity, (pages+arity)%3))
			}
		}
	}
	return out
}

// dice gives numbers of no order, the same ones each time.
type dice uint32

func (d *dice) below(n int) int {
	*d = *d*1664525 + 1013904223
	return int(*d>>8) % n
}

func lineOf(n int) api.Line { return api.Line{byte(n), byte(n >> 8), 31: byte(n) ^ 255} }

// P13.2: the document's example.
func TestExample(t *testing.T) {
	p := pairOf(t, planOf(2, 2, 2, 0))
	p.put(0, item(1, 0), api.Line{})
	p.put(1, item(0, 1), api.Line{})
	if got, ok := p.victim(0); got != item(0, 1) || !ok {
		t.Errorf("%v, %t", got, ok)
	}
}

// P13.1: ErrConfig and nil of plans that aren't right, those with too little and too great a Meta among them; else caches without items.
func TestNew(t *testing.T) {
	wrong := []api.Plan{{}, {Cores: 1, Banks: 1, Pages: 1, Lines: 1}}
	for _, p := range shapes() {
		pairOf(t, p).check()
		few, many, more, kind := p, p, p, p
		few.Meta, many.Meta, more.Banks, kind.Kind = plan.Least(p)-1, 65, 5, 2
		wrong = append(wrong, few, many, more, kind)
	}
	for _, p := range wrong {
		if c, e := meta.New(p); c != nil || e != api.ErrConfig {
			t.Errorf("%v: %v, %v", p, c, e)
		}
	}
}

// P13.1: ErrRange of Put and Move at banks that there aren't, of Put at items that there aren't, ErrNone of the others at these, a false and 0 of what only looks; nothing changes.
func TestOutside(t *testing.T) {
	for _, plan := range shapes() {
		p := pairOf(t, plan)
		for n, x := range items(plan) {
			p.put(n%plan.Banks, x, lineOf(n))
		}
		for n, x := range strange(plan) {
			if e := p.put(n%plan.Banks, x, lineOf(n)); e != api.ErrRange {
				t.Fatalf("Put of %v: %v", x, e)
			}
			p.update(x, lineOf(n))
			if e := p.move(x, n%plan.Banks); e != api.ErrNone {
				t.Fatalf("Move of %v: %v", x, e)
			}
			p.drop(x)
		}
		for _, bank := range append(outside, plan.Banks) {
			if p.c.Room(bank) != 0 {
				t.Fatalf("Room of %d", bank)
			}
			p.put(bank, item(0, 0), api.Line{})
			p.put(bank, item(9, 9), api.Line{})
			p.move(item(0, 0), bank)
			p.move(item(9, 9), bank)
			p.victim(bank)
			p.victim(bank, item(0, 0))
		}
		p.look()
	}
}

// P13.1: the errors in their order: ErrRange ahead of ErrBusy, that ahead of ErrFull; of Move ErrRange ahead of ErrNone, that ahead of ErrFull.
func TestErrorsInOrder(t *testing.T) {
	plan := planOf(2, 16, 2, 0) // 5 levels, 31 items, 11 of them to a cache
	p := pairOf(t, plan)
	all := items(plan)
	for n, x := range all[:12] {
		p.put(n/11, x, lineOf(n))
	}
	for _, c := range []struct {
		bank int
		x    api.Item
		want api.Errno
	}{{2, all[0], api.ErrRange}, {0, item(5, 0), api.ErrRange}, {0, all[0], api.ErrBusy}, {0, all[11], api.ErrBusy}, {1, all[0], api.ErrBusy},
		{0, all[12], api.ErrFull}, {-1, all[12], api.ErrRange}} {
		if got := p.put(c.bank, c.x, lineOf(99)); got != c.want {
			t.Errorf("Put of %v in %d: %v", c.x, c.bank, got)
		}
	}
	for _, c := range []struct {
		x    api.Item
		bank int
		want api.Errno
	}{{all[0], 2, api.ErrRange}, {all[20], 2, api.ErrRange}, {all[20], 0, api.ErrNone}, {item(5, 0), 0, api.ErrNone}, {all[11], 0, api.ErrFull}, {all[0], 0, api.OK}, {all[1], 1, api.OK}, {all[11], 0, api.OK}} {
		if got := p.move(c.x, c.bank); got != c.want {
			t.Errorf("Move of %v to %d: %v", c.x, c.bank, got)
		}
	}
	p.check()
}

// P13.1: a cache takes Meta items, and no more, whatever the others have; with a greater Meta all items fit in one.
func TestFull(t *testing.T) {
	for _, plan := range append(shapes(), planOf(1, 16, 2, 64), planOf(4, 16, 2, 64), planOf(1, 16, 2, 25), planOf(1, 16, 2, 24)) {
		for first := range plan.Banks {
			p := pairOf(t, plan)
			for n, x := range items(plan) {
				want := api.OK
				if n >= plan.Meta {
					want = api.ErrFull
				}
				if got := p.put(first, x, lineOf(n)); got != want {
					t.Fatalf("%v: Put of %v: %v", plan, x, got)
				}
				if got := p.c.Room(first); got != max(plan.Meta-n-1, 0) {
					t.Fatalf("%v: Room: %d", plan, got)
				}
			}
			p.look()
		}
	}
}

// P13.1: an item that is moved keeps its bytes, and whether it is dirty; it is in one cache alone, and used last there.
func TestMove(t *testing.T) {
	plan := planOf(3, 4, 2, 0)
	p := pairOf(t, plan)
	p.put(0, item(0, 0), lineOf(1))
	p.put(0, item(0, 1), lineOf(2))
	p.put(1, item(0, 2), lineOf(3))
	p.update(item(0, 1), lineOf(4))
	p.move(item(0, 0), 1)
	p.move(item(0, 1), 1)
	for x, want := range map[api.Item]api.Cached{
		item(0, 0): {Item: item(0, 0), Bank: 1, Bytes: lineOf(1)},
		item(0, 1): {Item: item(0, 1), Bank: 1, Bytes: lineOf(4), Dirty: true},
	} {
		if got, ok := p.c.Get(x); got != want || !ok {
			t.Errorf("%v: %v, %t", x, got, ok)
		}
	}
	if p.c.Room(0) != plan.Meta || p.c.Room(1) != plan.Meta-3 {
		t.Errorf("Room: %d, %d", p.c.Room(0), p.c.Room(1))
	}
	for _, want := range []api.Item{item(0, 2), item(0, 0), item(0, 1)} {
		if got, ok := p.victim(1); got != want || !ok {
			t.Errorf("Victim: %v, not %v", got, want)
		}
		p.drop(want)
	}
	p.check()
}

// P13.1: an item that is moved to the cache in which it is, be that full or not, is used last there, and else as it was.
func TestMoveToItsOwn(t *testing.T) {
	plan := planOf(1, 4, 2, 0) // 4 of the items to a cache
	p := pairOf(t, plan)
	for n := range 4 {
		p.put(0, item(0, n), lineOf(n))
		p.check()
		if got := p.move(item(0, 0), 0); got != api.OK {
			t.Errorf("%d: %v", n, got)
		}
		p.check()
	}
	if got, ok := p.c.Victim(0, nil); got != item(0, 1) || !ok {
		t.Errorf("Victim: %v", got)
	}
	if got, _ := p.c.Get(item(0, 0)); got != (api.Cached{Item: item(0, 0), Bytes: lineOf(0)}) {
		t.Errorf("Get: %v", got)
	}
}

// P13.1, P13.2: Put, Update and Move make an item the one used last of its cache; Get, Room, Victim, All, and what is refused, don't.
func TestOrder(t *testing.T) {
	p := pairOf(t, planOf(1, 8, 2, 0)) // 5 of the items to a cache
	for n := range 5 {
		p.put(0, item(0, n), lineOf(n))
	}
	p.update(item(0, 0), lineOf(10))
	p.update(item(0, 2), lineOf(12))
	p.move(item(0, 1), 0)
	p.drop(item(0, 3))
	p.put(0, item(0, 3), lineOf(13))
	for range 2 {
		for n := range 5 {
			p.c.Get(item(0, 4-n))
			p.c.Put(0, item(0, 4-n), api.Line{})
			p.c.Put(0, item(0, 5), api.Line{})
			p.c.Move(item(0, 4-n), 1)
			p.c.Room(0)
			p.c.All()
			p.check()
		}
	}
	for _, want := range []api.Item{item(0, 4), item(0, 0), item(0, 2), item(0, 1), item(0, 3)} {
		if got, ok := p.c.Victim(0, nil); got != want || !ok {
			t.Errorf("Victim: %v, not %v", got, want)
		}
		p.drop(want)
	}
	if got, ok := p.c.Victim(0, nil); got != (api.Item{}) || ok {
		t.Errorf("Victim of nothing: %v, %t", got, ok)
	}
}

// P13.1, P13.2, P13.3: every run of four calls on the three items of a small tree in two caches.
func TestEveryRun(t *testing.T) {
	plan := planOf(2, 2, 2, 0)
	all := items(plan)
	for run := range 18 * 18 * 18 * 18 {
		p := pairOf(t, plan)
		for step, left := 0, run; step < 4; step, left = step+1, left/18 {
			x := all[left%3]
			switch kind := left / 3 % 6; kind {
			case 0, 1:
				p.put(kind, x, lineOf(step))
			case 2, 3:
				p.move(x, kind-2)
			case 4:
				p.update(x, lineOf(step))
			case 5:
				p.drop(x)
			}
		}
		p.check()
	}
}

// P13.1, P13.2, P13.3: a long jumble of calls of all shapes of trees, wrong numbers and lists of what is to be kept among them.
func TestJumble(t *testing.T) {
	d := dice(1)
	for _, plan := range shapes() {
		p := pairOf(t, plan)
		some := append(append(items(plan), items(plan)...), item(0, plan.Pages), item(-1, 0), item(9, 0))
		for step := range 400 {
			x, bank := some[d.below(len(some))], d.below(plan.Banks+2)-1
			switch d.below(8) {
			case 0, 1, 2, 3:
				p.put(bank, x, lineOf(step))
			case 4:
				p.drop(x)
			case 5:
				p.update(x, lineOf(step))
			default:
				p.move(x, bank)
			}
			var keep []api.Item
			for range d.below(5) {
				keep = append(keep, some[d.below(len(some))])
			}
			p.victim(bank, keep...)
			if step%20 == 0 {
				p.check()
			}
		}
	}
}

// P13.2: what is kept are the items on the ways of some, one of them or all; an item that there isn't, or isn't cached, keeps what is on its way, if there is any.
func TestKeep(t *testing.T) {
	plan := planOf(1, 9, 3, 0) // 3 levels: 9, 3 and 1
	plan.Meta = 13
	p := pairOf(t, plan)
	for _, x := range []api.Item{item(2, 0), item(1, 0), item(1, 1), item(0, 1), item(0, 4), item(0, 5)} {
		p.put(0, x, api.Line{})
	}
	for _, c := range []struct {
		keep []api.Item
		want api.Item
		ok   bool
	}{
		{nil, item(0, 1), true},
		{[]api.Item{item(2, 0)}, item(0, 1), true},
		{[]api.Item{item(0, 0)}, item(0, 4), true}, // isn't cached, but the one above it is, and goes on past it
		{[]api.Item{item(1, 0)}, item(0, 4), true},
		{[]api.Item{item(0, 4)}, item(0, 1), true},
		{[]api.Item{item(0, 1), item(0, 3)}, item(0, 4), true},
		{[]api.Item{item(0, 1), item(0, 4)}, item(0, 5), true},
		{[]api.Item{item(0, 4), item(0, 1), item(0, 4)}, item(0, 5), true},
		{[]api.Item{item(0, 1), item(0, 4), item(0, 5)}, item(0, 0), false},
		{[]api.Item{item(0, 8)}, item(0, 1), true},
		{[]api.Item{item(0, 9), item(-1, 0), item(3, 0), item(math.MinInt, math.MaxInt), item(0, -1)}, item(0, 1), true},
	} {
		if got, ok := p.victim(0, c.keep...); got != c.want || ok != c.ok {
			t.Errorf("%v: %v, %t, not %v, %t", c.keep, got, ok, c.want, c.ok)
		}
	}
}

// P13.2: going down is to the one with the least index, used last or not, in whichever cache; it isn't past a level of which nothing is cached.
func TestDown(t *testing.T) {
	p := pairOf(t, planOf(2, 16, 4, 1)) // 8 of the items to a cache
	p.put(0, item(2, 0), api.Line{})
	for _, x := range []api.Item{item(0, 15), item(0, 0)} {
		p.put(1, x, api.Line{})
		if got, _ := p.victim(0); got != item(2, 0) {
			t.Errorf("%v, though nothing is right beneath", got)
		}
	}
	for _, c := range []struct{ x, want api.Item }{
		{item(1, 3), item(0, 15)}, {item(0, 14), item(0, 14)}, {item(1, 2), item(1, 2)}, {item(0, 11), item(0, 11)}, {item(0, 9), item(0, 9)}, {item(1, 0), item(0, 0)},
	} {
		p.put(1, c.x, api.Line{})
		if got, ok := p.victim(0); got != c.want || !ok {
			t.Errorf("after %v: %v, not %v", c.x, got, c.want)
		}
	}
	p.check()
}

// P13.2: where all that is cached stands beneath what is cached, it does so still when Victims go, one by one; what is on the way of what is kept stays, and nothing else.
func TestVictimsGo(t *testing.T) {
	d := dice(7)
	for _, plan := range shapes() {
		for lists := range 4 {
			p := pairOf(t, plan)
			p.fill(&d)
			var keep []api.Item
			for range lists {
				keep = append(keep, item(0, d.below(plan.Pages)))
			}
			for bank := range plan.Banks {
				for x, ok := p.victim(bank, keep...); ok; x, ok = p.victim(bank, keep...) {
					if p.m.kept(x, keep) {
						t.Fatalf("%v: %v goes, with %v to keep", plan, x, keep)
					}
					p.drop(x)
					p.beneath()
				}
			}
			for _, x := range items(plan) {
				if _, stays := p.c.Get(x); stays && !p.m.kept(x, keep) {
					t.Fatalf("%v: %v stays, with %v to keep", plan, x, keep)
				}
			}
		}
	}
}

// fill caches items, each where the one above it is cached, in any of the caches, as long as there is room.
func (p *pair) fill(d *dice) {
	p.t.Helper()
	all := items(p.m.plan)
	slices.Reverse(all)
	for n, x := range all {
		if _, ok := p.c.Get(item(x.Level+1, x.Index/p.m.plan.Arity)); ok || n == 0 {
			p.put(d.below(p.m.plan.Banks), x, api.Line{})
		}
	}
	p.beneath()
}

// beneath looks whether all that is cached stands beneath what is cached.
func (p *pair) beneath() {
	p.t.Helper()
	for _, v := range p.c.All() {
		up, ok := p.m.above(v.Item)
		if _, there := p.c.Get(up); ok && !there {
			p.t.Fatalf("%v: nothing is cached above %v", p.m.plan, v.Item)
		}
	}
}

// P13.3, and the rules: what is done to an answer or to what was handed in changes nothing, and the caches' changes don't change an answer.
func TestNewMemory(t *testing.T) {
	plan := planOf(2, 4, 2, 0)
	p := pairOf(t, plan)
	for n, x := range []api.Item{item(2, 0), item(0, 3), item(1, 1), item(0, 0), item(1, 0)} {
		p.put(n%2, x, lineOf(n))
	}
	want := p.m.all()
	first, again := p.c.All(), p.c.All()
	clear(append(first[:2], api.Cached{}))
	first[0].Bytes[0] = 77
	if !slices.Equal(again, want) {
		t.Errorf("another answer has changed: %v", again)
	}
	p.check()
	p.update(item(0, 0), lineOf(50))
	p.drop(item(0, 3))
	p.move(item(1, 1), 1)
	p.put(0, item(0, 1), lineOf(51))
	if !slices.Equal(again, want) {
		t.Errorf("an answer has changed with the caches: %v", again)
	}
	keep := []api.Item{item(0, 0), item(9, 9), item(0, 0), item(0, 1)}
	p.victim(0, keep[:2]...)
	p.victim(1, keep[:2]...)
	if !slices.Equal(keep, []api.Item{item(0, 0), item(9, 9), item(0, 0), item(0, 1)}) {
		t.Errorf("what was to be kept has changed: %v", keep)
	}
	clear(keep)
	p.check()
}

// P13.1: caches know nothing of one another.
func TestApart(t *testing.T) {
	plan := planOf(1, 2, 2, 0)
	a, b := pairOf(t, plan), pairOf(t, plan)
	a.put(0, item(0, 0), lineOf(1))
	a.check()
	b.check()
}

// P2: the same calls give the same answers.
func TestSame(t *testing.T) {
	run := func() []api.Cached {
		plan := planOf(3, 13, 3, 1)
		p, d := pairOf(t, plan), dice(3)
		all := items(plan)
		var out []api.Cached
		for n := range 600 {
			x, bank := all[d.below(len(all))], d.below(3)
			if p.put(bank, x, lineOf(n)) == api.ErrBusy && n%2 == 0 {
				p.move(x, bank)
			}
			v, _ := p.victim(bank, x)
			if n%3 == 0 {
				p.drop(v)
			}
			out = append(append(out, api.Cached{Item: v}), p.c.All()...)
		}
		return out
	}
	if first := run(); !slices.Equal(first, run()) {
		t.Error("the second run isn't as the first one")
	}
}
