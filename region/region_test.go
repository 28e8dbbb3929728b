package region_test

import (
	"math"
	"testing"

	"bastion/api"
	"bastion/region"
)

// small gives the plan of the document's example.
func small() api.Plan {
	return api.Plan{
		Cores: 1, Banks: 1, Pages: 2, Lines: 2, Arity: 2, Minor: 1,
		Near: api.Shape{Sets: 1, Ways: 1}, Far: api.Shape{Sets: 1, Ways: 1}, Meta: 64, Queue: 1,
	}
}

// plans gives one of each Pages, Lines and Arity; their Banks go round.
func plans() []api.Plan {
	var out []api.Plan
	for pages := 1; pages <= 16; pages++ {
		for lines := 1; lines <= 8; lines++ {
			for arity := 2; arity <= 4; arity++ {
				p := small()
				p.Banks, p.Pages, p.Lines, p.Arity = 1+len(out)%4, pages, lines, arity
				out = append(out, p)
			}
		}
	}
	return out
}

// wrong gives plans that aren't right, some of them in what memory doesn't hang on.
func wrong() []api.Plan {
	out := []api.Plan{{}}
	for _, turn := range []func(*api.Plan){
		func(p *api.Plan) { p.Cores = 0 }, func(p *api.Plan) { p.Cores = 5 },
		func(p *api.Plan) { p.Banks = 0 }, func(p *api.Plan) { p.Banks = 5 },
		func(p *api.Plan) { p.Pages = 0 }, func(p *api.Plan) { p.Pages = 17 }, func(p *api.Plan) { p.Pages = math.MaxInt },
		func(p *api.Plan) { p.Lines = 0 }, func(p *api.Plan) { p.Lines = 9 }, func(p *api.Plan) { p.Lines = math.MinInt },
		func(p *api.Plan) { p.Arity = 1 }, func(p *api.Plan) { p.Arity = 0 }, func(p *api.Plan) { p.Arity = 5 },
		func(p *api.Plan) { p.Minor = 0 }, func(p *api.Plan) { p.Major = 1<<32 + 1 },
		func(p *api.Plan) { p.Near.Ways = 0 }, func(p *api.Plan) { p.Far.Sets = 5 },
		func(p *api.Plan) { p.Meta = 2 }, func(p *api.Plan) { p.Meta = 65 },
		func(p *api.Plan) { p.Queue = 0 }, func(p *api.Plan) { p.Kind = 2 },
	} {
		p := small()
		turn(&p)
		out = append(out, p)
	}
	return out
}

// tree gives the items in their order, and above each one its parent: each level is dealt to the next one, so many at a time.
func tree(p api.Plan) (items []api.Item, above map[api.Item]api.Item) {
	above = map[api.Item]api.Item{}
	width := p.Pages
	for level := 0; ; level++ {
		up := api.Item{Level: level + 1, Index: -1}
		for index := range width {
			x := api.Item{Level: level, Index: index}
			items = append(items, x)
			if index%p.Arity == 0 {
				up.Index++
			}
			above[x] = up
		}
		if width == 1 {
			delete(above, api.Item{Level: level})
			return items, above
		}
		width = up.Index + 1
	}
}

// laid gives what stands at each address, one behind the other.
func laid(p api.Plan) []api.Place {
	var out []api.Place
	lay := func(x api.Place, n int) {
		for x.Offset = range n {
			out = append(out, x)
		}
	}
	for line := range p.Pages * p.Lines {
		lay(api.Place{Kind: api.PlaceData, Line: line}, 32)
	}
	for line := range p.Pages * p.Lines {
		lay(api.Place{Kind: api.PlaceTag, Line: line}, 8)
	}
	items, _ := tree(p)
	for _, x := range items {
		lay(api.Place{Kind: api.PlaceItem, Item: x}, 32)
	}
	return out
}

// where gives the address of what stands at a place.
func where(p api.Plan, x api.Place) (int, bool) {
	switch x.Kind {
	case api.PlaceData:
		return region.Data(p, x.Line)
	case api.PlaceTag:
		return region.Tag(p, x.Line)
	}
	return region.Item(p, x.Item)
}

// P6.1: every address of every plan, there and back.
func TestEveryAddress(t *testing.T) {
	for _, p := range plans() {
		places := laid(p)
		if got := region.Size(p); got != len(places) {
			t.Fatalf("%v: Size %d, want %d", p, got, len(places))
		}
		for at, want := range places {
			if got, ok := region.Place(p, at); got != want || !ok {
				t.Fatalf("%v: Place(%d): %v, %v, want %v", p, at, got, ok, want)
			}
			if want.Offset > 0 {
				continue
			}
			if got, ok := where(p, want); got != at || !ok {
				t.Fatalf("%v: %v stands at %d, %v, want %d", p, want, got, ok, at)
			}
		}
		for _, at := range []int{math.MinInt, -32, -1, len(places), len(places) + 1, math.MaxInt} {
			if got, ok := region.Place(p, at); got != (api.Place{}) || ok {
				t.Fatalf("%v: Place(%d): %v, %v", p, at, got, ok)
			}
		}
	}
}

// P6.1: the document's example.
func TestExample(t *testing.T) {
	p := small()
	if got := region.Size(p); got != 256 {
		t.Errorf("Size %d", got)
	}
	for _, c := range []struct {
		at   int
		want api.Place
	}{
		{0, api.Place{Kind: api.PlaceData}}, {127, api.Place{Kind: api.PlaceData, Line: 3, Offset: 31}},
		{128, api.Place{Kind: api.PlaceTag}}, {159, api.Place{Kind: api.PlaceTag, Line: 3, Offset: 7}},
		{160, api.Place{Kind: api.PlaceItem}}, {192, api.Place{Kind: api.PlaceItem, Item: api.Item{Index: 1}}},
		{224, api.Place{Kind: api.PlaceItem, Item: api.Item{Level: 1}}},
		{255, api.Place{Kind: api.PlaceItem, Item: api.Item{Level: 1}, Offset: 31}},
	} {
		if got, ok := region.Place(p, c.at); got != c.want || !ok {
			t.Errorf("%d: %v, %v, want %v", c.at, got, ok, c.want)
		}
	}
}

// P6.1: pages and slots count lines through; banks take turns.
func TestPageAndBank(t *testing.T) {
	for _, p := range plans() {
		for p.Banks = 1; p.Banks <= 4; p.Banks++ {
			line := 0
			for page := range p.Pages {
				for slot := range p.Lines {
					gotPage, gotSlot, ok := region.Page(p, line)
					if gotPage != page || gotSlot != slot || !ok {
						t.Fatalf("%v: Page(%d): %d, %d, %v", p, line, gotPage, gotSlot, ok)
					}
					if bank, ok := region.Bank(p, line); bank != line-line/p.Banks*p.Banks || !ok {
						t.Fatalf("%v: Bank(%d): %d, %v", p, line, bank, ok)
					}
					line++
				}
			}
		}
	}
}

// P6.1: lines that there aren't.
func TestNoSuchLine(t *testing.T) {
	for _, p := range plans() {
		all := p.Pages * p.Lines
		for _, line := range []int{math.MinInt, -all, -1, all, all + 1, math.MaxInt/32 + 1, math.MaxInt} {
			noLine(t, p, line)
		}
	}
}

// noLine holds every call that takes a line against there being none.
func noLine(t *testing.T, p api.Plan, line int) {
	t.Helper()
	if at, ok := region.Data(p, line); at != 0 || ok {
		t.Errorf("%v: Data(%d): %d, %v", p, line, at, ok)
	}
	if at, ok := region.Tag(p, line); at != 0 || ok {
		t.Errorf("%v: Tag(%d): %d, %v", p, line, at, ok)
	}
	if page, slot, ok := region.Page(p, line); page != 0 || slot != 0 || ok {
		t.Errorf("%v: Page(%d): %d, %d, %v", p, line, page, slot, ok)
	}
	if bank, ok := region.Bank(p, line); bank != 0 || ok {
		t.Errorf("%v: Bank(%d): %d, %v", p, line, bank, ok)
	}
}

// P6.1: each item's parent, and which child it is: as many of the parent's come ahead.
func TestParent(t *testing.T) {
	for _, p := range plans() {
		items, above := tree(p)
		children := map[api.Item]int{}
		for _, x := range items {
			want, has := above[x]
			up, child, ok := region.Parent(p, x)
			if up != want || ok != has || child != children[want] {
				t.Fatalf("%v: Parent(%v): %v, %d, %v, want %v, %d", p, x, up, child, ok, want, children[want])
			}
			if has {
				children[want]++
			}
		}
	}
}

// P6.1: items that there aren't.
func TestNoSuchItem(t *testing.T) {
	for _, p := range plans() {
		items, _ := tree(p)
		there := map[api.Item]int{}
		for _, x := range items {
			there[x]++
		}
		for level := -2; level < 8; level++ {
			for index := -2; index < 19; index++ {
				if x := (api.Item{Level: level, Index: index}); there[x] == 0 {
					noItem(t, p, x)
				}
			}
		}
		for _, x := range []api.Item{
			{Level: math.MinInt}, {Level: math.MaxInt}, {Index: math.MinInt}, {Index: math.MaxInt},
			{Index: math.MaxInt/32 + 1}, {Level: math.MaxInt, Index: math.MaxInt}, {Level: math.MinInt, Index: math.MinInt},
		} {
			noItem(t, p, x)
		}
	}
}

// noItem holds every call that takes an item against there being none.
func noItem(t *testing.T, p api.Plan, x api.Item) {
	t.Helper()
	if at, ok := region.Item(p, x); at != 0 || ok {
		t.Errorf("%v: Item(%v): %d, %v", p, x, at, ok)
	}
	if up, child, ok := region.Parent(p, x); up != (api.Item{}) || child != 0 || ok {
		t.Errorf("%v: Parent(%v): %v, %d, %v", p, x, up, child, ok)
	}
}

// P6.1, P6.2: of a plan that isn't right there is nothing.
func TestWrongPlans(t *testing.T) {
	for _, p := range wrong() {
		if n := region.Size(p); n != 0 {
			t.Errorf("%v: Size %d", p, n)
		}
		for _, v := range []int{math.MinInt, -1, 0, 1, 31, math.MaxInt} {
			noLine(t, p, v)
			noItem(t, p, api.Item{Index: v})
			noItem(t, p, api.Item{Level: v})
			if x, ok := region.Place(p, v); x != (api.Place{}) || ok {
				t.Errorf("%v: Place(%d): %v, %v", p, v, x, ok)
			}
			for n := range 10 {
				if line, offset, e := region.Line(p, v, n); line != 0 || offset != 0 || e != api.ErrConfig {
					t.Errorf("%v: Line(%d, %d): %d, %d, %v", p, v, n, line, offset, e)
				}
			}
		}
	}
}

// P6.2: every address, and those about them, of all lengths.
func TestLine(t *testing.T) {
	for _, p := range plans() {
		data := 32 * p.Pages * p.Lines
		for at := -9; at < data+9; at++ {
			for _, n := range []int{1, 2, 4, 8} {
				line, offset, e := region.Line(p, at, n)
				want := api.Place{}
				code := api.OK
				switch {
				case at < 0 || at >= data:
					code = api.ErrRange
				case at/n*n != at:
					code = api.ErrAlign
				default:
					want.Line, want.Offset = at>>5, at&31
				}
				if line != want.Line || offset != want.Offset || e != code {
					t.Fatalf("%v: Line(%d, %d): %d, %d, %v, want %d, %d, %v", p, at, n, line, offset, e, want.Line, want.Offset, code)
				}
			}
		}
	}
}

// P6.2: of several errors the first one is told.
func TestLineErrors(t *testing.T) {
	p := small() // 128 bytes of data
	for _, c := range []struct {
		at, n int
		want  api.Errno
	}{
		{0, 0, api.ErrArg}, {0, -1, api.ErrArg}, {0, -8, api.ErrArg}, {0, 3, api.ErrArg}, {0, 5, api.ErrArg}, {0, 6, api.ErrArg}, {0, 7, api.ErrArg},
		{0, 9, api.ErrArg}, {0, 16, api.ErrArg}, {0, 32, api.ErrArg}, {0, math.MaxInt, api.ErrArg}, {0, math.MinInt, api.ErrArg},
		{-1, 3, api.ErrArg}, {128, 0, api.ErrArg}, {math.MaxInt, 16, api.ErrArg}, {1, 3, api.ErrArg},
		{-1, 1, api.ErrRange}, {-1, 8, api.ErrRange}, {-8, 8, api.ErrRange}, {math.MinInt, 8, api.ErrRange},
		{128, 1, api.ErrRange}, {128, 8, api.ErrRange}, {129, 2, api.ErrRange}, {160, 4, api.ErrRange}, {math.MaxInt, 8, api.ErrRange},
		{127, 2, api.ErrAlign}, {126, 4, api.ErrAlign}, {124, 8, api.ErrAlign}, {1, 8, api.ErrAlign}, {33, 2, api.ErrAlign},
		{127, 1, api.OK}, {126, 2, api.OK}, {124, 4, api.OK}, {120, 8, api.OK}, {0, 8, api.OK},
	} {
		line, offset, e := region.Line(p, c.at, c.n)
		if e != c.want || e != api.OK && (line != 0 || offset != 0) {
			t.Errorf("Line(%d, %d): %d, %d, %v, want %v", c.at, c.n, line, offset, e, c.want)
		}
	}
}
