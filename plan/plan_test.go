package plan_test

import (
	"math"
	"testing"

	"bastion/api"
	"bastion/plan"
)

// roomy gives a plan that is right, and stays so whatever the tree is made.
func roomy() api.Plan {
	return api.Plan{
		Cores: 2, Banks: 3, Pages: 6, Lines: 5, Arity: 3, Minor: 4, Major: 77,
		Near: api.Shape{Sets: 2, Ways: 3}, Far: api.Shape{Sets: 3, Ways: 2},
		Meta: 64, Queue: 3, Kind: api.KindSip,
		Key: api.Block{1, 2, 3}, Tag: api.Block{4, 15: 5},
	}
}

// field is a number of a plan that has bounds of its own.
type field struct {
	name        string
	of          func(*api.Plan) *int
	least, most int
}

func fields() []field {
	return []field{
		{"Cores", func(p *api.Plan) *int { return &p.Cores }, 1, 4},
		{"Banks", func(p *api.Plan) *int { return &p.Banks }, 1, 4},
		{"Pages", func(p *api.Plan) *int { return &p.Pages }, 1, 16},
		{"Lines", func(p *api.Plan) *int { return &p.Lines }, 1, 8},
		{"Arity", func(p *api.Plan) *int { return &p.Arity }, 2, 4},
		{"Minor", func(p *api.Plan) *int { return &p.Minor }, 1, 8},
		{"Near.Sets", func(p *api.Plan) *int { return &p.Near.Sets }, 1, 4},
		{"Near.Ways", func(p *api.Plan) *int { return &p.Near.Ways }, 1, 4},
		{"Far.Sets", func(p *api.Plan) *int { return &p.Far.Sets }, 1, 4},
		{"Far.Ways", func(p *api.Plan) *int { return &p.Far.Ways }, 1, 4},
		{"Queue", func(p *api.Plan) *int { return &p.Queue }, 1, 4},
	}
}

// shapesTree tells whether the tree's calls hang on a field.
func shapesTree(name string) bool {
	return name == "Pages" || name == "Lines" || name == "Arity" || name == "Banks"
}

// numbers gives those about the bounds of fields, and the greatest and least that there are.
func numbers() []int {
	out := []int{math.MinInt, math.MinInt + 1, math.MinInt + 2, -1 << 32, math.MaxInt, math.MaxInt - 1, math.MaxInt - 2, 1 << 32, 1<<32 + 2}
	for v := -40; v <= 70; v++ {
		out = append(out, v)
	}
	return out
}

// trees gives a plan of each Banks, Pages and Arity.
func trees() []api.Plan {
	var out []api.Plan
	for banks := 1; banks <= 4; banks++ {
		for pages := 1; pages <= 16; pages++ {
			for arity := 2; arity <= 4; arity++ {
				p := roomy()
				p.Banks, p.Pages, p.Arity = banks, pages, arity
				out = append(out, p)
			}
		}
	}
	return out
}

// widths gives how many items each level has: as many as there are powers of the arity in the pages, each begun one counted.
func widths(pages, arity int) []int {
	var out []int
	for span := 1; ; span *= arity {
		width := 0
		for first := 0; first < pages; first += span {
			width++
		}
		out = append(out, width)
		if width == 1 {
			return out
		}
	}
}

// P5.1: each number, alone, at its bounds and beyond.
func TestCheckBounds(t *testing.T) {
	for _, f := range fields() {
		for _, v := range numbers() {
			p := roomy()
			*f.of(&p) = v
			want := api.ErrConfig
			if v >= f.least && v <= f.most {
				want = api.OK
			}
			if got := plan.Check(p); got != want {
				t.Errorf("%s %d: %v, want %v", f.name, v, got, want)
			}
		}
	}
}

// P5.1: Major from 0 on, and the two kinds; any keys.
func TestCheckMajorAndKind(t *testing.T) {
	for major, want := range map[uint64]api.Errno{
		0: api.OK, 1: api.OK, 1<<32 - 1: api.OK, 1 << 32: api.OK,
		1<<32 + 1: api.ErrConfig, 1 << 33: api.ErrConfig, 1 << 63: api.ErrConfig, math.MaxUint64: api.ErrConfig,
	} {
		p := roomy()
		p.Major = major
		if got := plan.Check(p); got != want {
			t.Errorf("Major %d: %v, want %v", major, got, want)
		}
	}
	for _, kind := range numbers() {
		p := roomy()
		p.Kind = kind
		want := api.ErrConfig
		if kind == api.KindIdeal || kind == api.KindSip {
			want = api.OK
		}
		if got := plan.Check(p); got != want {
			t.Errorf("Kind %d: %v, want %v", kind, got, want)
		}
	}
	p := roomy()
	p.Key, p.Tag = api.Block{}, api.Block{255, 15: 255}
	if got := plan.Check(p); got != api.OK {
		t.Errorf("other keys: %v", got)
	}
	if got := plan.Check(api.Plan{}); got != api.ErrConfig {
		t.Errorf("the zero plan: %v", got)
	}
}

// P5.1: Meta from the Least on to 64, of every tree.
func TestCheckMeta(t *testing.T) {
	for _, p := range trees() {
		least := p.Banks*len(widths(p.Pages, p.Arity)) + 1
		for _, meta := range numbers() {
			p.Meta = meta
			want := api.ErrConfig
			if meta >= least && meta <= 64 {
				want = api.OK
			}
			if got := plan.Check(p); got != want {
				t.Fatalf("%d banks, %d pages, arity %d, Meta %d: %v, want %v", p.Banks, p.Pages, p.Arity, meta, got, want)
			}
		}
	}
}

// P5.1: levels, their widths and the Least of every tree; levels that there aren't.
func TestTree(t *testing.T) {
	for _, p := range trees() {
		want := widths(p.Pages, p.Arity)
		if got := plan.Levels(p); got != len(want) {
			t.Fatalf("%d pages, arity %d: %d levels, want %d", p.Pages, p.Arity, got, len(want))
		}
		for level, width := range want {
			if got := plan.Width(p, level); got != width {
				t.Errorf("%d pages, arity %d, level %d: %d, want %d", p.Pages, p.Arity, level, got, width)
			}
		}
		for _, level := range []int{math.MinInt, -2, -1, len(want), len(want) + 1, math.MaxInt} {
			if got := plan.Width(p, level); got != 0 {
				t.Errorf("%d pages, arity %d, level %d: %d, want 0", p.Pages, p.Arity, level, got)
			}
		}
		if got := plan.Least(p); got != p.Banks*len(want)+1 {
			t.Errorf("%d banks, %d levels: Least %d", p.Banks, len(want), got)
		}
	}
}

// P5.1: the document's example, and others written out.
func TestTreeExamples(t *testing.T) {
	for _, c := range []struct {
		pages, arity int
		want         []int
	}{
		{1, 2, []int{1}}, {1, 4, []int{1}}, {2, 2, []int{2, 1}}, {5, 2, []int{5, 3, 2, 1}},
		{9, 3, []int{9, 3, 1}}, {10, 3, []int{10, 4, 2, 1}}, {16, 2, []int{16, 8, 4, 2, 1}},
		{16, 4, []int{16, 4, 1}}, {13, 4, []int{13, 4, 1}}, {4, 4, []int{4, 1}}, {5, 4, []int{5, 2, 1}},
	} {
		p := api.Plan{Banks: 1, Pages: c.pages, Lines: 1, Arity: c.arity}
		if got := plan.Levels(p); got != len(c.want) {
			t.Errorf("%d pages, arity %d: %d levels", c.pages, c.arity, got)
		}
		for level, want := range c.want {
			if got := plan.Width(p, level); got != want {
				t.Errorf("%d pages, arity %d, level %d: %d, want %d", c.pages, c.arity, level, got, want)
			}
		}
	}
}

// P5.1: all lines.
func TestAll(t *testing.T) {
	for pages := 1; pages <= 16; pages++ {
		for lines := 1; lines <= 8; lines++ {
			p := roomy()
			p.Pages, p.Lines = pages, lines
			if got := plan.All(p); got != pages*lines {
				t.Errorf("%d pages of %d lines: %d", pages, lines, got)
			}
		}
	}
}

// P5.1: the tree's calls hang on Pages, Lines, Arity and Banks alone: 0, if one of these can't be, whatever else there is.
func TestTreeOfWrongPlans(t *testing.T) {
	for _, f := range fields() {
		for _, v := range numbers() {
			if v >= f.least && v <= f.most {
				continue
			}
			p := roomy()
			*f.of(&p) = v
			got := [5]int{plan.Levels(p), plan.Width(p, 0), plan.Width(p, 1), plan.All(p), plan.Least(p)}
			want := [5]int{3, 6, 2, 30, 10}
			if shapesTree(f.name) {
				want = [5]int{}
			}
			if got != want {
				t.Errorf("%s %d: %v, want %v", f.name, v, got, want)
			}
		}
	}
	p := roomy()
	p.Meta, p.Kind, p.Major = -5, 9, math.MaxUint64
	if plan.Levels(p) != 3 || plan.All(p) != 30 || plan.Least(p) != 10 || plan.Width(p, 2) != 1 {
		t.Error("Meta, Kind and Major count")
	}
	if z := (api.Plan{}); plan.Levels(z) != 0 || plan.Width(z, 0) != 0 || plan.All(z) != 0 || plan.Least(z) != 0 {
		t.Error("the zero plan has a tree")
	}
}

// fits gives what v is to be made: the one value that is as far above the least as v is above a multiple of how many values there are.
func fits(v, least, most int) int {
	if v >= least && v <= most {
		return v
	}
	n := most - least + 1
	for above := range n {
		if (v%n-above)%n == 0 { // v - above might go round
			return least + above
		}
	}
	panic("some number is as far off")
}

// P5.2: each number, alone.
func TestFitNumbers(t *testing.T) {
	for _, f := range fields() {
		for _, v := range numbers() {
			p := roomy()
			*f.of(&p) = v
			want := p
			*f.of(&want) = fits(v, f.least, f.most)
			want.Meta = plan.Least(want) // 64 leaves no rest
			if got := plan.Fit(p); got != want {
				t.Fatalf("%s %d: %v, want %v", f.name, v, got, want)
			}
		}
	}
}

// P5.2: some of them written out.
func TestFitExamples(t *testing.T) {
	for i, c := range []struct{ field, v, want int }{
		{0, 0, 1}, {0, 1, 1}, {0, 4, 4}, {0, 5, 2}, {0, 7, 4}, {0, 8, 1}, {0, -1, 4}, {0, -3, 2}, {0, -4, 1},
		{1, 6, 3}, {2, 0, 1}, {2, 16, 16}, {2, 17, 2}, {2, 32, 1}, {2, -1, 16}, {2, -15, 2}, {3, 9, 2}, {3, -1, 8},
		{4, 0, 2}, {4, 1, 3}, {4, 2, 2}, {4, 4, 4}, {4, 5, 4}, {4, 6, 2}, {4, -1, 4}, {4, -2, 3}, {4, -3, 2},
		{4, math.MinInt, 3}, {5, 10, 3}, {5, math.MinInt, 1}, {6, math.MaxInt, 4}, {10, -2, 3},
	} {
		f, p := fields()[c.field], roomy()
		*f.of(&p) = c.v
		q := plan.Fit(p)
		if got := *f.of(&q); got != c.want {
			t.Errorf("%d: %s %d: %d, want %d", i, f.name, c.v, got, c.want)
		}
	}
}

// P5.2: Meta is the Least of what is told, and the rest of what it was by 4.
func TestFitMeta(t *testing.T) {
	for _, p := range trees() {
		least := p.Banks*len(widths(p.Pages, p.Arity)) + 1
		for _, meta := range numbers() {
			p.Meta = meta
			want := p
			want.Meta = least + int(uint(meta)&3)
			if got := plan.Fit(p); got != want {
				t.Fatalf("%v: %v", p, got)
			}
		}
	}
	p := plan.Fit(api.Plan{Banks: 6, Pages: 24, Lines: -1, Arity: 0, Meta: -1}) // 3 banks, 9 pages, arity 2: 9, 5, 3, 2, 1
	if p.Meta != 3*5+1+3 {
		t.Errorf("Meta %d of %v", p.Meta, p)
	}
}

// P5.2: Major is bounded, Kind is odd or even, keys are any.
func TestFitMajorKindKeys(t *testing.T) {
	for _, major := range []uint64{0, 1, 1<<32 - 1, 1 << 32, 1<<32 + 1, 1 << 63, math.MaxUint64} {
		p := roomy()
		p.Major = major
		if got := plan.Fit(p).Major; got != min(major, 1<<32) {
			t.Errorf("Major %d: %d", major, got)
		}
	}
	for _, kind := range numbers() {
		p := roomy()
		p.Kind = kind
		want := api.KindIdeal
		if uint(kind)&1 == 1 {
			want = api.KindSip
		}
		if got := plan.Fit(p).Kind; got != want {
			t.Errorf("Kind %d: %d, want %d", kind, got, want)
		}
	}
	p := roomy()
	if q := plan.Fit(p); q.Key != p.Key || q.Tag != p.Tag {
		t.Error("the keys are changed")
	}
}

// P5.2: of any plan Fit is right; of one that is right it changes Meta at most.
func TestFitIsRight(t *testing.T) {
	state := uint64(1)
	next := func() uint64 {
		state = state*6364136223846793005 + 1442695040888963407
		return state >> 33 * (state >> 60)
	}
	if q := plan.Fit(api.Plan{}); plan.Check(q) != api.OK {
		t.Errorf("of the zero plan: %v", q)
	}
	for range 20000 {
		p := api.Plan{Major: next() * next(), Meta: int(next()) - 1<<33, Kind: int(next()) - 1<<32}
		for _, f := range fields() {
			*f.of(&p) = int(next()>>(next()%40)) - int(next()%5)
		}
		q := plan.Fit(p)
		if e := plan.Check(q); e != api.OK {
			t.Fatalf("%v: %v is %v", p, q, e)
		}
		if again := plan.Fit(q); again.Meta != plan.Least(q)+q.Meta%4 || !likeButMeta(again, q) {
			t.Fatalf("%v is right, but its Fit is %v", q, again)
		}
	}
}

// P5.2: a plan that is right, and whose Meta is what Fit tells, is its own Fit: so are all up to 3 above a Least that 4 divides.
func TestFitOfItself(t *testing.T) {
	for meta := 4; meta < 8; meta++ { // 1 bank, 3 levels: the Least is 4
		p := roomy()
		p.Banks, p.Meta = 1, meta
		if got := plan.Fit(p); got != p {
			t.Errorf("%v: %v", p, got)
		}
	}
}

func likeButMeta(p, q api.Plan) bool {
	p.Meta = q.Meta
	return p == q
}
