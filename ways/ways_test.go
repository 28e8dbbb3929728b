package ways_test

import (
	"math"
	"slices"
	"strconv"
	"testing"

	"bastion/api"
	"bastion/ways"
)

const most = 64 // sets of a cache, and values of a set

// below are numbers that no value stands by.
var below = []int{-1, -2, -3, -63, -64, -65, -1 << 32, math.MinInt + 1, math.MinInt}

// model is a cache by the words of the document: the values by their numbers, and when each was used.
type model struct {
	sets, ways int
	values     map[int]string
	used       map[int]int
	time       int
}

func modelOf(s api.Shape) *model {
	return &model{inside(s.Sets), inside(s.Ways), map[int]string{}, map[int]int{}, 0}
}

func inside(n int) int {
	if n < 1 {
		return 1
	}
	if n > most {
		return most
	}
	return n
}

func (m *model) use(key int) {
	m.time++
	m.used[key] = m.time
}

func (m *model) has(key int) bool {
	_, ok := m.values[key]
	return ok
}

func (m *model) oldest(key int) []int {
	var out []int
	for k := range m.values {
		if key >= 0 && k%m.sets == key%m.sets {
			out = append(out, k)
		}
	}
	slices.SortFunc(out, func(a, b int) int { return m.used[a] - m.used[b] })
	return out
}

func (m *model) keys() []int {
	var out []int
	for k := range m.values {
		out = append(out, k)
	}
	slices.Sort(out)
	return out
}

func (m *model) set(key int, v string) api.Errno {
	if key < 0 {
		return api.ErrArg
	}
	if !m.has(key) && len(m.oldest(key)) == m.ways {
		return api.ErrFull
	}
	m.values[key] = v
	m.use(key)
	return api.OK
}

func (m *model) room(key int) bool {
	return key >= 0 && (m.has(key) || len(m.oldest(key)) < m.ways)
}

func (m *model) drop(key int) bool {
	had := m.has(key)
	delete(m.values, key)
	delete(m.used, key)
	return had
}

func (m *model) touch(key int) bool {
	if !m.has(key) {
		return false
	}
	m.use(key)
	return true
}

// check holds what a cache answers of some keys against the model, and asks twice, as looking changes nothing.
func check(t *testing.T, c *ways.Cache[string], m *model, some []int) {
	t.Helper()
	for range 2 {
		for _, key := range some {
			if v, ok := c.Get(key); v != m.values[key] || ok != m.has(key) {
				t.Fatalf("Get %d: %q, %t, not %q, %t", key, v, ok, m.values[key], m.has(key))
			}
			if got, want := c.Room(key), m.room(key); got != want {
				t.Fatalf("Room %d: %t, not %t", key, got, want)
			}
			if got, want := c.Oldest(key), m.oldest(key); !slices.Equal(got, want) {
				t.Fatalf("Oldest %d: %v, not %v", key, got, want)
			}
		}
		if got, want := c.Keys(), m.keys(); !slices.Equal(got, want) {
			t.Fatalf("Keys: %v, not %v", got, want)
		}
	}
}

func set(t *testing.T, c *ways.Cache[string], m *model, key int, v string) {
	t.Helper()
	want := m.set(key, v)
	if got := c.Set(key, v); got != want {
		t.Fatalf("Set %d: %v, not %v", key, got, want)
	}
}

func drop(t *testing.T, c *ways.Cache[string], m *model, key int) {
	t.Helper()
	want := m.drop(key)
	if got := c.Drop(key); got != want {
		t.Fatalf("Drop %d: %t, not %t", key, got, want)
	}
}

func touch(t *testing.T, c *ways.Cache[string], m *model, key int) {
	t.Helper()
	want := m.touch(key)
	if got := c.Touch(key); got != want {
		t.Fatalf("Touch %d: %t, not %t", key, got, want)
	}
}

// upTo gives the numbers from 0 on, below another one.
func upTo(n int) []int {
	var out []int
	for i := range n {
		out = append(out, i)
	}
	return out
}

// P11.1, P11.2: the document's example.
func TestExample(t *testing.T) {
	c := ways.New[int](api.Shape{Sets: 1, Ways: 2})
	if a, b := c.Set(5, 50), c.Set(7, 70); a != api.OK || b != api.OK {
		t.Errorf("Set: %v, %v", a, b)
	}
	if got := c.Oldest(5); !slices.Equal(got, []int{5, 7}) {
		t.Errorf("Oldest ahead of Touch: %v", got)
	}
	if !c.Touch(5) {
		t.Error("Touch")
	}
	if got := c.Oldest(5); !slices.Equal(got, []int{7, 5}) {
		t.Errorf("Oldest: %v", got)
	}
	if e := c.Set(9, 90); e != api.ErrFull {
		t.Errorf("Set of a third one: %v", e)
	}
	if v, ok := c.Get(5); v != 50 || !ok {
		t.Errorf("Get: %d, %t", v, ok)
	}
}

// P11.1: a new cache has no values, and room for one by every number from 0 on.
func TestNew(t *testing.T) {
	for _, s := range []api.Shape{{}, {Sets: 1, Ways: 1}, {Sets: 3, Ways: 5}, {Sets: 64, Ways: 64}, {Sets: -7, Ways: 1000}} {
		c := ways.New[string](s)
		some := slices.Concat(upTo(130), below, []int{1 << 32, math.MaxInt - 1, math.MaxInt})
		check(t, c, modelOf(s), some)
		for _, key := range some {
			drop(t, c, modelOf(s), key)
			touch(t, c, modelOf(s), key)
		}
		check(t, c, modelOf(s), some)
	}
}

// P11.1: of every shape, those below 1 and above 64 among them, there are the sets that there must be, each for so many values.
func TestShapes(t *testing.T) {
	counts := []int{math.MinInt, -65, -64, -1, 0, 1, 2, 3, 7, 63, 64, 65, 66, 128, 1 << 32, math.MaxInt}
	for _, sets := range counts {
		for _, count := range counts {
			s := api.Shape{Sets: sets, Ways: count}
			c, held := ways.New[int](s), inside(sets)*inside(count)
			for key := range held {
				if e := c.Set(key, key); e != api.OK {
					t.Fatalf("%v: Set %d: %v", s, key, e)
				}
			}
			for key := held; key < held+2*most; key++ {
				if e := c.Set(key, key); e != api.ErrFull || c.Room(key) {
					t.Fatalf("%v: Set %d: %v", s, key, e)
				}
			}
			if !slices.Equal(c.Keys(), upTo(held)) {
				t.Fatalf("%v: %d keys", s, len(c.Keys()))
			}
			for key := range inside(sets) {
				var want []int
				for i := range inside(count) {
					want = append(want, key+i*inside(sets))
				}
				if got := c.Oldest(key); !slices.Equal(got, want) {
					t.Fatalf("%v: Oldest %d: %v, not %v", s, key, got, want)
				}
			}
		}
	}
}

// P11.1, P11.2: every run of four sets, drops and touches of four numbers, in shapes where these are of one set and of several, asked for all that there is behind it.
func TestEveryRun(t *testing.T) {
	keys := []int{4, 0, 2, 3}
	some := append(upTo(6), -1, -2)
	for _, s := range []api.Shape{{Sets: 2, Ways: 2}, {Sets: 1, Ways: 3}, {Sets: 3, Ways: 1}} {
		for run := range 12 * 12 * 12 * 12 {
			c, m := ways.New[string](s), modelOf(s)
			for step, left := 0, run; step < 4; step, left = step+1, left/12 {
				key := keys[left%4]
				switch left / 4 % 3 {
				case 0:
					set(t, c, m, key, strconv.Itoa(step))
				case 1:
					drop(t, c, m, key)
				case 2:
					touch(t, c, m, key)
				}
			}
			check(t, c, m, some)
		}
	}
}

// P11.1, P11.2: a long jumble of calls on caches of many shapes, wrong numbers among them, against the model.
func TestJumble(t *testing.T) {
	for _, s := range []api.Shape{{Sets: 1, Ways: 1}, {Sets: 1, Ways: 4}, {Sets: 2, Ways: 3}, {Sets: 4, Ways: 2}, {Sets: 5, Ways: 7}, {Sets: 64, Ways: 1}} {
		c, m := ways.New[string](s), modelOf(s)
		numbers := 2*inside(s.Sets)*inside(s.Ways) + 3
		at := uint32(1)
		for step := range 6000 {
			at = at*1664525 + 1013904223
			key := int(at>>8)%numbers - 2
			switch at >> 4 % 8 {
			case 0:
				drop(t, c, m, key)
			case 1, 2:
				touch(t, c, m, key)
			default:
				set(t, c, m, key, strconv.Itoa(step))
			}
			check(t, c, m, []int{key, (step*7)%numbers - 2})
		}
	}
}

// P11.1: ErrArg, a false and nothing at numbers below 0, full set or not, and nothing changes.
func TestBelow(t *testing.T) {
	for _, s := range []api.Shape{{Sets: 1, Ways: 1}, {Sets: 1, Ways: 2}, {Sets: 3, Ways: 1}, {Sets: 64, Ways: 2}} {
		c, m := ways.New[string](s), modelOf(s)
		for key := range 70 {
			for _, wrong := range below {
				set(t, c, m, wrong, "no")
				drop(t, c, m, wrong)
				touch(t, c, m, wrong)
			}
			check(t, c, m, append([]int{key}, below...))
			set(t, c, m, key, "yes")
		}
	}
}

// P11.1: the greatest numbers are numbers like others.
func TestGreat(t *testing.T) {
	great := []int{math.MaxInt, math.MaxInt - 1, math.MaxInt - 2, math.MaxInt - 64, 1 << 62, 1<<62 + 64, 1 << 32, 1<<32 + 1, 1 << 31, 0}
	for _, s := range []api.Shape{{Sets: 1, Ways: 10}, {Sets: 1, Ways: 3}, {Sets: 2, Ways: 2}, {Sets: 7, Ways: 2}, {Sets: 64, Ways: 2}} {
		c, m := ways.New[string](s), modelOf(s)
		for i, key := range great {
			set(t, c, m, key, strconv.Itoa(i))
			touch(t, c, m, great[i/2])
			check(t, c, m, great)
		}
		drop(t, c, m, math.MaxInt)
		check(t, c, m, great)
	}
}

// P11.1: Set of a number that has a value gives it the new one, in a full set, too; it is used last, and the set has no more values than it had.
func TestSetAgain(t *testing.T) {
	s := api.Shape{Sets: 2, Ways: 3}
	c, m := ways.New[string](s), modelOf(s)
	for i, key := range []int{0, 2, 0, 4, 2, 2, 0, 1, 4, 6, 0} {
		set(t, c, m, key, strconv.Itoa(i))
		check(t, c, m, upTo(8))
	}
	if got := c.Oldest(8); !slices.Equal(got, []int{2, 4, 0}) {
		t.Errorf("Oldest: %v", got)
	}
	if v, _ := c.Get(0); v != "10" {
		t.Errorf("Get: %q", v)
	}
}

// P11.1: a value that comes back, after it was dropped, is used last; there is room for another one meanwhile.
func TestDropMakesRoom(t *testing.T) {
	s := api.Shape{Sets: 1, Ways: 3}
	c, m := ways.New[string](s), modelOf(s)
	for _, gone := range []int{0, 1, 2} {
		for key := range 3 {
			set(t, c, m, key, "old")
		}
		drop(t, c, m, gone)
		drop(t, c, m, gone)
		check(t, c, m, upTo(5))
		set(t, c, m, gone, "new")
		check(t, c, m, upTo(5))
		set(t, c, m, 4, "none")
		check(t, c, m, upTo(5))
	}
}

// P11.1: what is refused, or isn't there, changes nothing.
func TestRefusedChangesNothing(t *testing.T) {
	s := api.Shape{Sets: 2, Ways: 2}
	c, m := ways.New[string](s), modelOf(s)
	for key := range 4 {
		set(t, c, m, key, "a")
	}
	for key := 4; key < 9; key++ {
		set(t, c, m, key, "b")
		touch(t, c, m, key)
		drop(t, c, m, key)
		check(t, c, m, upTo(10))
	}
}

// P11.1: values are of any type, such as can't be held against one another among them; zero ones are values, too.
func TestTypes(t *testing.T) {
	s := api.Shape{Sets: 2, Ways: 2}
	zeros := ways.New[api.Near](s)
	zeros.Set(3, api.Near{})
	if v, ok := zeros.Get(3); v != (api.Near{}) || !ok || zeros.Drop(1) || !zeros.Touch(3) || !zeros.Drop(3) {
		t.Error("a zero value")
	}
	calls := ways.New[func() int](s)
	calls.Set(2, func() int { return 9 })
	if v, ok := calls.Get(2); !ok || v() != 9 {
		t.Error("a function")
	}
	if v, ok := calls.Get(0); ok || v != nil {
		t.Error("no function")
	}
	things := ways.New[any](s)
	for key, v := range []any{[]int{1}, nil, map[int]int{}, math.NaN()} {
		if e := things.Set(key, v); e != api.OK || !things.Touch(key) {
			t.Errorf("%v: %v", v, e)
		}
	}
	if v, ok := things.Get(1); v != nil || !ok || !slices.Equal(things.Keys(), upTo(4)) {
		t.Error("values of several types")
	}
}

// P11.1: caches know nothing of one another.
func TestApart(t *testing.T) {
	s := api.Shape{Sets: 1, Ways: 2}
	a, b, m := ways.New[string](s), ways.New[string](s), modelOf(s)
	set(t, a, m, 1, "a")
	check(t, a, m, upTo(3))
	check(t, b, modelOf(s), upTo(3))
}

// P11.3: what is done to an answer changes neither the cache nor another answer, and the cache's changes don't change an answer.
func TestNewMemory(t *testing.T) {
	s := api.Shape{Sets: 2, Ways: 4}
	c, m := ways.New[string](s), modelOf(s)
	for _, key := range []int{4, 1, 0, 2} {
		set(t, c, m, key, "a")
	}
	oldest, again := c.Oldest(0), c.Oldest(2)
	keys, also := c.Keys(), c.Keys()
	clear(append(oldest[:1], 7, 8, 9))
	clear(append(keys[:2], 7, 8))
	oldest[0], keys[0] = 100, 100
	if !slices.Equal(again, []int{4, 0, 2}) || !slices.Equal(also, []int{0, 1, 2, 4}) {
		t.Errorf("another answer has changed: %v, %v", again, also)
	}
	check(t, c, m, upTo(6))
	drop(t, c, m, 4)
	touch(t, c, m, 0)
	set(t, c, m, 6, "b")
	if !slices.Equal(again, []int{4, 0, 2}) || !slices.Equal(also, []int{0, 1, 2, 4}) {
		t.Errorf("an answer has changed with the cache: %v, %v", again, also)
	}
	check(t, c, m, upTo(8))
}

// P11.3: a value is a copy, on its way in and on its way out; only what it itself holds is shared.
func TestValuesAreCopies(t *testing.T) {
	c := ways.New[api.Near](api.Shape{Sets: 1, Ways: 2})
	line := api.Near{Line: 1, State: api.StateOwn, Data: api.Line{3, 4}}
	c.Set(1, line)
	line.Data[0] = 9
	got, _ := c.Get(1)
	got.Data[1] = 9
	if v, _ := c.Get(1); v != (api.Near{Line: 1, State: api.StateOwn, Data: api.Line{3, 4}}) {
		t.Errorf("the value has changed: %v", v)
	}
	held := ways.New[[]int](api.Shape{Sets: 1, Ways: 2})
	list := []int{1, 2}
	held.Set(0, list)
	list[0] = 5
	if v, _ := held.Get(0); !slices.Equal(v, []int{5, 2}) {
		t.Errorf("what a value holds isn't its own: %v", v)
	}
}

// P2: the same calls give the same answers.
func TestSame(t *testing.T) {
	run := func() []int {
		c := ways.New[int](api.Shape{Sets: 3, Ways: 4})
		var out []int
		for n := range 500 {
			out = append(out, int(c.Set(n*7%31, n)))
			c.Touch(n * 5 % 31)
			if n%3 == 0 {
				c.Drop(n * 11 % 31)
			}
			v, _ := c.Get(n % 31)
			out = append(append(append(out, v), c.Oldest(n)...), c.Keys()...)
		}
		return out
	}
	if first := run(); !slices.Equal(first, run()) {
		t.Error("the second run isn't as the first one")
	}
}
