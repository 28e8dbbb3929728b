package ring_test

import (
	"math"
	"slices"
	"testing"

	"bastion/api"
	"bastion/ring"
)

const most = 4096 // messages of a queue

// message gives a message each of whose fields hangs on n, so that no two are alike.
func message(n int) api.Message {
	m := api.Message{Kind: n + 1, From: -n, To: n * 3, Line: n ^ 5, Has: n%2 == 0, Dirty: n%3 == 0}
	for i := range m.Data {
		m.Data[i] = byte(n + i*7)
	}
	return m
}

// messages gives the messages from a number on, below another one.
func messages(from, below int) []api.Message {
	var out []api.Message
	for n := from; n < below; n++ {
		out = append(out, message(n))
	}
	return out
}

// check holds a queue against the messages that it must have, and asks twice, as looking changes nothing.
func check(t *testing.T, q *ring.Queue, room int, want []api.Message) {
	t.Helper()
	for range 2 {
		if got := q.Len(); got != len(want) {
			t.Fatalf("Len: %d, not %d", got, len(want))
		}
		if got := q.Room(); got != room-len(want) {
			t.Fatalf("Room: %d, not %d", got, room-len(want))
		}
		if got := q.All(); !slices.Equal(got, want) {
			t.Fatalf("All: %v, not %v", got, want)
		}
		m, e := q.First()
		if len(want) == 0 && (m != api.Message{} || e != api.ErrNone) {
			t.Fatalf("First of none: %v, %v", m, e)
		}
		if len(want) > 0 && (m != want[0] || e != api.OK) {
			t.Fatalf("First: %v, %v, not %v", m, e, want[0])
		}
	}
}

// put puts a message into a queue, and behind the messages that it must have, if there is room.
func put(t *testing.T, q *ring.Queue, room int, want []api.Message, m api.Message) []api.Message {
	t.Helper()
	e := q.Put(m)
	if len(want) >= room {
		if e != api.ErrFull {
			t.Fatalf("Put where there is no room: %v", e)
		}
		return want
	}
	if e != api.OK {
		t.Fatalf("Put: %v", e)
	}
	return append(slices.Clone(want), m)
}

// take takes a message from a queue, and from those that it must have.
func take(t *testing.T, q *ring.Queue, want []api.Message) []api.Message {
	t.Helper()
	m, e := q.Take()
	if len(want) == 0 {
		if (m != api.Message{}) || e != api.ErrNone {
			t.Fatalf("Take of none: %v, %v", m, e)
		}
		return want
	}
	if m != want[0] || e != api.OK {
		t.Fatalf("Take: %v, %v, not %v", m, e, want[0])
	}
	return want[1:]
}

// P9.1: the document's example.
func TestExample(t *testing.T) {
	q := ring.New(2)
	a, b, c := message(1), message(2), message(3)
	for i, want := range []api.Errno{api.OK, api.OK, api.ErrFull} {
		if e := q.Put([]api.Message{a, b, c}[i]); e != want {
			t.Errorf("Put %d: %v, not %v", i, e, want)
		}
	}
	if m, e := q.Take(); m != a || e != api.OK {
		t.Errorf("Take: %v, %v", m, e)
	}
}

// P9.1: a new queue has no messages, and room for so many as were told, at least 0 and at most 4,096.
func TestNewRoom(t *testing.T) {
	rooms := map[int]int{math.MinInt: 0, math.MinInt + 1: 0, -4096: 0, -2: 0, -1: 0, 0: 0, 1: 1, 2: 2, 3: 3, 4: 4, 100: 100,
		most - 1: most - 1, most: most, most + 1: most, 1 << 20: most, 1 << 32: most, math.MaxInt - 1: most, math.MaxInt: most}
	for told, room := range rooms {
		q := ring.New(told)
		check(t, q, room, nil)
		take(t, q, nil)
		check(t, q, room, nil)
	}
}

// P9.1: every run of puts and takes, of up to 10 of them, in queues of little room, asked for all that there is after each.
func TestEveryRun(t *testing.T) {
	for told := -1; told <= 4; told++ {
		room := max(told, 0)
		for run := range 1 << 10 {
			q, want := ring.New(told), []api.Message(nil)
			for step := range 10 {
				if run>>step&1 == 0 {
					want = put(t, q, room, want, message(step))
				} else {
					want = take(t, q, want)
				}
				check(t, q, room, want)
			}
		}
	}
}

// P9.1: the same runs, but nothing is looked at on the way: looking isn't what keeps the order.
func TestRunsUnseen(t *testing.T) {
	for room := range 5 {
		for run := range 1 << 12 {
			q, want := ring.New(room), []api.Message(nil)
			for step := range 12 {
				if run>>step&1 == 0 {
					want = put(t, q, room, want, message(step))
				} else {
					want = take(t, q, want)
				}
			}
			check(t, q, room, want)
		}
	}
}

// P9.1: a queue of the greatest room, and of more than that, takes 4,096 messages and no more, and gives them in order; then it takes as many again.
func TestGreatest(t *testing.T) {
	for _, told := range []int{most, most + 1, math.MaxInt} {
		q := ring.New(told)
		for round := range 2 {
			want := messages(round*most, (round+1)*most)
			for n, m := range want {
				if e := q.Put(m); e != api.OK || q.Len() != n+1 || q.Room() != most-n-1 {
					t.Fatalf("Put %d: %v, %d, %d", n, e, q.Len(), q.Room())
				}
			}
			if e := q.Put(message(-1)); e != api.ErrFull {
				t.Fatalf("Put of one too many: %v", e)
			}
			check(t, q, most, want)
			for range want {
				want = take(t, q, want)
			}
			check(t, q, most, nil)
		}
	}
}

// P9.1: messages go through a long queue that is never empty, and stand in order wherever its bytes go round.
func TestLongWay(t *testing.T) {
	const room = 37
	q, want := ring.New(room), []api.Message(nil)
	for n := range 2000 {
		want = put(t, q, room, want, message(n))
		if n%5 == 4 || len(want) > room-2 {
			want = take(t, q, want)
		}
		if n%11 == 0 {
			check(t, q, room, want)
		}
	}
}

// P9.1: messages may be alike, and zero ones are messages, too.
func TestAlike(t *testing.T) {
	q := ring.New(3)
	want := put(t, q, 3, nil, api.Message{})
	want = put(t, q, 3, want, api.Message{})
	want = put(t, q, 3, want, message(4))
	check(t, q, 3, want)
	want = take(t, q, want)
	check(t, q, 3, put(t, q, 3, want, message(4)))
}

// P9.1: fields are kept whatever they hold.
func TestWildMessages(t *testing.T) {
	var data api.Line
	for i := range data {
		data[i] = 255
	}
	wild := []api.Message{
		{Kind: math.MinInt, From: math.MaxInt, To: math.MinInt, Line: math.MaxInt, Has: true, Dirty: true, Data: data},
		{Kind: -1, From: -1, To: -1, Line: -1},
		{Dirty: true},
		{Has: true},
	}
	q, want := ring.New(4), []api.Message(nil)
	for _, m := range wild {
		want = put(t, q, 4, want, m)
	}
	check(t, q, 4, wild)
}

// P9.1: what is refused changes nothing, however often it is asked.
func TestRefusedChangesNothing(t *testing.T) {
	q := ring.New(2)
	for range 3 {
		take(t, q, nil)
		check(t, q, 2, nil)
	}
	want := put(t, q, 2, put(t, q, 2, nil, message(1)), message(2))
	for n := range 3 {
		put(t, q, 2, want, message(n+7))
		check(t, q, 2, want)
	}
}

// P9.1: queues know nothing of one another.
func TestApart(t *testing.T) {
	a, b := ring.New(2), ring.New(2)
	want := put(t, a, 2, nil, message(1))
	check(t, a, 2, want)
	check(t, b, 2, nil)
	put(t, b, 2, nil, message(2))
	check(t, a, 2, want)
}

// P9.2: what is done to an answer changes neither the queue nor another answer.
func TestNewMemory(t *testing.T) {
	q := ring.New(3)
	want := messages(1, 4)
	for _, m := range want {
		q.Put(m)
	}
	one, two := q.All(), q.All()
	one[0], one[2] = message(8), message(9)
	one = append(one[:1], message(7))
	if !slices.Equal(two, want) {
		t.Errorf("another answer has changed: %v", two)
	}
	check(t, q, 3, want)
	q.Take()
	q.Put(message(5))
	if !slices.Equal(two, want) {
		t.Errorf("an answer has changed with the queue: %v", two)
	}
}

// P2: the same calls give the same answers.
func TestSame(t *testing.T) {
	run := func() []api.Message {
		q := ring.New(5)
		var out []api.Message
		for n := range 40 {
			q.Put(message(n))
			if n%3 > 0 {
				m, _ := q.Take()
				out = append(out, m)
			}
			out = append(out, q.All()...)
		}
		return out
	}
	if first := run(); !slices.Equal(first, run()) {
		t.Error("the second run isn't as the first one")
	}
}
