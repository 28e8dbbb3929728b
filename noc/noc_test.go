package noc_test

import (
	"cmp"
	"math"
	"slices"
	"testing"

	"bastion/api"
	"bastion/noc"
)

const (
	mostNodes = 16
	mostRoom  = 4096
)

// edges are numbers of which there is no node and no network.
var edges = []int{math.MinInt, math.MinInt + 1, -1 << 32, -17, -2, -1, 17, 1 << 32, math.MaxInt / 2, math.MaxInt - 1, math.MaxInt}

// message gives a message of a link each of whose other fields hangs on n.
func message(l api.Link, n int) api.Message {
	m := api.Message{Kind: n + 1, From: l.From, To: l.To, Line: -n, Has: n%2 == 0, Dirty: n%3 == 0}
	for i := range m.Data {
		m.Data[i] = byte(n + i*5)
	}
	return m
}

// model is a net by the words of the document: what each link has.
type model struct {
	nodes, room int
	links       map[api.Link][]api.Message
}

func modelOf(nodes, room int) *model {
	return &model{nodes, room, map[api.Link][]api.Message{}}
}

func (m *model) there(l api.Link) bool {
	return slices.Contains([]int{api.NetAsk, api.NetWant, api.NetAnswer}, l.Net) && 0 <= l.From && l.From < m.nodes && 0 <= l.To && l.To < m.nodes
}

func (m *model) send(net int, x api.Message) api.Errno {
	l := api.Link{Net: net, From: x.From, To: x.To}
	if !m.there(l) {
		return api.ErrRange
	}
	if len(m.links[l]) >= m.room {
		return api.ErrFull
	}
	m.links[l] = append(m.links[l], x)
	return api.OK
}

func (m *model) next(l api.Link) (api.Message, api.Errno) {
	if !m.there(l) {
		return api.Message{}, api.ErrRange
	}
	if len(m.links[l]) == 0 {
		return api.Message{}, api.ErrNone
	}
	return m.links[l][0], api.OK
}

func (m *model) take(l api.Link) (api.Message, api.Errno) {
	x, e := m.next(l)
	if e == api.OK {
		m.links[l] = m.links[l][1:]
	}
	return x, e
}

func (m *model) space(l api.Link) int {
	if !m.there(l) {
		return 0
	}
	return m.room - len(m.links[l])
}

// full gives the links that have messages, in order, and how many messages there are.
func (m *model) full() ([]api.Link, int) {
	var out []api.Link
	sum := 0
	for l, messages := range m.links {
		if len(messages) > 0 {
			out = append(out, l)
			sum += len(messages)
		}
	}
	slices.SortFunc(out, func(a, b api.Link) int {
		return cmp.Or(cmp.Compare(a.Net, b.Net), cmp.Compare(a.From, b.From), cmp.Compare(a.To, b.To))
	})
	return out, sum
}

// around gives all links of so many nodes, and, of each number, some that there aren't.
func around(nodes int) []api.Link {
	var out []api.Link
	for net := -1; net <= api.Nets; net++ {
		for from := -1; from <= nodes; from++ {
			for to := -1; to <= nodes; to++ {
				out = append(out, api.Link{Net: net, From: from, To: to})
			}
		}
	}
	return out
}

// checkLink holds what a net answers of a link against the model.
func checkLink(t *testing.T, n *noc.Net, m *model, l api.Link) {
	t.Helper()
	x, e := n.Next(l)
	if wantX, wantE := m.next(l); x != wantX || e != wantE {
		t.Fatalf("Next %v: %v, %v, not %v, %v", l, x, e, wantX, wantE)
	}
	if got, want := n.Room(l), m.space(l); got != want {
		t.Fatalf("Room %v: %d, not %d", l, got, want)
	}
	if got, want := n.All(l), m.links[l]; !slices.Equal(got, want) {
		t.Fatalf("All %v: %v, not %v", l, got, want)
	}
}

// checkSums holds what a net answers of all links against the model.
func checkSums(t *testing.T, n *noc.Net, m *model) {
	t.Helper()
	want, sum := m.full()
	if got := n.Links(); !slices.Equal(got, want) {
		t.Fatalf("Links: %v, not %v", got, want)
	}
	if got := n.Len(); got != sum {
		t.Fatalf("Len: %d, not %d", got, sum)
	}
}

// check holds all that a net answers against the model, and asks twice, as looking changes nothing.
func check(t *testing.T, n *noc.Net, m *model) {
	t.Helper()
	for range 2 {
		for _, l := range around(m.nodes) {
			checkLink(t, n, m, l)
		}
		checkSums(t, n, m)
	}
}

func send(t *testing.T, n *noc.Net, m *model, net int, x api.Message) {
	t.Helper()
	want := m.send(net, x)
	if e := n.Send(net, x); e != want {
		t.Fatalf("Send of %d, from %d to %d: %v, not %v", net, x.From, x.To, e, want)
	}
}

func take(t *testing.T, n *noc.Net, m *model, l api.Link) {
	t.Helper()
	wantX, wantE := m.take(l)
	if x, e := n.Take(l); x != wantX || e != wantE {
		t.Fatalf("Take %v: %v, %v, not %v, %v", l, x, e, wantX, wantE)
	}
}

// P10.1: the document's example: two messages from 0 to 1, of NetAsk and NetAnswer, are two links, and each may be taken first.
func TestExample(t *testing.T) {
	links := []api.Link{{Net: api.NetAsk, To: 1}, {Net: api.NetAnswer, To: 1}}
	for first := range 2 {
		n := noc.New(2, 1)
		for i, l := range links {
			if e := n.Send(l.Net, message(l, i)); e != api.OK {
				t.Fatal(e)
			}
		}
		if got := n.Links(); !slices.Equal(got, links) {
			t.Errorf("Links: %v", got)
		}
		for _, i := range []int{first, 1 - first} {
			if m, e := n.Take(links[i]); m != message(links[i], i) || e != api.OK {
				t.Errorf("Take: %v, %v", m, e)
			}
		}
	}
}

// P10.1: of every count of nodes, those below 0 and above 16 among them, there are the links that there must be, each for so many messages, and no others.
func TestNodes(t *testing.T) {
	counts := append([]int{18, 100}, edges...)
	for nodes := range 17 {
		counts = append(counts, nodes)
	}
	for _, told := range counts {
		nodes := min(max(told, 0), mostNodes)
		n, m := noc.New(told, 2), modelOf(nodes, 2)
		check(t, n, m)
		for i, l := range around(nodes) {
			send(t, n, m, l.Net, message(l, i))
		}
		check(t, n, m)
		if got := n.Len(); got != 3*nodes*nodes {
			t.Fatalf("%d nodes: %d links", told, got)
		}
	}
}

// P10.1: each link is a queue of its own with that room, which is at least 0 and at most 4,096.
func TestRoom(t *testing.T) {
	rooms := map[int]int{math.MinInt: 0, -1: 0, 0: 0, 1: 1, 2: 2, 5: 5, mostRoom - 1: mostRoom - 1, mostRoom: mostRoom, mostRoom + 1: mostRoom, math.MaxInt: mostRoom}
	for told, room := range rooms {
		n, m := noc.New(2, told), modelOf(2, room)
		check(t, n, m)
		l := api.Link{Net: api.NetWant, From: 1, To: 0}
		for i := range room {
			if e := n.Send(l.Net, message(l, i)); e != api.OK {
				t.Fatalf("room %d: %d: %v", told, i, e)
			}
			m.links[l] = append(m.links[l], message(l, i))
		}
		for range 2 {
			if e := n.Send(l.Net, message(l, -1)); e != api.ErrFull {
				t.Fatalf("room %d: one too many: %v", told, e)
			}
		}
		check(t, n, m)
		take(t, n, m, l)
		check(t, n, m)
	}
}

// P10.1: a net of the most nodes and the most room is no burden: many of them are soon made.
func TestGreatNets(t *testing.T) {
	for range 200 {
		n := noc.New(math.MaxInt, math.MaxInt)
		l := api.Link{Net: api.NetAnswer, From: 15, To: 15}
		if e := n.Send(l.Net, message(l, 1)); e != api.OK || n.Room(l) != mostRoom-1 || n.Room(api.Link{}) != mostRoom {
			t.Fatal(e, n.Room(l), n.Room(api.Link{}))
		}
	}
}

// P10.1: links that there aren't, with numbers that are far out: ErrRange, 0 and nothing, and nothing changes.
func TestNoLink(t *testing.T) {
	for _, nodes := range []int{0, 1, 2, 3, 16} {
		n, m := noc.New(nodes, 1), modelOf(nodes, 1)
		for i, l := range around(nodes) {
			send(t, n, m, l.Net, message(l, i))
		}
		for _, x := range append([]int{nodes, nodes + 1, api.Nets}, edges...) {
			for _, l := range []api.Link{{Net: x}, {From: x}, {To: x}, {Net: x, From: x, To: x}, {Net: 2, From: x, To: -x}, {Net: -x, From: x}} {
				if m.there(l) {
					continue
				}
				send(t, n, m, l.Net, message(l, 1))
				checkLink(t, n, m, l)
				take(t, n, m, l)
			}
		}
		check(t, n, m)
	}
}

// P10.1: ErrRange and no other error, where the link isn't there, though the room is 0, or there are no nodes.
func TestRangeAhead(t *testing.T) {
	for _, n := range []*noc.Net{noc.New(2, 0), noc.New(0, 0), noc.New(0, 3)} {
		l := api.Link{Net: api.NetAsk, From: 2}
		if e := n.Send(l.Net, message(l, 1)); e != api.ErrRange {
			t.Errorf("Send: %v", e)
		}
		if m, e := n.Take(l); m != (api.Message{}) || e != api.ErrRange {
			t.Errorf("Take: %v, %v", m, e)
		}
		if m, e := n.Next(l); m != (api.Message{}) || e != api.ErrRange {
			t.Errorf("Next: %v, %v", m, e)
		}
	}
}

// P10.1: messages of many links, sent and taken in a jumble, against the model.
func TestJumble(t *testing.T) {
	for nodes := 1; nodes <= 4; nodes++ {
		for room := range 4 {
			n, m := noc.New(nodes, room), modelOf(nodes, room)
			links := around(nodes)
			at := 0
			for step := range 3000 {
				at = (at*31 + step*7 + 11) % len(links)
				l := links[at]
				if (step/40+step)%3 > 0 {
					send(t, n, m, l.Net, message(l, step))
				} else {
					take(t, n, m, l)
				}
				checkLink(t, n, m, l)
				checkSums(t, n, m)
			}
			check(t, n, m)
		}
	}
}

// P10.1: messages of one link come in the order in which they were sent, whatever other links carry meanwhile.
func TestOrderOfOneLink(t *testing.T) {
	n, m := noc.New(3, 4), modelOf(3, 4)
	l := api.Link{Net: api.NetWant, From: 2, To: 1}
	for i := range 4 {
		for _, other := range around(3) {
			send(t, n, m, other.Net, message(other, i))
		}
	}
	for i := range 4 {
		if x, e := n.Take(l); x != message(l, i) || e != api.OK {
			t.Errorf("%d: %v, %v", i, x, e)
		}
	}
	if x, e := n.Take(l); (x != api.Message{}) || e != api.ErrNone {
		t.Errorf("behind the last one: %v, %v", x, e)
	}
}

// P10.1: a link whose messages are all taken isn't among the Links, and takes messages again.
func TestEmptied(t *testing.T) {
	n, m := noc.New(2, 2), modelOf(2, 2)
	l := api.Link{Net: api.NetAnswer, From: 1, To: 1}
	for i := range 5 {
		send(t, n, m, l.Net, message(l, i))
		check(t, n, m)
		take(t, n, m, l)
		check(t, n, m)
		take(t, n, m, l)
		check(t, n, m)
	}
}

// P10.1: nets know nothing of one another.
func TestApart(t *testing.T) {
	a, b := noc.New(2, 2), noc.New(2, 2)
	wantA, wantB := modelOf(2, 2), modelOf(2, 2)
	l := api.Link{Net: api.NetAsk, From: 1}
	send(t, a, wantA, l.Net, message(l, 1))
	check(t, a, wantA)
	check(t, b, wantB)
}

// P10.2: what is done to an answer changes neither the net nor another answer.
func TestNewMemory(t *testing.T) {
	n, m := noc.New(2, 3), modelOf(2, 3)
	for i, l := range slices.Concat(around(2), around(2)) {
		send(t, n, m, l.Net, message(l, i))
	}
	l := api.Link{Net: api.NetWant, To: 1}
	all, again := n.All(l), n.All(l)
	links, also := n.Links(), n.Links()
	want := slices.Clone(m.links[l])
	clear(all)
	clear(links)
	wantLinks, _ := m.full()
	if !slices.Equal(again, want) || !slices.Equal(also, wantLinks) {
		t.Errorf("another answer has changed: %v, %v", again, also)
	}
	check(t, n, m)
	take(t, n, m, l)
	take(t, n, m, l)
	if !slices.Equal(again, want) || !slices.Equal(also, wantLinks) {
		t.Errorf("an answer has changed with the net: %v, %v", again, also)
	}
}

// P2: the same calls give the same answers.
func TestSame(t *testing.T) {
	run := func() (messages []api.Message, links []api.Link) {
		n := noc.New(4, 2)
		for i := range 300 {
			l := api.Link{Net: i % 3, From: i * 7 % 4, To: i * 5 % 4}
			n.Send(l.Net, message(l, i))
			x, _ := n.Take(api.Link{Net: i * 5 % 3, From: i % 4, To: i * 3 % 4})
			messages = append(messages, x)
			links = append(links, n.Links()...)
		}
		return messages, links
	}
	messages, links := run()
	if again, also := run(); !slices.Equal(messages, again) || !slices.Equal(links, also) {
		t.Error("the second run isn't as the first one")
	}
}
