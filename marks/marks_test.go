package marks_test

import (
	"bytes"
	"math"
	"testing"

	"bastion/api"
	"bastion/marks"
)

// P4.1: of several marks with a tag the first one is told, whichever came between.
func TestFirst(t *testing.T) {
	l := marks.New()
	for i, m := range []struct {
		message string
		tag     uint64
		first   int
	}{{"a", 7, 1}, {"b", 0, 2}, {"c", 7, 1}, {"d", math.MaxUint64, 4}, {"e", 7, 1}, {"f", 0, 2}, {"", 7, 1}} {
		if had := l.First(m.tag); had != 0 && m.first == i+1 || had == 0 && m.first != i+1 {
			t.Errorf("%q: ahead of it the first is %d", m.message, had)
		}
		l.Add([]byte(m.message), m.tag)
		if l.First(m.tag) != m.first || l.Find([]byte(m.message)) != i+1 || l.Len() != i+1 {
			t.Errorf("%q: first %d, number %d of %d", m.message, l.First(m.tag), l.Find([]byte(m.message)), l.Len())
		}
	}
	if l.First(8) != 0 || l.Find([]byte("g")) != 0 {
		t.Error("a tag, and a message, that no mark has")
	}
}

// P4.1: a message has one mark, the one that it got first.
func TestAddTwice(t *testing.T) {
	l := marks.New()
	l.Add(nil, 5)
	l.Add([]byte("a"), 6)
	l.Add([]byte{}, 9)
	if l.Len() != 2 || l.Find(nil) != 1 || l.At(1).Tag != 5 || l.First(9) != 0 || l.First(5) != 1 {
		t.Errorf("%d marks, the first has the tag %d", l.Len(), l.At(1).Tag)
	}
}

// P1: any number is asked for.
func TestAt(t *testing.T) {
	l := marks.New()
	l.Add([]byte("a"), 6)
	l.Add([]byte("b"), 5)
	for _, number := range []int{math.MinInt, -1, 0, 3, math.MaxInt} {
		if m := l.At(number); len(m.Message) != 0 || m.Tag != 0 {
			t.Errorf("%d: %v", number, m)
		}
	}
	for i, want := range []api.Mark{{Message: []byte("a"), Tag: 6}, {Message: []byte("b"), Tag: 5}} {
		if m := l.At(i + 1); !bytes.Equal(m.Message, want.Message) || m.Tag != want.Tag {
			t.Errorf("%d: %v, want %v", i+1, m, want)
		}
	}
}

// P4.3: messages that are handed in, and given, aren't the list's own.
func TestNewMemory(t *testing.T) {
	l := marks.New()
	message := []byte("abc")
	l.Add(message, 1)
	message[0] = 'x'
	got := l.At(1)
	got.Message[1] = 'y'
	if string(message) != "xbc" || string(l.At(1).Message) != "abc" || l.Find([]byte("abc")) != 1 || l.Find(message) != 0 {
		t.Error("the list's message is changed")
	}
}
