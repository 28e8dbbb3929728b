package mac_test

import (
	"bytes"
	"encoding/binary"
	"math"
	"slices"
	"strconv"
	"testing"

	"bastion/api"
	"bastion/mac"
	"bastion/sip"
)

var key = api.Block{0, 1, 2, 3, 4, 5, 6, 7, 8, 9, 10, 11, 12, 13, 14, 15}

// By the key above these two messages have one Sum; they were searched for.
var (
	elder = binary.LittleEndian.AppendUint64(nil, 0x6bb6be4e6493484f)
	twin  = binary.LittleEndian.AppendUint64(nil, 0x60a076bb4b635a90)
)

const twins = 0x48cfae328d19cf63

// open gives a book of a kind that there is.
func open(t *testing.T, kind int) *mac.Book {
	t.Helper()
	b, e := mac.New(kind, key)
	if e != api.OK || b == nil {
		t.Fatalf("kind %d: %v", kind, e)
	}
	return b
}

func sameMarks(a, b []api.Mark) bool {
	return slices.EqualFunc(a, b, func(x, y api.Mark) bool {
		return x.Tag == y.Tag && bytes.Equal(x.Message, y.Message)
	})
}

func sameBad(a, b []api.Bad) bool {
	return slices.EqualFunc(a, b, func(x, y api.Bad) bool {
		return x.Kind == y.Kind && x.Tag == y.Tag && bytes.Equal(x.Message, y.Message) && bytes.Equal(x.Other, y.Other)
	})
}

// hold holds a book against what it must tell.
func hold(t *testing.T, b *mac.Book, marks []api.Mark, bad []api.Bad) {
	t.Helper()
	if got := b.Marks(); !sameMarks(got, marks) {
		t.Fatalf("marks: %v, want %v", got, marks)
	}
	if got := b.Bad(); !sameBad(got, bad) {
		t.Fatalf("bad events: %v, want %v", got, bad)
	}
}

// P4.1: kinds that there aren't, and those that there are.
func TestNew(t *testing.T) {
	for _, kind := range []int{math.MinInt, -2, -1, 2, 3, 256, 1 << 32, math.MaxInt} {
		if b, e := mac.New(kind, key); b != nil || e != api.ErrArg {
			t.Errorf("kind %d: %v, %v", kind, b, e)
		}
	}
	for _, kind := range []int{api.KindIdeal, api.KindSip} {
		b := open(t, kind)
		hold(t, b, nil, nil)
		if b.Has(nil) || b.Has([]byte("a")) {
			t.Errorf("kind %d: a new book has marks", kind)
		}
	}
}

// P4.1: ideal tags are the marks' numbers, from 1 on, each message's once, whatever the key is.
func TestIdealTags(t *testing.T) {
	b := open(t, api.KindIdeal)
	var marks []api.Mark
	for round := range 3 {
		for i := range 300 {
			message := []byte(strconv.Itoa(i))
			if i == 0 {
				message = nil // no bytes are a message, too
			}
			if has := b.Has(message); has != (round > 0) {
				t.Fatalf("round %d, %q: Has says %v", round, message, has)
			}
			if got := b.Tag(message); got != uint64(i+1) {
				t.Fatalf("round %d, %q: %d, want %d", round, message, got, i+1)
			}
			if !b.Has(message) {
				t.Fatalf("%q has no mark", message)
			}
			if round == 0 {
				marks = append(marks, api.Mark{Message: message, Tag: uint64(i + 1)})
			}
		}
	}
	hold(t, b, marks, nil)
	other, _ := mac.New(api.KindIdeal, api.Block{9})
	if other.Tag([]byte("z")) != 1 {
		t.Error("the key counts")
	}
}

// P4.1: messages that begin alike, or have noughts, are unlike.
func TestMessagesAreUnlike(t *testing.T) {
	for _, kind := range []int{api.KindIdeal, api.KindSip} {
		b := open(t, kind)
		for i, message := range [][]byte{{}, {0}, {0, 0}, {0, 1}, {1}, {255}, {0xc3, 0x28}, {0xef, 0xbf, 0xbd}, {0x80}, {0x81}} {
			if b.Has(message) {
				t.Errorf("kind %d: %v is taken for another one", kind, message)
			}
			b.Tag(message)
			if len(b.Marks()) != i+1 {
				t.Errorf("kind %d: %v has no mark of its own", kind, message)
			}
		}
		if !b.Has(nil) || !b.Has([]byte{}) {
			t.Errorf("kind %d: nil and no bytes are one message", kind)
		}
	}
}

// P4.1: tags of the kind KindSip are the Sums by the key.
func TestSipTags(t *testing.T) {
	other := api.Block{200, 17}
	for _, k := range []api.Block{key, other, {}} {
		b, e := mac.New(api.KindSip, k)
		if e != api.OK {
			t.Fatal(e)
		}
		var marks []api.Mark
		for round := range 2 {
			for i := range 100 {
				message := bytes.Repeat([]byte{byte(i)}, i)
				want := sip.Sum(k, message)
				if got := b.Tag(message); got != want {
					t.Fatalf("round %d, %v: %x, want %x", round, message, got, want)
				}
				if round == 0 {
					marks = append(marks, api.Mark{Message: message, Tag: want})
				}
			}
		}
		hold(t, b, marks, nil)
	}
}

// P4.1: two messages with one tag are a bad event, once, when the second one gets its mark.
func TestTwins(t *testing.T) {
	for _, pair := range [][2][]byte{{elder, twin}, {twin, elder}} {
		b := open(t, api.KindSip)
		b.Tag([]byte("a"))
		if b.Tag(pair[0]) != twins {
			t.Fatal("the Sum is another one")
		}
		b.Tag(pair[0])
		b.Tag([]byte("b"))
		if len(b.Bad()) != 0 || b.Has(pair[1]) {
			t.Fatal("nothing bad was done yet")
		}
		if b.Tag(pair[1]) != twins || !b.Has(pair[1]) {
			t.Error("the twin has its Sum and its mark")
		}
		marks := []api.Mark{
			{Message: []byte("a"), Tag: sip.Sum(key, []byte("a"))},
			{Message: pair[0], Tag: twins},
			{Message: []byte("b"), Tag: sip.Sum(key, []byte("b"))},
			{Message: pair[1], Tag: twins},
		}
		bad := []api.Bad{{Kind: api.BadTwin, Message: pair[1], Other: pair[0], Tag: twins}}
		hold(t, b, marks, bad)
		b.Tag(pair[0])
		b.Tag(pair[1])
		if !b.Verify(pair[0], twins) || !b.Verify(pair[1], twins) {
			t.Error("each one's tag is right")
		}
		hold(t, b, marks, bad)
	}
}

// P4.1: by another key, and with ideal tags, they are no twins.
func TestNoTwins(t *testing.T) {
	ideal := open(t, api.KindIdeal)
	other, _ := mac.New(api.KindSip, api.Block{1})
	for _, b := range []*mac.Book{ideal, other} {
		b.Tag(elder)
		b.Tag(twin)
		if len(b.Bad()) != 0 || len(b.Marks()) != 2 {
			t.Errorf("%v", b.Bad())
		}
	}
}

// P4.2: ideal: a message's mark alone makes a tag right; nothing is changed.
func TestVerifyIdeal(t *testing.T) {
	b := open(t, api.KindIdeal)
	for _, tag := range []uint64{0, 1, 2, math.MaxUint64} {
		if b.Verify(nil, tag) || b.Verify([]byte("a"), tag) {
			t.Errorf("%d is taken for a message without a mark", tag)
		}
	}
	hold(t, b, nil, nil)
	messages := [][]byte{[]byte("a"), nil, []byte("b"), {0}}
	var marks []api.Mark
	for i, m := range messages {
		b.Tag(m)
		marks = append(marks, api.Mark{Message: m, Tag: uint64(i + 1)})
	}
	for i, m := range messages {
		for _, tag := range []uint64{0, 1, 2, 3, 4, 5, 1<<32 + 1, sip.Sum(key, m), math.MaxUint64} {
			if got, want := b.Verify(m, tag), tag == uint64(i+1); got != want {
				t.Errorf("Verify(%q, %d): %v, want %v", m, tag, got, want)
			}
		}
	}
	for tag := range uint64(7) {
		if b.Verify([]byte("c"), tag) {
			t.Errorf("%d is taken for a message without a mark", tag)
		}
	}
	hold(t, b, marks, nil)
	if b.Has([]byte("c")) || b.Tag([]byte("c")) != 5 {
		t.Error("Verify gave a mark")
	}
}

// P4.2: KindSip: the Sum alone is right; each time that it is told of a message without a mark it is a bad event, and the message has no mark then either.
func TestVerifySip(t *testing.T) {
	b := open(t, api.KindSip)
	a, z := []byte("a"), []byte("z")
	right := sip.Sum(key, z)
	marks := []api.Mark{{Message: a, Tag: b.Tag(a)}}
	for _, wrong := range []uint64{0, 1, right + 1, right ^ 1<<63, ^right, marks[0].Tag, math.MaxUint64} {
		if b.Verify(z, wrong) {
			t.Errorf("%x is taken", wrong)
		}
		if wrong != marks[0].Tag && b.Verify(a, wrong) {
			t.Errorf("%x is taken of a message with a mark", wrong)
		}
	}
	hold(t, b, marks, nil)
	if !b.Verify(a, marks[0].Tag) || len(b.Bad()) != 0 {
		t.Error("a message with a mark is not forged")
	}
	var bad []api.Bad
	for range 2 {
		if !b.Verify(z, right) || b.Has(z) {
			t.Error("the Sum is right, and gives no mark")
		}
		bad = append(bad, api.Bad{Kind: api.BadForged, Message: z, Tag: right})
		hold(t, b, marks, bad)
	}
	if !b.Verify(nil, sip.Sum(key, nil)) {
		t.Error("no bytes are a message, too")
	}
	bad = append(bad, api.Bad{Kind: api.BadForged, Tag: sip.Sum(key, nil)})
	hold(t, b, marks, bad)
	b.Tag(z)
	if !b.Verify(z, right) {
		t.Error("the Sum is right")
	}
	hold(t, b, append(marks, api.Mark{Message: z, Tag: right}), bad)
}

// P4.2, P4.1: that a twin was forged gives it no mark: its elder is no twin for it; bad events stand in their order.
func TestForgedAndTwins(t *testing.T) {
	b := open(t, api.KindSip)
	if !b.Verify(twin, twins) {
		t.Error("its Sum is right")
	}
	b.Tag(elder)
	bad := []api.Bad{{Kind: api.BadForged, Message: twin, Tag: twins}}
	hold(t, b, []api.Mark{{Message: elder, Tag: twins}}, bad)
	b.Verify(twin, twins)
	b.Tag(twin)
	b.Verify([]byte("q"), sip.Sum(key, []byte("q")))
	bad = append(bad,
		api.Bad{Kind: api.BadForged, Message: twin, Tag: twins},
		api.Bad{Kind: api.BadTwin, Message: twin, Other: elder, Tag: twins},
		api.Bad{Kind: api.BadForged, Message: []byte("q"), Tag: sip.Sum(key, []byte("q"))})
	hold(t, b, []api.Mark{{Message: elder, Tag: twins}, {Message: twin, Tag: twins}}, bad)
}

// P4.3: what is handed in isn't changed and isn't kept.
func TestKeepsNoArgument(t *testing.T) {
	for _, kind := range []int{api.KindIdeal, api.KindSip} {
		b := open(t, kind)
		room := []byte("message, and room behind it")
		m := room[:7]
		tag := b.Tag(m)
		b.Verify(m, tag)
		b.Has(m)
		if string(room) != "message, and room behind it" {
			t.Fatal("what was handed in is changed")
		}
		m[0] = 'M'
		if b.Has(m) || !b.Has([]byte("message")) || b.Tag([]byte("message")) != tag {
			t.Error("what was handed in is kept")
		}
		hold(t, b, []api.Mark{{Message: []byte("message"), Tag: tag}}, nil)
	}
	b := open(t, api.KindSip)
	first, second, forged := bytes.Clone(elder), bytes.Clone(twin), []byte("forged")
	b.Tag(first)
	b.Tag(second)
	b.Verify(forged, sip.Sum(key, forged))
	for _, m := range [][]byte{first, second, forged} {
		clear(m)
	}
	hold(t, b, []api.Mark{{Message: elder, Tag: twins}, {Message: twin, Tag: twins}}, []api.Bad{
		{Kind: api.BadTwin, Message: twin, Other: elder, Tag: twins},
		{Kind: api.BadForged, Message: []byte("forged"), Tag: sip.Sum(key, []byte("forged"))}})
}

// spoil changes every byte of a message, and of the room behind it.
func spoil(m []byte) {
	m = m[:cap(m)]
	for i := range m {
		m[i] ^= 0x55
	}
}

// P4.3: answers are new memory, of which no two lists share any.
func TestAnswersAreNewMemory(t *testing.T) {
	b := open(t, api.KindSip)
	b.Tag(elder)
	b.Tag(twin)
	b.Verify([]byte("z"), sip.Sum(key, []byte("z")))
	marks, bad := b.Marks(), b.Bad()
	otherMarks, otherBad := b.Marks(), b.Bad()
	spoil(marks[0].Message)
	if !bytes.Equal(marks[1].Message, twin) {
		t.Error("two marks share memory")
	}
	spoil(marks[1].Message)
	spoil(bad[0].Message)
	if !bytes.Equal(bad[0].Other, elder) || string(bad[1].Message) != "z" {
		t.Error("lists of an event share memory")
	}
	spoil(bad[0].Other)
	spoil(bad[1].Message)
	spoil(bad[1].Other)
	marks[0].Tag, bad[0].Kind = 0, 0
	marks, bad = append(marks[:1], api.Mark{}), append(bad[:1], api.Bad{})
	wantMarks := []api.Mark{{Message: elder, Tag: twins}, {Message: twin, Tag: twins}}
	wantBad := []api.Bad{{Kind: api.BadTwin, Message: twin, Other: elder, Tag: twins}, {Kind: api.BadForged, Message: []byte("z"), Tag: sip.Sum(key, []byte("z"))}}
	hold(t, b, wantMarks, wantBad)
	if !sameMarks(otherMarks, wantMarks) || !sameBad(otherBad, wantBad) {
		t.Error("two answers share memory")
	}
	if len(marks) != 2 || len(bad) != 2 || !b.Has(elder) || !b.Has(twin) {
		t.Error("an answer is the book's own")
	}
}

// P2: books know nothing of one another; the same calls give the same answers; asking changes nothing.
func TestSameAnswers(t *testing.T) {
	for _, kind := range []int{api.KindIdeal, api.KindSip} {
		quiet, asked, other := open(t, kind), open(t, kind), open(t, kind)
		for i := range 60 {
			m := []byte(strconv.Itoa(i * i % 37))
			other.Tag([]byte(strconv.Itoa(-i)))
			asked.Has(m)
			asked.Marks()
			asked.Bad()
			asked.Verify(m, 12345)
			if quiet.Tag(m) != asked.Tag(m) {
				t.Fatalf("kind %d: %q has two tags", kind, m)
			}
		}
		hold(t, asked, quiet.Marks(), quiet.Bad())
	}
}
