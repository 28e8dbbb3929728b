// Package marks keeps messages that were given tags, in their order, and finds them by a message and by a tag. Package mac's books are made of it.
package marks

import "bastion/api"

// mark has the message as a text: so it and the map of numbers share one copy, which nothing changes.
type mark struct {
	message string
	tag     uint64
}

// List is marks in their order, each message once. They are numbered from 1 on.
type List struct {
	marks   []mark
	numbers map[string]int // by messages
	firsts  map[uint64]int // by tags: the number of the first mark that has it
}

// New gives a list without marks.
func New() *List {
	return &List{numbers: map[string]int{}, firsts: map[uint64]int{}}
}

// Len tells how many marks there are.
func (l *List) Len() int { return len(l.marks) }

// Find gives the number of a message's mark, and 0, if it has none.
func (l *List) Find(message []byte) int { return l.numbers[string(message)] }

// First gives the number of the first mark with a tag, and 0, if none has it.
func (l *List) First(tag uint64) int { return l.firsts[tag] }

// Add gives a message a mark behind the others; one that has a mark keeps that.
func (l *List) Add(message []byte, tag uint64) {
	if l.Find(message) > 0 {
		return
	}
	text := string(message)
	l.marks = append(l.marks, mark{text, tag})
	l.numbers[text] = len(l.marks)
	if l.First(tag) == 0 {
		l.firsts[tag] = len(l.marks)
	}
}

// At gives the mark of a number, and a zero one, if there is none.
func (l *List) At(number int) api.Mark {
	if number < 1 || number > len(l.marks) {
		return api.Mark{}
	}
	m := l.marks[number-1]
	return api.Mark{Message: []byte(m.message), Tag: m.tag}
}
