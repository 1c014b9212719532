package lin

import (
	"slices"

	"latchgarth/api"
)

// none is got where there is no value: something was put in, or nothing was in.
const none = -1

// thing is an object of any kind: what is got when a value is put in, or added, and when something is taken out.
type thing interface {
	in(value int) int
	out() int
}

// fresh thing of a kind, with nothing in.
func fresh(kind int) thing {
	switch kind {
	case api.Count:
		return &count{}
	case api.Stack:
		return &stack{}
	}
	return &queue{}
}

// ask a thing what is got by an op.
func ask(t thing, op api.Op) int {
	if op.Kind == api.In {
		return t.in(op.Arg)
	}
	return t.out()
}

// count is what was added.
type count struct{ sum int }

// in adds a value, and gets what there was.
func (c *count) in(value int) int {
	before := c.sum
	c.sum += value
	return before
}

// out gets what there is, and takes nothing.
func (c *count) out() int { return c.sum }

// pile of values, as they were put in. Who embeds it is put into as a pile is, and says itself which value is taken out.
type pile struct{ values []int }

// in puts a value in, behind all others.
func (p *pile) in(value int) int {
	p.values = append(p.values, value)
	return none
}

// last is the place of what was put in last; there is no such place, if nothing is in.
func (p *pile) last() int { return len(p.values) - 1 }

// take out what is at a place; none, if nothing is in.
func (p *pile) take(place int) int {
	if len(p.values) == 0 {
		return none
	}
	value := p.values[place]
	p.values = slices.Delete(p.values, place, place+1)
	return value
}

// stack is a pile of which what was put in last is taken out.
type stack struct{ pile }

func (s *stack) out() int { return s.take(s.last()) }

// queue is a pile of which what was put in first is taken out.
type queue struct{ pile }

func (q *queue) out() int { return q.take(0) }
