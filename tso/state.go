package tso

import (
	"latchgarth/api"
	"latchgarth/prog"
)

// state of a program where what is stored waits: what is there for all, and what waits, hand by hand. Like a prog.State it is copied when it is assigned.
type state struct {
	there prog.State
	waits [prog.MaxHands]row
}

// step is the state when a hand has done its next line: the same one, if it has none left, or if it must wait for what it stored.
func (s state) step(p api.Prog, hand int) state {
	own := &s.waits[hand]
	l, ok := s.there.Next(p, hand)
	if !ok || own.many > 0 && (l.Kind == api.Swap || l.Kind == api.Fence) {
		return s
	}
	words := s.there.Words()
	s.there = s.there.WithWords(own.over(words)).Step(p, hand)
	if l.Kind == api.Swap {
		return s
	}
	if l.Kind == api.Store {
		own.put(l.Word, s.there.Words()[l.Word])
	}
	// What the hand saw is there for itself alone.
	s.there = s.there.WithWords(words)
	return s
}

// come is the state when what has waited longest of a hand has come: the same one, if nothing waits.
func (s state) come(hand int) state {
	if s.waits[hand].many > 0 {
		words := s.there.Words()
		first := s.waits[hand].take()
		words[first.word] = first.value
		s.there = s.there.WithWords(words)
	}
	return s
}

// ended tells whether no hand has a line left, and nothing waits.
func (s state) ended(p api.Prog) bool {
	return s.waits == [prog.MaxHands]row{} && s.there.Ended(p)
}
