package prog_test

import (
	"slices"
	"testing"

	"latchgarth/api"
	"latchgarth/prog"
)

// TestStateSteps: line by line, which one is next, and when all is done.
func TestStateSteps(t *testing.T) {
	p := program(1, hand(put(0, 7), leave(1, 2), fence(), fence()), hand(swap(0, 0)))
	var s prog.State
	for i, c := range []struct {
		hand int
		next api.Line
		left bool
	}{
		{0, put(0, 7), true},
		{1, swap(0, 0), true},
		{1, api.Line{}, false},
		{0, leave(1, 2), true},
	} {
		if s.Ended(p) {
			t.Errorf("step %d: ended", i)
		}
		if l, ok := s.Next(p, c.hand); l != c.next || ok != c.left {
			t.Errorf("step %d: got %v %v, want %v %v", i, l, ok, c.next, c.left)
		}
		s = s.Step(p, c.hand)
	}
	if !s.Ended(p) {
		t.Error("not ended")
	}
	if got := s.Told(p); !slices.Equal(got, []int{7, 0, 0, 0, 0}) {
		t.Errorf("got %v", got)
	}
}

// TestStateValue: a step changes no state that was there before, and a hand that is done gives the same state.
func TestStateValue(t *testing.T) {
	p := program(1, hand(put(0, 7), store(0, 0)), hand(leave(0, 5), fence()))
	var first prog.State
	stored := first.Step(p, 0).Step(p, 0)
	if first != (prog.State{}) || stored == first || stored.Step(p, 0) != stored {
		t.Errorf("got %v and %v", first, stored)
	}
	if stored.Ended(p) || !stored.Step(p, 1).Ended(p) || stored.Step(p, 1).Step(p, 1) != stored.Step(p, 1) {
		t.Errorf("behind %v comes %v", stored, stored.Step(p, 1))
	}
	if a, b := first.Step(p, 1).Step(p, 0).Step(p, 0), stored.Step(p, 1); a != b {
		t.Errorf("by another script: got %v and %v", a, b)
	}
}

// TestStateWords: words are handed out and taken in as they are; nothing else changes, nor the state that was there before.
func TestStateWords(t *testing.T) {
	p := program(4, hand(put(1, 3), store(1, 2)), hand(load(0, 3)), nil)
	s := prog.State{}.Step(p, 0).Step(p, 0)
	if got := s.Words(); got != [api.MaxWords]int{0, 0, 3, 0} {
		t.Errorf("got %v", got)
	}
	other := s.WithWords([api.MaxWords]int{5, 6, 7, 8})
	if got := other.Words(); got != [api.MaxWords]int{5, 6, 7, 8} {
		t.Errorf("got %v", got)
	}
	if got := other.Step(p, 1).Told(p); !slices.Equal(got, []int{0, 3, 8, 0, 0, 0, 5, 6, 7, 8}) {
		t.Errorf("got %v", got)
	}
	if other == s || other.WithWords(s.Words()) != s || s.Words() != [api.MaxWords]int{0, 0, 3, 0} {
		t.Errorf("got %v and %v", s, other)
	}
}

// TestStateTold: what is told is fresh.
func TestStateTold(t *testing.T) {
	p := program(2, hand(put(1, 3)))
	s := prog.State{}.Step(p, 0)
	one, other := s.Told(p), s.Told(p)
	for i := range one[:cap(one)] {
		one[:cap(one)][i] = -1
	}
	if !slices.Equal(other, []int{0, 3, 0, 0}) || !slices.Equal(s.Told(p), other) {
		t.Errorf("got %v and %v", other, s.Told(p))
	}
}
