package prog

import (
	"latchgarth/api"
)

// Where things stand in a state.
const (
	wordRow = MaxHands    // the row behind those of the hands: the words
	next    = api.MaxRegs // in a hand's row, behind its registers: the number of its next line
	columns = max(api.MaxRegs+1, api.MaxWords)
)

// State of a program: a row for each hand, and one of words. It is an array, so that a state is copied when it is assigned, and none that was seen is changed by what comes behind it.
//
// The zero State is that in which no line is done. What a State's methods are asked holds for a program that Check finds nothing wrong with, for its hands, and for states that come of its lines.
type State [MaxHands + 1][columns]int

// Next is the line that a hand does next; false, if it has none left.
func (s State) Next(p api.Prog, hand int) (api.Line, bool) {
	lines, at := p.Hands[hand], s[hand][next]
	if at >= len(lines) {
		return api.Line{}, false
	}
	return lines[at], true
}

// Step is the state when a hand has done its next line: the same one, if it has none left.
func (s State) Step(p api.Prog, hand int) State {
	l, ok := s.Next(p, hand)
	if !ok {
		return s
	}
	own, words := &s[hand], &s[wordRow]
	own[next]++
	switch l.Kind {
	case api.Put:
		own[l.Reg] = l.Value
	case api.Load:
		own[l.Reg] = words[l.Word]
	case api.Store:
		words[l.Word] = own[l.Reg]
	case api.Swap:
		own[l.Reg], words[l.Word] = words[l.Word], own[l.Reg]
	case api.Leave:
		if own[l.Reg] == 0 {
			// No further than the end: a hand that is done is so in one way only.
			own[next] = min(own[next]+l.Value, len(p.Hands[hand]))
		}
	}
	return s
}

// Ended tells whether no hand has a line left.
func (s State) Ended(p api.Prog) bool {
	for h := range p.Hands {
		if _, ok := s.Next(p, h); ok {
			return false
		}
	}
	return true
}

// Told are all registers, hand by hand, and behind them all words.
func (s State) Told(p api.Prog) []int {
	out := make([]int, 0, len(p.Hands)*api.MaxRegs+p.Words)
	for h := range p.Hands {
		out = append(out, s[h][:api.MaxRegs]...)
	}
	return append(out, s[wordRow][:p.Words]...)
}

// Words are all words; behind those that the program has stand 0s.
func (s State) Words() [api.MaxWords]int { return [api.MaxWords]int(s[wordRow][:api.MaxWords]) }

// WithWords is the state with other words.
func (s State) WithWords(words [api.MaxWords]int) State {
	copy(s[wordRow][:], words[:])
	return s
}

// finish is the state when, hand by hand, all lines that are left are done.
func (s State) finish(p api.Prog) State {
	for h, lines := range p.Hands {
		for range lines {
			s = s.Step(p, h)
		}
	}
	return s
}
