package prog

import (
	"latchgarth/api"
)

// Where things stand in a state.
const (
	wordRow = maxHands    // the row behind those of the hands: the words
	next    = api.MaxRegs // in a hand's row, behind its registers: the number of its next line
	columns = max(api.MaxRegs+1, api.MaxWords)
)

// state of a program: a row for each hand, and one of words. It is an array, so that a state is copied when it is assigned, and none that was seen is changed by what comes behind it.
type state [maxHands + 1][columns]int

// step is the state when a hand has done its next line: the same one, if it has none left.
func (s state) step(p api.Prog, hand int) state {
	if s.done(p, hand) {
		return s
	}
	lines, own, words := p.Hands[hand], &s[hand], &s[wordRow]
	l := lines[own[next]]
	own[next]++
	switch l.Kind {
	case api.Put:
		own[l.Reg] = l.Value
	case api.Load:
		own[l.Reg] = words[l.Word]
	case api.Store:
		words[l.Word] = own[l.Reg]
	case api.Swap:
		own[l.Reg], words[l.Word] = words[l.Word], own[l.Reg]
	case api.Leave:
		if own[l.Reg] == 0 {
			// No further than the end: a hand that is done is so in one way only.
			own[next] = min(own[next]+l.Value, len(lines))
		}
	}
	return s
}

// done tells whether a hand has no line left.
func (s state) done(p api.Prog, hand int) bool { return s[hand][next] >= len(p.Hands[hand]) }

// finish is the state when, hand by hand, all lines that are left are done.
func (s state) finish(p api.Prog) state {
	for h := range p.Hands {
		for !s.done(p, h) {
			s = s.step(p, h)
		}
	}
	return s
}

// told are all registers, hand by hand, and behind them all words.
func (s state) told(p api.Prog) []int {
	out := make([]int, 0, len(p.Hands)*api.MaxRegs+p.Words)
	for h := range p.Hands {
		out = append(out, s[h][:api.MaxRegs]...)
	}
	return append(out, s[wordRow][:p.Words]...)
}
