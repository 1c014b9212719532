// Package prog has little programs of several hands.
package prog

import (
	"latchgarth/api"
)

// MaxHands of a program; api.MaxHands is another bound, that of locks.
const MaxHands = 3

// Check tells what is wrong with a program.
func Check(p api.Prog) error {
	switch {
	case !within(p.Words, 1, api.MaxWords):
		return api.ErrRange
	case len(p.Hands) == 0:
		return api.ErrNone
	case len(p.Hands) > MaxHands:
		return api.ErrFull
	}
	for _, lines := range p.Hands {
		if len(lines) > api.MaxLines {
			return api.ErrFull
		}
		for _, l := range lines {
			if !fits(l, p.Words) {
				return api.ErrRange
			}
		}
	}
	return nil
}

// Run a program by a script: who does a line, again and again; who is done does nothing.
func Run(p api.Prog, script []int) ([]int, error) {
	if err := Check(p); err != nil {
		return nil, err
	}
	if len(script) > api.MaxNodes {
		return nil, api.ErrFull
	}
	for _, h := range script {
		if !within(h, 0, len(p.Hands)-1) {
			return nil, api.ErrRange
		}
	}
	var s State
	for _, h := range script {
		s = s.Step(p, h)
	}
	return s.finish(p).Told(p), nil
}

// fits tells whether a line may stand in a program of so many words; what it does not need is not looked at.
func fits(l api.Line, words int) bool {
	reg := within(l.Reg, 0, api.MaxRegs-1)
	switch l.Kind {
	case api.Put:
		return reg && within(l.Value, 0, api.MaxValue)
	case api.Load, api.Store, api.Swap:
		return reg && within(l.Word, 0, words-1)
	case api.Fence:
		return true
	case api.Leave:
		return reg && within(l.Value, 0, api.MaxLines)
	}
	return false
}

// within tells whether n is from least to most.
func within(n, least, most int) bool { return least <= n && n <= most }
