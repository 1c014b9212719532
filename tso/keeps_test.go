package tso_test

import (
	"fmt"
	"slices"
	"testing"

	"latchgarth/api"
	"latchgarth/plain"
	"latchgarth/tso"
)

// room is a copy of a list, with so many more behind its length, each of them filled.
func room[T any](list []T, fill T, many int) []T {
	out := append(slices.Clone(list), slices.Repeat([]T{fill}, many)...)
	return out[:len(list)]
}

// roomy is a program with wrong lines and hands behind the lengths of its lists.
func roomy(words int, hands ...[]api.Line) api.Prog {
	odd := api.Line{Kind: -7, Reg: -7, Word: -7, Value: -7}
	var own [][]api.Line
	for i, h := range hands {
		own = append(own, room(h, odd, i+1))
	}
	return api.Prog{Words: words, Hands: room(own, hand(odd), 3)}
}

// whole is all of a program, with what lies behind the lengths of its lists.
func whole(p api.Prog) string {
	s := fmt.Sprint(p.Words, len(p.Hands))
	for _, h := range p.Hands[:cap(p.Hands)] {
		s += fmt.Sprint(len(h), h[:cap(h)])
	}
	return s
}

func seen() (api.Prog, [][]int) {
	p := roomy(2, hand(put(0, 5), store(0, 0), load(1, 1)), hand(put(0, 6), store(0, 1), load(1, 0)))
	return p, [][]int{{5, 0, 6, 0, 5, 6}, {5, 0, 6, 5, 5, 6}, {5, 6, 6, 0, 5, 6}, {5, 6, 6, 5, 5, 6}}
}

// TestKeepsIn: what is handed in, and what lies behind its length, is neither changed nor asked.
func TestKeepsIn(t *testing.T) {
	p, want := seen()
	before := whole(p)
	for range 2 {
		if got, err := tso.Results(p); err != nil || !same(got, want) {
			t.Errorf("got %v %v, want %v", got, err, want)
		}
	}
	if after := whole(p); after != before {
		t.Errorf("handed in was %s, is now %s", before, after)
	}
}

// TestKeepsWrong: nothing is changed where there is an error, either, and a later call does not tell of it.
func TestKeepsWrong(t *testing.T) {
	p, want := seen()
	wrong := roomy(2, hand(put(0, 5), store(0, 1)), hand(load(1, 2)))
	before := whole(wrong)
	if l, err := tso.Results(wrong); l != nil || plain.Told(err) != api.ErrRange {
		t.Errorf("got %v %v", l, err)
	}
	if after := whole(wrong); after != before {
		t.Errorf("handed in was %s, is now %s", before, after)
	}
	if got, err := tso.Results(p); err != nil || !same(got, want) {
		t.Errorf("got %v %v, want %v", got, err, want)
	}
}

// TestKeepsOut: what comes out is fresh: no list of it shares memory with another one, with another answer, or with what was handed in.
func TestKeepsOut(t *testing.T) {
	p, want := seen()
	got, _ := tso.Results(p)
	again, _ := tso.Results(p)
	for i, l := range got {
		rest := slices.Concat(got[i+1:]...)
		for j := range l[:cap(l)] {
			l[:cap(l)][j] = -1
		}
		if !slices.Equal(slices.Concat(got[i+1:]...), rest) {
			t.Errorf("written into list %d of an answer, others are %v", i, got[i+1:])
		}
	}
	for i := range got[:cap(got)] {
		got[:cap(got)][i] = nil
	}
	p.Hands[0][0] = put(0, 9)
	p.Hands[1] = nil
	if !same(again, want) {
		t.Errorf("written into one answer, and into what was handed in, the other answer is %v", again)
	}
	other, _ := seen()
	if l, err := tso.Results(other); err != nil || !same(l, want) {
		t.Errorf("asked again: got %v %v, want %v", l, err, want)
	}
}
