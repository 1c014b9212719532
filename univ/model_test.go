package univ_test

import (
	"fmt"
	"slices"
	"testing"

	"latchgarth/api"
	"latchgarth/plain"
	"latchgarth/univ"
)

// act is what is asked of a hand: to begin a deed, or a step.
type act struct {
	hand   int
	begins bool
	add    int
}

// answer to it; Begin tells an error alone.
type answer struct {
	done bool
	sum  int
	err  api.Errno
}

// in a row it is done.
func (a act) in(r *univ.Row) answer {
	if a.begins {
		return answer{err: plain.Told(r.Begin(a.hand, a.add))}
	}
	done, sum, err := r.Step(a.hand)
	return answer{done, sum, plain.Told(err)}
}

// draw gives numbers from 0 to below n by a short rule, the same ones each time.
type draw uint64

func (d *draw) below(n int) int {
	*d = *d*6364136223846793005 + 1442695040888963407
	return int(uint64(*d) >> 33 % uint64(n))
}

// acts of n hands: one of them is asked for some, then one is again; seldom one that is none, or to add what is not to be. The rarer beginnings are, the more steps are taken by hands that do something.
func (d *draw) acts(n, count, longest, rarer int) []act {
	var out []act
	for len(out) < count {
		p := d.below(n)
		if d.below(30) == 0 {
			p = d.below(9) - 2
		}
		for range 1 + d.below(longest) {
			a := act{hand: p}
			if d.below(rarer) == 0 {
				a = act{p, true, d.below(api.MaxValue + 1)}
				if d.below(20) == 0 {
					a.add = []int{-1, 0, api.MaxValue, api.MaxValue + 1}[d.below(4)]
				}
			}
			out = append(out, a)
		}
	}
	return out[:count]
}

// drawn is what is asked of n hands, the same each time.
func drawn(n, count int) []act {
	d := draw(n)
	return d.acts(n, count, 5, 4)
}

// model is another way to tell what hands do, with no lines, cells and sums of theirs: a deed's steps are counted, and what was there before is added up when it is done. It is a value: two that are the same do the same.
type model struct {
	n     int8
	begun int8
	deeds [api.MaxNodes]deed
	has   [api.MaxHands]int8 // the deed that a hand does, from 1 on; 0, if none
	given int8               // how many cells
	order [api.MaxNodes]int8
}

// deed of a hand of the model.
type deed struct {
	add   int16
	steps int8
}

func freshModel(n int) model { return model{n: int8(n)} }

// do what is asked.
func (w *model) do(a act) answer {
	none := a.hand < 0 || a.hand >= int(w.n)
	switch {
	case none, a.begins && (a.add < 0 || a.add > 1000):
		return answer{err: api.ErrRange}
	case a.begins != (w.has[a.hand] == 0):
		return answer{err: api.ErrState}
	case a.begins && w.begun == 40:
		return answer{err: api.ErrFull}
	case a.begins:
		w.deeds[w.begun].add = int16(a.add)
		w.begun++
		w.has[a.hand] = w.begun
		return answer{}
	}
	return w.step(a.hand)
}

// step of a hand that does something: at the even ones it takes the cell, if it is free, and at the odd ones it sees whether it has it.
func (w *model) step(p int) answer {
	number := w.has[p] - 1
	cell, sees := w.deeds[number].steps/2, w.deeds[number].steps%2 == 1
	w.deeds[number].steps++
	if !sees && cell == w.given {
		w.order[cell] = number
		w.given++
	}
	if !sees || w.order[cell] != number {
		return answer{}
	}
	w.has[p] = 0
	return answer{done: true, sum: w.ahead(cell)}
}

// ahead of a cell, what all deeds add.
func (w *model) ahead(cell int8) int {
	sum := 0
	for _, number := range w.order[:cell] {
		sum += int(w.deeds[number].add)
	}
	return sum
}

// line at which a hand is to be.
func (w *model) line(p int) int {
	if w.has[p] == 0 {
		return 0
	}
	return 1 + int(w.deeds[w.has[p]-1].steps%2)
}

// shown is all that a row is to tell where the model is.
func (w *model) shown() string {
	lines := ""
	for p := range int(w.n) {
		lines += fmt.Sprint(w.line(p), " ")
	}
	return lines + fmt.Sprint(w.order[:w.given])
}

// TestModel: much of what may be asked, right and wrong, against another way to tell what hands do; up to all deeds that there may be, and beyond.
func TestModel(t *testing.T) {
	d := draw(5)
	told := map[answer]int{}
	for n := 1; n <= api.MaxHands; n++ {
		for round := range 50 {
			here := spot{*fresh(t, n), freshModel(n)}
			for _, a := range d.acts(n, 4000, 1+round%9, 2+round%7) {
				got := checkAct(t, n, &here, a)
				got.sum = 0
				told[got]++
			}
		}
	}
	for _, want := range []answer{{}, {done: true}, {err: api.ErrRange}, {err: api.ErrState}, {err: api.ErrFull}} {
		if told[want] < 2000 {
			t.Errorf("%v was told %d times", want, told[want])
		}
	}
}

// spot is one of the things that a row may come to, and what the model says of it.
type spot struct {
	row  univ.Row
	told model
}

// gone is which ways a hand has gone, from a line to a line.
type gone [api.MaxHands][3][3]bool

// TestEverywhere: whatever may be asked, a row tells what the model does, while few deeds are begun; and each hand goes each way. It leans on a row being a value: two that are the same do the same. All that so many acts lead to is looked through behind what one less does; an act that is wrong is none, since it changes nothing.
func TestEverywhere(t *testing.T) {
	for i, deeds := range []int{8, 6, 5, 4} {
		n := i + 1
		var went gone
		layer := []spot{{*fresh(t, n), freshModel(n)}}
		for acts := 0; len(layer) > 0; acts++ {
			if most := deeds + deeds*(deeds+1); acts > most {
				t.Fatalf("of %d, after %d acts not all deeds are done: %s", n, acts, shown(&layer[0].row, n))
			}
			layer = actOn(t, n, deeds, layer, &went)
		}
		checkWent(t, n, &went)
	}
}

// actOn is all to which one act leads, each once. What deeds add is such that a sum tells which ones it is of.
func actOn(t *testing.T, n, deeds int, layer []spot, went *gone) []spot {
	t.Helper()
	var next []spot
	known := map[model]int{}
	for i := range layer {
		here := &layer[i]
		for p := range n {
			a := act{hand: p, begins: here.told.has[p] == 0, add: 1 << here.told.begun}
			checkWrong(t, n, here, act{hand: p, begins: !a.begins, add: a.add})
			if a.begins && int(here.told.begun) == deeds {
				continue
			}
			then := *here
			checkAct(t, n, &then, a)
			went[p][here.row.At(p)][then.row.At(p)] = true
			number, ok := known[then.told]
			if ok {
				checkSame(t, n, &next[number], &then)
				continue
			}
			known[then.told] = len(next)
			next = append(next, then)
		}
	}
	return next
}

// checkWrong: to begin where a hand does something, and a step where it does nothing, tell ErrState and change nothing.
func checkWrong(t *testing.T, n int, here *spot, a act) {
	t.Helper()
	then := here.row
	if got := a.in(&then); got != (answer{err: api.ErrState}) || then != here.row {
		t.Fatalf("of %d, at %s, %v: got %v, and %s", n, shown(&here.row, n), a, got, shown(&then, n))
	}
}

// checkAct: an act is told of, and leads to, what the model says; what is told is given back.
func checkAct(t *testing.T, n int, then *spot, a act) answer {
	t.Helper()
	got, want := a.in(&then.row), then.told.do(a)
	if got != want {
		t.Fatalf("of %d, %v, which leads to %s: got %v, want %v", n, a, then.told.shown(), got, want)
	}
	for p := range n {
		if then.row.At(p) != then.told.line(p) {
			t.Fatalf("of %d, got %s, want %s", n, shown(&then.row, n), then.told.shown())
		}
	}
	order := then.told.order[:then.told.given]
	if !slices.EqualFunc(then.row.Order(), order, func(got int, want int8) bool { return got == int(want) }) {
		t.Fatalf("of %d, got %s, want %s", n, shown(&then.row, n), then.told.shown())
	}
	return got
}

// checkSame: what a row has come to does not hang on how it came there.
func checkSame(t *testing.T, n int, one, other *spot) {
	t.Helper()
	if *one != *other {
		t.Fatalf("of %d, two ways lead to what is not the same: %s, and %s", n, shown(&one.row, n), shown(&other.row, n))
	}
}

// checkWent: each hand goes each way; also to the next cell where it is alone, for the deeds that it did before have the first ones.
func checkWent(t *testing.T, n int, went *gone) {
	t.Helper()
	var want gone
	for p := range n {
		want[p][0][1], want[p][1][2], want[p][2][0], want[p][2][1] = true, true, true, true
	}
	if *went != want {
		t.Errorf("of %d, the ways that are gone are %v, want %v", n, *went, want)
	}
}

// span of a deed: when it was begun, and when it was done, and what was told then.
type span struct{ hand, add, from, to, told int }

// TestOneByOne: what hands did together may have happened one by one, in the order of the row: what a deed tells is what all those ahead add, and a deed that was done before another one was begun is ahead of it. And none takes more than twice as many steps as there are deeds.
func TestOneByOne(t *testing.T) {
	d := draw(11)
	for n := 1; n <= api.MaxHands; n++ {
		for round := range 200 {
			r := fresh(t, n)
			acts := d.acts(n, 1+d.below(1500), 1+round%9, 3+round%7)
			for p := range n {
				acts = append(acts, slices.Repeat([]act{{hand: p}}, 2*api.MaxNodes)...)
			}
			deeds := spans(t, r, acts)
			checkSpans(t, r.Order(), deeds)
		}
	}
}

// spans of the deeds that are begun, all of which are to be done.
func spans(t *testing.T, r *univ.Row, acts []act) []span {
	t.Helper()
	var out []span
	steps := make([]int, 2*api.MaxNodes)
	does := map[int]int{}
	for i, a := range acts {
		got := a.in(r)
		switch {
		case got.err != api.OK:
			continue
		case a.begins:
			does[a.hand] = len(out)
			out = append(out, span{hand: a.hand, add: a.add, from: i, to: -1})
		case got.done:
			out[does[a.hand]].to, out[does[a.hand]].told = i, got.sum
			fallthrough
		default:
			steps[does[a.hand]]++
		}
	}
	for i, s := range out {
		if s.to < 0 || steps[i] > 2*len(out) {
			t.Fatalf("of %d deeds, deed %d: %v, behind %d steps", len(out), i, s, steps[i])
		}
	}
	return out
}

// checkSpans in the order that a row tells.
func checkSpans(t *testing.T, row []int, deeds []span) {
	t.Helper()
	if sorted := slices.Sorted(slices.Values(row)); len(row) != len(deeds) || len(slices.Compact(sorted)) != len(deeds) {
		t.Fatalf("of %d deeds: got %v", len(deeds), row)
	}
	sum, latest := 0, 0
	for _, number := range row {
		s := deeds[number]
		if s.told != sum || s.to < latest {
			t.Fatalf("order %v: deed %d is %v; ahead of it there is %d, and what was begun at %d", row, number, s, sum, latest)
		}
		sum += s.add
		latest = max(latest, s.from)
	}
}
