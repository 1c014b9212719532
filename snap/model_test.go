package snap_test

import (
	"fmt"
	"slices"
	"strings"
	"testing"

	"latchgarth/api"
	"latchgarth/plain"
	"latchgarth/snap"
)

// What a hand may be asked for.
const (
	steps = iota
	looks
	writes
)

// act is what is asked of a hand.
type act struct{ hand, kind, value int }

// answer to it; Look and Write tell an error alone. What is seen is written down, so that answers can be held against each other.
type answer struct {
	done bool
	seen string
	err  api.Errno
}

// seen that is nothing.
const nothing = "[]"

// in a board it is done.
func (a act) in(b *snap.Board) answer {
	switch a.kind {
	case looks:
		return answer{false, nothing, plain.Told(b.Look(a.hand))}
	case writes:
		return answer{false, nothing, plain.Told(b.Write(a.hand, a.value))}
	}
	done, seen, err := b.Step(a.hand)
	return answer{done, fmt.Sprint(seen), plain.Told(err)}
}

// draw gives numbers from 0 to below n by a short rule, the same ones each time.
type draw uint64

func (d *draw) below(n int) int {
	*d = *d*6364136223846793005 + 1442695040888963407
	return int(uint64(*d) >> 33 % uint64(n))
}

// acts of n hands: one of them is asked for some, then one is again; seldom one that is none, or to write what is not to be. The rarer beginnings are, the more steps are taken by hands that do something.
func (d *draw) acts(n, count, longest, rarer int) []act {
	var out []act
	for len(out) < count {
		p := d.below(n)
		if d.below(40) == 0 {
			p = d.below(9) - 2
		}
		for range 1 + d.below(longest) {
			a := act{hand: p}
			if d.below(rarer) == 0 {
				a = act{p, looks, 0}
			} else if d.below(rarer) == 0 {
				a = act{p, writes, d.below(api.MaxValue + 1)}
			}
			if a.kind == writes && d.below(20) == 0 {
				a.value = []int{-1, 0, api.MaxValue, api.MaxValue + 1}[d.below(4)]
			}
			out = append(out, a)
		}
	}
	return out[:count]
}

// drawn is what is asked of n hands, the same each time.
func drawn(n, count int) []act {
	d := draw(n)
	return d.acts(n, count, 9, 5)
}

// model is another way to tell what hands do. All that was ever written stands in a row, as it came, and nothing is read or kept but turns: what a word is, at a turn, and how often a hand moved, is found anew each time.
type model struct {
	n    int
	row  []written
	does []doing
}

// written by a hand: the value, and what it saw.
type written struct {
	hand, value int
	saw         []int
}

// doing of a hand.
type doing struct {
	begun       int // how often it began
	kind, value int
	from        int   // how long the row was, when it began
	turns       []int // that it read, one behind the other
	saw         []int // nil, until it sees
}

func freshModel(n int) model { return model{n: n, does: make([]doing, n)} }

// clone shares with the model what is never written into alone.
func (w *model) clone() model {
	return model{w.n, slices.Clip(w.row), slices.Clone(w.does)}
}

// do what is asked.
func (w *model) do(a act) answer {
	out := answer{seen: nothing}
	none := a.hand < 0 || a.hand >= w.n
	switch {
	case none, a.kind == writes && (a.value < 0 || a.value > 1000):
		out.err = api.ErrRange
	case (a.kind == steps) == (w.does[a.hand].kind == steps):
		out.err = api.ErrState
	case a.kind != steps:
		w.does[a.hand] = doing{begun: w.does[a.hand].begun + 1, kind: a.kind, value: a.value, from: len(w.row)}
	default:
		w.step(a.hand, &out)
	}
	return out
}

// step of a hand that does something.
func (w *model) step(p int, out *answer) {
	d := &w.does[p]
	if d.saw != nil {
		w.row = append(slices.Clip(w.row), written{p, d.value, d.saw})
		*d = doing{begun: d.begun}
		out.done = true
		return
	}
	k := len(d.turns) % w.n
	d.turns = append(slices.Clip(d.turns), len(w.by(k)))
	if k == w.n-1 && len(d.turns) > w.n {
		d.saw = w.sees(slices.Collect(slices.Chunk(d.turns, w.n)))
	}
	if d.saw != nil && d.kind == looks {
		out.done, out.seen = true, fmt.Sprint(d.saw)
		*d = doing{begun: d.begun}
	}
}

// by a hand, all that was written.
func (w *model) by(p int) []written {
	var out []written
	for _, x := range w.row {
		if x.hand == p {
			out = append(out, x)
		}
	}
	return out
}

// sees is what is seen by who read all turns so often; nil, if nothing is.
func (w *model) sees(read [][]int) []int {
	last := read[len(read)-1]
	for k := range w.n {
		moved := 0
		for i := range len(read) - 1 {
			if read[i][k] != read[i+1][k] {
				moved++
			}
		}
		if moved >= 2 {
			return w.by(k)[last[k]-1].saw
		}
	}
	if !slices.Equal(read[len(read)-2], last) {
		return nil
	}
	out := make([]int, w.n)
	for k, turn := range last {
		if turn > 0 {
			out[k] = w.by(k)[turn-1].value
		}
	}
	return out
}

// line at which a hand is to be.
func (w *model) line(p int) int {
	switch d := w.does[p]; {
	case d.kind == steps:
		return 0
	case d.saw != nil:
		return 3
	case len(d.turns) >= w.n:
		return 2
	}
	return 1
}

// values after so many of what was written.
func (w *model) values(long int) []int {
	out := make([]int, w.n)
	for _, x := range w.row[:long] {
		out[x.hand] = x.value
	}
	return out
}

// shown is all that a board is to tell where the model is.
func (w *model) shown() string {
	lines := ""
	for p := range w.n {
		lines += fmt.Sprint(w.line(p), " ")
	}
	return lines + fmt.Sprint(w.values(len(w.row)))
}

// spot is one of the things that a board may come to, and what the model says of it.
type spot struct {
	board snap.Board
	told  model
}

// checkAct: an act is told of, and leads to, what the model says; what is told is given back.
func checkAct(t *testing.T, then *spot, a act) answer {
	t.Helper()
	then.checkSeen(t, a)
	got, want := a.in(&then.board), then.told.do(a)
	if got != want {
		t.Fatalf("of %d, %v, which leads to %s: got %v, want %v", then.told.n, a, then.told.shown(), got, want)
	}
	if got := shown(&then.board, then.told.n); got != then.told.shown() {
		t.Fatalf("of %d, %v: got %s, want %s", then.told.n, a, got, then.told.shown())
	}
	return got
}

// checkSeen: ahead of a step by which a hand sees, it is held that all words were so at one time since the hand began, and that it has not read longer than it may. Since a writing counts when it is done, all that hands do together may so have happened one by one.
func (here *spot) checkSeen(t *testing.T, a act) {
	t.Helper()
	w := here.told
	if a.kind != steps || a.hand < 0 || a.hand >= w.n || w.line(a.hand) != 2 {
		return
	}
	d := w.does[a.hand]
	if len(d.turns) >= w.n*(w.n+1) {
		t.Fatalf("of %d, at %s: hand %d has read %d words", w.n, w.shown(), a.hand, len(d.turns))
	}
	if len(d.turns)%w.n != w.n-1 {
		return
	}
	read := append(slices.Clone(d.turns), len(w.by(w.n-1)))
	saw := w.sees(slices.Collect(slices.Chunk(read, w.n)))
	for long := d.from; saw != nil && !slices.Equal(saw, w.values(long)); long++ {
		if long == len(w.row) {
			t.Fatalf("of %d, at %s: hand %d sees %v, which never was since it began", w.n, w.shown(), a.hand, saw)
		}
	}
}

// TestModel: much of what may be asked, right and wrong, against another way to tell what hands do.
func TestModel(t *testing.T) {
	d := draw(5)
	told := map[answer]int{}
	for n := 1; n <= api.MaxHands; n++ {
		for round := range 40 {
			here := spot{*fresh(t, n), freshModel(n)}
			for _, a := range d.acts(n, 1500, 1+round%20, 3+round%8) {
				got := checkAct(t, &here, a)
				if got.seen != nothing {
					got.seen = "all"
				}
				told[got]++
			}
		}
	}
	for _, want := range []answer{
		{false, nothing, api.OK}, {true, nothing, api.OK}, {true, "all", api.OK},
		{false, nothing, api.ErrRange}, {false, nothing, api.ErrState},
	} {
		if told[want] < 1000 {
			t.Errorf("%v was told %d times", want, told[want])
		}
		delete(told, want)
	}
	if len(told) > 0 {
		t.Errorf("what is never to be told was: %v", told)
	}
}

// went is which ways a hand has gone, from a line to a line.
type went [api.MaxHands][4][4]bool

// TestEverywhere: where each hand does some things, one behind the other, L to look and W to write, a board tells what the model does whoever goes on, in all that they may come to; and each hand goes each way.
func TestEverywhere(t *testing.T) {
	for _, plans := range [][]string{
		{"LWWLLWL"},
		{"LLWL", "WWWW"}, {"WWWW", "LWLL"}, {"WLW", "WLW"}, {"LWL", "WWL"},
		{"L", "WW", "W"}, {"W", "L", "WW"}, {"WW", "W", "L"}, {"W", "WW", "L"}, {"WW", "L", "W"},
		{"L", "WWW", "W"}, {"L", "WW", "WW"},
		{"L", "WW", "", "W"}, {"", "WW", "W", "L"}, {"L", "W", "W", "W"},
	} {
		t.Run(fmt.Sprint(plans), func(t *testing.T) {
			t.Parallel()
			checkPlans(t, plans)
		})
	}
}

// checkPlans of hands. It leans on a board being a value: two that are the same do the same. All that so many acts lead to is looked through behind what one less does; an act that is wrong is none, since it changes nothing.
func checkPlans(t *testing.T, plans []string) {
	t.Helper()
	n := len(plans)
	var gone went
	layer := []spot{{*fresh(t, n), freshModel(n)}}
	for len(layer) > 0 {
		layer = actOn(t, plans, layer, &gone)
	}
	checkWent(t, plans, &gone)
}

// actOn is all to which one act leads, each once.
func actOn(t *testing.T, plans []string, layer []spot, gone *went) []spot {
	t.Helper()
	var next []spot
	known := map[string]int{}
	for i := range layer {
		here := &layer[i]
		for p, plan := range plans {
			checkWrong(t, here, p)
			a, ok := here.told.planned(p, plan)
			if !ok {
				continue
			}
			then := spot{here.board, here.told.clone()}
			checkAct(t, &then, a)
			gone[p][here.told.line(p)][then.told.line(p)] = true
			key := fmt.Sprint(then.told)
			number, found := known[key]
			if !found {
				known[key] = len(next)
				next = append(next, then)
			} else if next[number].board != then.board {
				t.Fatalf("of %d, two ways lead to what is not the same: %s", len(plans), shown(&then.board, len(plans)))
			}
		}
	}
	return next
}

// planned is the next act of a hand that is to do some things, unless all are done. What is written tells who wrote it, and when.
func (w *model) planned(p int, plan string) (act, bool) {
	d := w.does[p]
	switch {
	case d.kind != steps:
		return act{hand: p}, true
	case d.begun == len(plan):
		return act{}, false
	case plan[d.begun] == 'L':
		return act{p, looks, 0}, true
	}
	return act{p, writes, 10*p + d.begun + 1}, true
}

// checkWrong: to begin where a hand does something, and a step where it does nothing, tell ErrState and change nothing.
func checkWrong(t *testing.T, here *spot, p int) {
	t.Helper()
	wrong := []act{{p, looks, 0}, {p, writes, 3}}
	if here.told.line(p) == 0 {
		wrong = []act{{hand: p}}
	}
	for _, a := range wrong {
		then := here.board
		if got := a.in(&then); got != (answer{false, nothing, api.ErrState}) || then != here.board {
			t.Fatalf("of %d, at %s, %v: got %v, and %s", here.told.n, here.told.shown(), a, got, shown(&then, here.told.n))
		}
	}
}

// checkWent: each hand goes each way that what it does has; where it is alone it reads one word, and goes on from each line at once.
func checkWent(t *testing.T, plans []string, gone *went) {
	t.Helper()
	var want went
	for p, plan := range plans {
		does := plan != ""
		want[p][0][1], want[p][1][2] = does, does
		want[p][1][1], want[p][2][2] = does && len(plans) > 1, does && len(plans) > 1
		want[p][2][0] = strings.Contains(plan, "L")
		want[p][2][3] = strings.Contains(plan, "W")
		want[p][3][0] = strings.Contains(plan, "W")
	}
	if *gone != want {
		t.Errorf("plans %q, the ways that are gone are %v, want %v", plans, *gone, want)
	}
}
