package deque_test

import (
	"fmt"
	"maps"
	"slices"
	"strings"
	"testing"

	"latchgarth/api"
	"latchgarth/deque"
	"latchgarth/plain"
)

// What a hand may be asked for.
const (
	steps = iota
	pushes
	pops
	steals
)

// act is what is asked of a hand; to push and to pop hand 0 alone is asked.
type act struct{ hand, kind, value int }

// answer to it; only a step tells more than an error.
type answer struct {
	done bool
	got  int
	err  api.Errno
}

// in a deque it is done.
func (a act) in(d *deque.Deque) answer {
	switch a.kind {
	case pushes:
		return answer{err: plain.Told(d.Push(a.value))}
	case pops:
		return answer{err: plain.Told(d.Pop())}
	case steals:
		return answer{err: plain.Told(d.Steal(a.hand))}
	}
	done, got, err := d.Step(a.hand)
	return answer{done, got, plain.Told(err)}
}

// draw gives numbers from 0 to below n by a short rule, the same ones each time.
type draw uint64

func (d *draw) below(n int) int {
	*d = *d*6364136223846793005 + 1442695040888963407
	return int(uint64(*d) >> 33 % uint64(n))
}

// acts of n hands: one of them is asked for some, then one is again; seldom one that is none, or to push what is not to be. Hand 0 is, beside its turns among all, as often more as busy tells in a hundred; of what it begins so many in a hundred are pushes. The rarer beginnings are, the more steps are taken by hands that do something.
func (d *draw) acts(n, count, longest, rarer, busy, pushing int) []act {
	var out []act
	for len(out) < count {
		p := d.below(n)
		if d.below(100) < busy {
			p = 0
		}
		if d.below(40) == 0 {
			p = d.below(9) - 2
		}
		for range 1 + d.below(longest) {
			a := act{hand: p}
			if d.below(rarer) == 0 {
				a = d.begin(p, pushing)
			}
			out = append(out, a)
		}
	}
	return out[:count]
}

// begin something, of a hand; hand 0 seldom begins what is for the others, and they seldom what is for hand 0.
func (d *draw) begin(p, pushing int) act {
	if (p == 0) == (d.below(30) == 0) {
		return act{hand: p, kind: steals}
	}
	if d.below(100) >= pushing {
		return act{kind: pops}
	}
	if d.below(20) == 0 {
		return act{kind: pushes, value: []int{-1, 0, api.MaxValue, api.MaxValue + 1}[d.below(4)]}
	}
	return act{kind: pushes, value: d.below(api.MaxValue + 1)}
}

// drawn is what is asked of n hands, the same each time.
func drawn(n, count int) []act {
	d := draw(n)
	return d.acts(n, count, 6, 4, 20, 65)
}

// What may befall a deque.
const (
	written = iota // a value, to the place of a number
	raised         // Top, to a number
	moved          // Bottom, to a number
)

// event is what befell it.
type event struct{ kind, number, value int }

// model is another way to tell what hands do. It has no places and no words: all that ever befell stands in a row, as it came, and what is asked is looked up in it anew each time.
type model struct {
	n    int
	row  []event
	does []doing
}

// doing of a hand.
type doing struct {
	begun int // how often it began
	kind  int
	value int   // that it pushes
	saw   []int // since it began, a thing a step; what it took, or the -1 that it tells, stands behind the others
}

func freshModel(n int) model { return model{n: n, does: make([]doing, n)} }

// clone shares with the model what is never written into alone.
func (w *model) clone() model {
	return model{w.n, slices.Clip(w.row), slices.Clone(w.does)}
}

// befell what did.
func (w *model) befell(kind, number, value int) {
	w.row = append(w.row, event{kind, number, value})
}

// last number that one of the words came to.
func (w *model) last(kind int) int {
	for _, e := range slices.Backward(w.row) {
		if e.kind == kind {
			return e.number
		}
	}
	return 0
}

func (w *model) top() int    { return w.last(raised) }
func (w *model) bottom() int { return w.last(moved) }

// at which value is at the place of a number: what was written last, at any number of the same place.
func (w *model) at(number int) int {
	for _, e := range slices.Backward(w.row) {
		if e.kind == written && (e.number-number)%8 == 0 {
			return e.value
		}
	}
	return 0
}

// do what is asked.
func (w *model) do(a act) answer {
	if a.kind == steps {
		return w.step(a.hand)
	}
	if a.kind == pushes && (a.value < 0 || a.value > 1000) || a.kind == steals && (a.hand < 1 || a.hand >= w.n) {
		return answer{err: api.ErrRange}
	}
	d := &w.does[a.hand]
	if d.kind != steps {
		return answer{err: api.ErrState}
	}
	*d = doing{begun: d.begun + 1, kind: a.kind, value: a.value}
	return answer{}
}

// step of a hand: what is told hangs on what it saw with this step, if it is not done by then.
func (w *model) step(p int) answer {
	if p < 0 || p >= w.n {
		return answer{err: api.ErrRange}
	}
	d := &w.does[p]
	if d.kind == steps {
		return answer{err: api.ErrState}
	}
	sees := []func(saw []int, value int) (int, bool){pushes: w.push, pops: w.pop, steals: w.steal}[d.kind]
	saw, done := sees(d.saw, d.value)
	if done {
		*d = doing{begun: d.begun}
		return answer{done: true, got: saw}
	}
	d.saw = append(slices.Clone(d.saw), saw)
	return answer{}
}

// push sees how many are in, then how many are ahead of what it writes.
func (w *model) push(saw []int, value int) (int, bool) {
	switch bottom := w.bottom(); len(saw) {
	case 0:
		in := bottom - w.top()
		if in == 8 {
			return -2, true
		}
		return in, false
	case 1:
		w.befell(written, bottom, value)
		return bottom, false
	default:
		w.befell(moved, bottom+1, 0)
		return -1, true
	}
}

// pop sees the number that it asks for, then Top; then, of the last one, what it has of it.
func (w *model) pop(saw []int, _ int) (int, bool) {
	switch len(saw) {
	case 0:
		w.befell(moved, w.bottom()-1, 0)
		return w.bottom(), false
	case 1:
		if w.top() < saw[0] {
			return w.at(saw[0]), true
		}
		return w.top(), false
	case 2:
		if saw[0] < saw[1] {
			w.befell(moved, saw[1], 0)
			return -1, true
		}
		return w.take(saw[1], w.at(saw[0]), -1), false
	default:
		w.befell(moved, saw[1]+1, 0)
		return saw[2], true
	}
}

// steal sees Top, then Bottom, then what is ahead of all.
func (w *model) steal(saw []int, _ int) (int, bool) {
	switch len(saw) {
	case 0:
		return w.top(), false
	case 1:
		if w.bottom() <= saw[0] {
			return -1, true
		}
		return w.bottom(), false
	case 2:
		return w.at(saw[0]), false
	default:
		return w.take(saw[0], saw[2], -2), true
	}
}

// take what is ahead of all, if Top is as it was seen: that value, or else what is told instead.
func (w *model) take(seen, value, instead int) int {
	if w.top() != seen {
		return instead
	}
	w.befell(raised, seen+1, 0)
	return value
}

// line at which a hand is to be.
func (w *model) line(p int) int {
	d := w.does[p]
	line := len(d.saw) + []int{steps: 0, pushes: 1, pops: 4, steals: 9}[d.kind]
	if d.kind == pops && len(d.saw) >= 2 && d.saw[0] == d.saw[1] {
		line++
	}
	return line
}

// shown is all that a deque is to tell where the model is.
func (w *model) shown() string {
	var places [8]int
	for i := range places {
		places[i] = w.at(i)
	}
	lines := ""
	for p := range w.n {
		lines += fmt.Sprint(w.line(p), " ")
	}
	return lines + fmt.Sprint(places, w.top(), w.bottom())
}

// order is one of those in which all may have happened one by one: what is in then, each value as a letter, and what each hand that is not done yet has had of it already: what it is to tell, and 3 more; 0, if it has had nothing.
type order struct {
	in  string
	had [api.MaxHands]int
}

// orders are all that there are.
type orders map[order]bool

// then what a hand does happens too, in that order; it may be all of some ways. A steal that another hand was ahead of changes nothing.
func (o order) then(p int, d doing) []order {
	letters := []rune(o.in)
	end := func(in []rune, told int) order {
		out := order{string(in), o.had}
		out.had[p] = told + 3
		return out
	}
	switch in := len(letters); {
	case d.kind == pushes && in == 8:
		return []order{end(letters, -2)}
	case d.kind == pushes:
		return []order{end(append(letters, rune(d.value+1)), -1)}
	case d.kind == pops && in == 0:
		return []order{end(nil, -1)}
	case d.kind == pops:
		return []order{end(letters[:in-1], int(letters[in-1])-1)}
	case in == 0:
		return []order{end(nil, -1), end(nil, -2)}
	}
	return []order{end(letters[1:], int(letters[0])-1), end(letters, -2)}
}

// ended: a hand tells something, so what it did has happened by now, and what others do, who are not done, may have.
func (all orders) ended(p, told int, does []doing) orders {
	known := maps.Clone(all)
	queue := slices.Collect(maps.Keys(all))
	for len(queue) > 0 {
		o := queue[0]
		queue = queue[1:]
		for q, d := range does {
			if d.kind == steps || o.had[q] != 0 {
				continue
			}
			for _, next := range o.then(q, d) {
				if !known[next] {
					known[next] = true
					queue = append(queue, next)
				}
			}
		}
	}
	out := orders{}
	for o := range known {
		if o.had[p] == told+3 {
			o.had[p] = 0
			out[o] = true
		}
	}
	return out
}

// String is the same for those that are the same.
func (all orders) String() string {
	var out []string
	for o := range all {
		out = append(out, fmt.Sprintf("%q%v", o.in, o.had))
	}
	slices.Sort(out)
	return strings.Join(out, " ")
}

// spot is one of the things that a deque may come to, what the model says of it, and in which orders all may have happened.
type spot struct {
	deque deque.Deque
	told  model
	may   orders
}

func freshSpot(t *testing.T, n int) spot {
	t.Helper()
	return spot{*fresh(t, n), freshModel(n), orders{order{}: true}}
}

// known is all on which it hangs what the model tells from here on, and whether it may have happened one by one.
func (s *spot) known() string { return s.told.shown() + fmt.Sprint(s.told.does) + s.may.String() }

// checkAct: an act is told of, and leads to, what the model says, and all may have happened one by one; what is told is given back.
func checkAct(t *testing.T, then *spot, a act) answer {
	t.Helper()
	w := &then.told
	does, top := slices.Clone(w.does), w.top()
	got, want := a.in(&then.deque), w.do(a)
	if got != want {
		t.Fatalf("of %d, %v, which leads to %s: got %v, want %v", w.n, a, w.shown(), got, want)
	}
	if shown := shown(&then.deque, w.n); shown != w.shown() {
		t.Fatalf("of %d, %v: got %s, want %s", w.n, a, shown, w.shown())
	}
	if !got.done {
		return got
	}
	if d := does[a.hand]; got == late && d.kind == steals && top == d.saw[0] {
		t.Fatalf("of %d, %v tells that it is late, and nobody was ahead: %s", w.n, a, w.shown())
	}
	before := then.may
	if then.may = before.ended(a.hand, got.got, does); len(then.may) == 0 {
		t.Fatalf("of %d, %v, which tells %v: that is in no order of %v", w.n, a, got, before)
	}
	return got
}

// ending is an act of a kind, from a line, or, if it begins something, from whether the hand does something; and what it tells, whatever the value.
type ending struct {
	kind, from int
	answer
}

// endingOf an act.
func endingOf(a act, from int, got answer) ending {
	if a.kind != steps {
		from = min(from, 1)
	}
	got.got = min(got.got, 0)
	return ending{a.kind, from, got}
}

// endings are all that there are to be; where hand 0 is alone none steals, and none is ahead of it.
func endings(n int) []ending {
	some := answer{done: true}
	out := []ending{
		{pushes, 0, on}, {pushes, 0, wrong}, {pushes, 1, state}, {pushes, 1, wrong}, {pops, 0, on}, {pops, 1, state}, {steals, 0, wrong}, {steals, 1, wrong},
		{steps, 0, state}, {steps, 0, wrong}, {steps, 1, on}, {steps, 1, full}, {steps, 2, on}, {steps, 3, isIn},
		{steps, 4, on}, {steps, 5, on}, {steps, 5, some}, {steps, 6, empty}, {steps, 7, on}, {steps, 8, some},
	}
	if n > 1 {
		out = append(out, []ending{
			{steals, 0, on}, {steals, 1, state}, {steps, 8, empty},
			{steps, 9, on}, {steps, 10, on}, {steps, 10, empty}, {steps, 11, on}, {steps, 12, some}, {steps, 12, late},
		}...)
	}
	return out
}

// TestModel: much of what may be asked, right and wrong, against another way to tell what hands do.
func TestModel(t *testing.T) {
	for n := 1; n <= api.MaxHands; n++ {
		t.Run(fmt.Sprint(n), func(t *testing.T) {
			t.Parallel()
			d, told := draw(5+n), map[ending]int{}
			for round := range 90 {
				here := freshSpot(t, n)
				for _, a := range d.acts(n, 1600, 1+round%5, 2+round%7, 10*(round%8), 28+9*(round%9)) {
					from := here.deque.At(a.hand)
					told[endingOf(a, from, checkAct(t, &here, a))]++
				}
			}
			for _, want := range endings(n) {
				if told[want] < 10 {
					t.Errorf("%v was told %d times", want, told[want])
				}
				delete(told, want)
			}
			if len(told) > 0 {
				t.Errorf("what is never to be told was: %v", told)
			}
		})
	}
}

// went is which ways hands have gone, from a line to a line.
type went [13][13]bool

// plan is a script, and what each hand does behind that, one behind the other: + to push, - to pop, or to steal.
type plan struct {
	ahead string
	hands []string
}

// TestEverywhere: a deque tells what the model does whoever goes on, in all that hands may come to by each plan; and hands go each way that there is, and no other.
func TestEverywhere(t *testing.T) {
	const around = eight + "1? 1? 1? 1? 1? 1? 1? "
	plans := []plan{
		{"", []string{"-+-++--+---++"}}, {eight, []string{"+-+---------"}},
		{"", []string{"+-+-+-", "---"}}, {"", []string{"++--+-", "---"}}, {"", []string{"+++---", "--"}}, {"", []string{"-+", "----"}},
		{"", []string{"+-", "-", "-", "-"}}, {"", []string{"+-+-", "-", "-"}}, {"", []string{"++--", "-", "-"}}, {"", []string{"+-+", "--", "-"}},
		{"", []string{"++-+--+-", "----"}}, {"", []string{"+-+-", "--", "--"}}, {"", []string{"+-+-", "-", "-", "-"}},
		{"!1 !2 !3", []string{"---", "--", "--"}}, {"!1 !2", []string{"-+-", "-", "-", "-"}},
		{"!1 !2", []string{"--", "-", "-", "-"}}, {"!1 !2 !3", []string{"---", "-", "--"}}, {"!1 !2", []string{"--+", "--", "-"}},
		{eight, []string{"+-+", "--"}}, {eight, []string{"++", "-", "-", "-"}}, {eight, []string{"+++", "--", "-"}},
		{around, []string{"-+-+", "--"}}, {around, []string{"+--+", "-", "-"}}, {around, []string{"-+-", "-", "--"}},
	}
	gone := make([]went, len(plans))
	t.Run("plans", func(t *testing.T) {
		for i, p := range plans {
			t.Run(fmt.Sprint(p.hands), func(t *testing.T) {
				t.Parallel()
				checkPlan(t, p, &gone[i])
			})
		}
	})
	var all, want went
	for _, one := range gone {
		for from := range one {
			for to, is := range one[from] {
				all[from][to] = all[from][to] || is
			}
		}
	}
	for _, way := range [][2]int{
		{0, 1}, {1, 0}, {1, 2}, {2, 3}, {3, 0},
		{0, 4}, {4, 5}, {5, 0}, {5, 6}, {6, 0}, {5, 7}, {7, 8}, {8, 0},
		{0, 9}, {9, 10}, {10, 0}, {10, 11}, {11, 12}, {12, 0},
	} {
		want[way[0]][way[1]] = true
	}
	if all != want {
		t.Errorf("the ways that are gone are %v, want %v", all, want)
	}
}

// checkPlan of hands. It leans on a deque being a value: two that are the same do the same. All that so many acts lead to is looked through behind what one less does; an act that is wrong is none, since it changes nothing.
func checkPlan(t *testing.T, p plan, gone *went) {
	t.Helper()
	start := freshSpot(t, len(p.hands))
	for _, a := range script(p.ahead) {
		checkAct(t, &start, a)
	}
	for i := range start.told.does {
		start.told.does[i].begun = 0
	}
	known := map[string]deque.Deque{}
	for layer := []spot{start}; len(layer) > 0; {
		var next []spot
		for i := range layer {
			next = append(next, actOn(t, p, &layer[i], known, gone)...)
		}
		layer = next
	}
	if len(known) < 20 {
		t.Errorf("%v: %d were looked through", p, len(known))
	}
}

// actOn is all to which an act leads and none ahead of it did, each once.
func actOn(t *testing.T, p plan, here *spot, known map[string]deque.Deque, gone *went) []spot {
	t.Helper()
	var next []spot
	for q, hand := range p.hands {
		checkWrong(t, here, q)
		a, ok := here.told.planned(q, hand)
		if !ok {
			continue
		}
		then := spot{here.deque, here.told.clone(), here.may}
		checkAct(t, &then, a)
		gone[here.told.line(q)][then.told.line(q)] = true
		key := then.known()
		other, found := known[key]
		if !found {
			known[key] = then.deque
			next = append(next, then)
		} else if other != then.deque {
			t.Fatalf("%v: two ways lead to what is not the same: %s", p, shown(&then.deque, len(p.hands)))
		}
	}
	return next
}

// planned is the next act of a hand that is to do some things, unless all are done. What is pushed tells when it was.
func (w *model) planned(p int, hand string) (act, bool) {
	d := w.does[p]
	switch {
	case d.kind != steps:
		return act{hand: p}, true
	case d.begun == len(hand):
		return act{}, false
	case p > 0:
		return act{hand: p, kind: steals}, true
	case hand[d.begun] == '-':
		return act{kind: pops}, true
	}
	return act{kind: pushes, value: 101 + d.begun}, true
}

// checkWrong: to begin where a hand does something, and a step where it does nothing, tell ErrState and change nothing.
func checkWrong(t *testing.T, here *spot, p int) {
	t.Helper()
	not := []act{{hand: p, kind: steals}}
	switch {
	case here.told.line(p) == 0:
		not = []act{{hand: p}}
	case p == 0:
		not = []act{{kind: pushes, value: 3}, {kind: pops}}
	}
	for _, a := range not {
		then := here.deque
		if got := a.in(&then); got != state || then != here.deque {
			t.Fatalf("of %d, at %s, %v: got %v, and %s", here.told.n, here.told.shown(), a, got, shown(&then, here.told.n))
		}
	}
}
