package stack_test

import (
	"fmt"
	"slices"
	"strings"
	"testing"

	"latchgarth/api"
	"latchgarth/plain"
	"latchgarth/stack"
)

// What a hand may be asked for.
const (
	steps = iota
	pops
	pushes
)

// act is what is asked of a hand.
type act struct{ hand, kind, value int }

// answer to it; Push and Pop tell an error alone.
type answer struct {
	done bool
	got  int
	err  api.Errno
}

// in a stack it is done.
func (a act) in(s *stack.Stack) answer {
	switch a.kind {
	case pops:
		return answer{err: plain.Told(s.Pop(a.hand))}
	case pushes:
		return answer{err: plain.Told(s.Push(a.hand, a.value))}
	}
	done, got, err := s.Step(a.hand)
	return answer{done, got, plain.Told(err)}
}

// draw gives numbers from 0 to below n by a short rule, the same ones each time.
type draw uint64

func (d *draw) below(n int) int {
	*d = *d*6364136223846793005 + 1442695040888963407
	return int(uint64(*d) >> 33 % uint64(n))
}

// acts of n hands: one of them is asked for some, then one is again; seldom one that is none, or to push what is not to be. The rarer beginnings are, the more steps are taken by hands that do something.
func (d *draw) acts(n, count, longest, rarer int) []act {
	var out []act
	for len(out) < count {
		p := d.below(n)
		if d.below(40) == 0 {
			p = d.below(9) - 2
		}
		for range 1 + d.below(longest) {
			a := act{hand: p}
			if d.below(rarer) == 0 {
				a = act{p, pops, 0}
			} else if d.below(rarer) == 0 {
				a = act{p, pushes, d.below(api.MaxValue + 1)}
			}
			if a.kind == pushes && d.below(20) == 0 {
				a.value = []int{-1, 0, api.MaxValue, api.MaxValue + 1}[d.below(4)]
			}
			out = append(out, a)
		}
	}
	return out[:count]
}

// drawn is what is asked of n hands, the same each time.
func drawn(n, count int) []act {
	d := draw(n)
	return d.acts(n, count, 9, 4)
}

// What may befall a node.
const (
	taken  = iota // with a value
	linked        // to a next one
	raised        // to be on top
	freed
)

// event is what befell a node; of Top that has no node it is -1.
type event struct{ kind, node, what int }

// model is another way to tell what hands do. All that ever befell stands in a row, as it came; which nodes are used, and what they have, and Top and its tag, is looked up in it anew each time.
type model struct {
	n    int
	tags bool
	row  []event
	does []doing
}

// doing of a hand.
type doing struct {
	begun int // how often it began
	kind  int
	node  int   // that it pushes
	saw   []int // since it began, or began anew: Top's node and tag, and the next one
}

func freshModel(n int, tags bool) model { return model{n: n, tags: tags, does: make([]doing, n)} }

// clone shares with the model what is never written into alone.
func (w *model) clone() model {
	return model{w.n, w.tags, slices.Clip(w.row), slices.Clone(w.does)}
}

// befell a node.
func (w *model) befell(kind, node, what int) { w.row = append(w.row, event{kind, node, what}) }

// last of the events of some kinds that befell a node, or any node, if it is -1; and whether there is one.
func (w *model) last(node int, kinds ...int) (event, bool) {
	for _, e := range slices.Backward(w.row) {
		if (node == -1 || e.node == node) && slices.Contains(kinds, e.kind) {
			return e, true
		}
	}
	return event{}, false
}

func (w *model) used(node int) bool {
	e, ok := w.last(node, taken, freed)
	return ok && e.kind == taken
}

// top is Top's node and tag.
func (w *model) top() []int {
	count := 0
	for _, e := range w.row {
		if e.kind == raised {
			count++
		}
	}
	e, ok := w.last(-1, raised)
	switch {
	case !ok:
		return []int{-1, 0}
	case !w.tags:
		return []int{e.node, 0}
	}
	return []int{e.node, count}
}

// do what is asked.
func (w *model) do(a act) answer {
	var out answer
	none := a.hand < 0 || a.hand >= w.n
	switch {
	case none, a.kind == pushes && (a.value < 0 || a.value > 1000):
		out.err = api.ErrRange
	case (a.kind == steps) == (w.does[a.hand].kind == steps):
		out.err = api.ErrState
	case a.kind == pushes && w.used(0) && w.used(1) && w.used(2) && w.used(3):
		out.err = api.ErrFull
	case a.kind != steps:
		w.begin(a)
	case w.does[a.hand].kind == pushes:
		w.stepPush(&w.does[a.hand], &out)
	default:
		w.stepPop(&w.does[a.hand], &out)
	}
	return out
}

// begin what is asked, which may be.
func (w *model) begin(a act) {
	d := doing{begun: w.does[a.hand].begun + 1, kind: a.kind}
	if a.kind == pushes {
		for w.used(d.node) {
			d.node++
		}
		w.befell(taken, d.node, a.value)
	}
	w.does[a.hand] = d
}

// stepPush of a hand: at the first one it sees Top, and at the second one it compares.
func (w *model) stepPush(d *doing, out *answer) {
	now := w.top()
	switch {
	case d.saw == nil:
		d.saw = now
		w.befell(linked, d.node, now[0])
	case !slices.Equal(d.saw, now):
		d.saw = nil
	default:
		w.befell(raised, d.node, 0)
		*d = doing{begun: d.begun}
		out.done, out.got = true, -1
	}
}

// stepPop of a hand: at the first one it sees Top, at the second one the next one, and at the third one it compares.
func (w *model) stepPop(d *doing, out *answer) {
	now := w.top()
	switch {
	case d.saw == nil && now[0] == -1:
		*d = doing{begun: d.begun}
		out.done, out.got = true, -1
	case d.saw == nil:
		d.saw = now
	case len(d.saw) == 2:
		e, _ := w.last(d.saw[0], linked)
		d.saw = append(slices.Clone(d.saw), e.what)
	case !slices.Equal(d.saw[:2], now):
		d.saw = nil
	default:
		e, _ := w.last(now[0], taken)
		w.befell(raised, d.saw[2], 0)
		w.befell(freed, now[0], 0)
		*d = doing{begun: d.begun}
		out.done, out.got = true, e.what
	}
}

// line at which a hand is to be.
func (w *model) line(p int) int {
	switch d := w.does[p]; d.kind {
	case pushes:
		return 1 + len(d.saw)/2
	case pops:
		return 3 + (len(d.saw)+1)/2
	}
	return 0
}

// shown is all that a stack is to tell where the model is.
func (w *model) shown() string {
	lines := ""
	for p := range w.n {
		lines += fmt.Sprint(w.line(p), " ")
	}
	now := w.top()
	return lines + fmt.Sprint(now[0], " ", now[1])
}

// known is all on which it hangs what the model tells from here on.
func (w *model) known() string {
	out := fmt.Sprint(w.top(), w.does)
	for k := range api.MaxFew {
		value, _ := w.last(k, taken)
		next, _ := w.last(k, linked)
		out += fmt.Sprint(" ", w.used(k), value.what, next.what)
	}
	return out
}

// values of the nodes that follow each other, from Top on; nil, if one comes again, or is not used.
func (w *model) values() []int {
	out := []int{}
	for k := w.top()[0]; k != -1; {
		if len(out) == api.MaxFew || !w.used(k) {
			return nil
		}
		value, _ := w.last(k, taken)
		next, _ := w.last(k, linked)
		out = append(out, value.what)
		k = next.what
	}
	return out
}

// spot is one of the things that a stack may come to, and what the model says of it.
type spot struct {
	stack stack.Stack
	told  model
}

// checkAct: an act is told of, and leads to, what the model says; what is told is given back.
func checkAct(t *testing.T, then *spot, a act) answer {
	t.Helper()
	w := &then.told
	before, pushed := w.values(), -1
	if 0 <= a.hand && a.hand < w.n && w.does[a.hand].kind == pushes {
		value, _ := w.last(w.does[a.hand].node, taken)
		pushed = value.what
	}
	got, want := a.in(&then.stack), w.do(a)
	if got != want {
		t.Fatalf("of %d, tags %v, %v, which leads to %s: got %v, want %v", w.n, w.tags, a, w.shown(), got, want)
	}
	if shown := shown(&then.stack, w.n); shown != w.shown() {
		t.Fatalf("of %d, tags %v, %v: got %s, want %s", w.n, w.tags, a, shown, w.shown())
	}
	if w.tags {
		checkOneByOne(t, a, got, pushed, before, w.values())
	}
	return got
}

// checkOneByOne: with tags, all that hands do together happens one by one, when they are done: who pushed puts its value ahead of all, who popped takes the one that was ahead of all, or finds nothing; and nothing else changes what is on the stack.
func checkOneByOne(t *testing.T, a act, got answer, pushed int, before, after []int) {
	t.Helper()
	want := before
	switch {
	case got.done && pushed != -1:
		want = append([]int{pushed}, before...)
	case got.done && got.got != -1 && len(before) > 0 && before[0] == got.got:
		want = before[1:]
	case got.done && (got.got != -1 || len(before) > 0):
		t.Fatalf("%v pops %d of %v", a, got.got, before)
	}
	if after == nil || !slices.Equal(after, want) {
		t.Fatalf("%v, which tells %v: %v is on the stack, want %v", a, got, after, want)
	}
}

// TestModel: much of what may be asked, right and wrong, with tags and without, against another way to tell what hands do.
func TestModel(t *testing.T) {
	d := draw(5)
	told := map[answer]int{}
	for n := 1; n <= api.MaxHands; n++ {
		for round := range 120 {
			tags := round%2 == 0
			here := spot{*fresh(t, n, tags), freshModel(n, tags)}
			for _, a := range d.acts(n, 500, 1+round%20, 3+round%8) {
				got := checkAct(t, &here, a)
				if got.done {
					got.got = min(got.got, 0)
				}
				told[got]++
			}
		}
	}
	for _, want := range []answer{
		{}, {true, -1, api.OK}, {true, 0, api.OK},
		{err: api.ErrRange}, {err: api.ErrState}, {err: api.ErrFull},
	} {
		if told[want] < 1000 {
			t.Errorf("%v was told %d times", want, told[want])
		}
		delete(told, want)
	}
	if len(told) > 0 {
		t.Errorf("what is never to be told was: %v", told)
	}
}

// TestBroken: without tags what is on the stack may come to be such as no one by one leads to, where a node is not used, or comes again; that too is told as the model does, whatever is asked then.
func TestBroken(t *testing.T) {
	d := draw(7)
	for n := 2; n <= api.MaxHands; n++ {
		broken := 0
		for round := range 400 {
			here := spot{*fresh(t, n, false), freshModel(n, false)}
			for _, a := range slices.Concat(script(breaks), d.acts(n, 60, 1+round%9, 2+round%5)) {
				checkAct(t, &here, a)
				if here.told.values() == nil {
					broken++
				}
			}
		}
		if broken < 3000 {
			t.Errorf("of %d: that was so behind %d acts", n, broken)
		}
	}
}

// went is which ways a hand has gone, from a line to a line.
type went [api.MaxHands][6][6]bool

// TestEverywhere: where each hand does some things, one behind the other, + to push and - to pop, a stack tells what the model does whoever goes on, in all that they may come to, with tags and without; and each hand goes each way.
func TestEverywhere(t *testing.T) {
	for _, plans := range [][]string{
		{"-++++----+--"},
		{"+-+-+-", "-+-+-+"}, {"+-++--", "+-++--"}, {"-+-", "+++++"}, {"+--+--", "+--++---"},
		{"+-", "+-", "+-"}, {"++", "-", "--"}, {"-", "+-+-", "+"}, {"-+", "++", "--"}, {"-+-", "+--+", "+"}, {"+--", "+--+", "+"},
		{"+", "+", "-", "-"}, {"+", "+", "+", "-+"}, {"-", "-", "-", "+++"}, {"+-", "", "-", "+-"}, {"-", "-+-", "+", "+"},
	} {
		for _, tags := range both {
			t.Run(fmt.Sprint(plans, tags), func(t *testing.T) {
				t.Parallel()
				checkPlans(t, plans, tags)
			})
		}
	}
}

// checkPlans of hands. It leans on a stack being a value: two that are the same do the same. All that so many acts lead to is looked through behind what one less does; an act that is wrong is none, since it changes nothing.
func checkPlans(t *testing.T, plans []string, tags bool) {
	t.Helper()
	n := len(plans)
	var gone went
	known := map[string]stack.Stack{}
	layer := []spot{{*fresh(t, n, tags), freshModel(n, tags)}}
	for len(layer) > 0 {
		layer = actOn(t, plans, layer, known, &gone)
	}
	checkWent(t, plans, &gone)
}

// actOn is all to which one act leads and none ahead of it did, each once.
func actOn(t *testing.T, plans []string, layer []spot, known map[string]stack.Stack, gone *went) []spot {
	t.Helper()
	var next []spot
	for i := range layer {
		here := &layer[i]
		for p, plan := range plans {
			checkWrong(t, here, p)
			a, ok := here.told.planned(p, plan)
			if !ok {
				continue
			}
			then := spot{here.stack, here.told.clone()}
			checkAct(t, &then, a)
			gone[p][here.told.line(p)][then.told.line(p)] = true
			key := then.told.known()
			other, found := known[key]
			if !found {
				known[key] = then.stack
				next = append(next, then)
			} else if other != then.stack {
				t.Fatalf("of %d, two ways lead to what is not the same: %s", len(plans), shown(&then.stack, len(plans)))
			}
		}
	}
	return next
}

// planned is the next act of a hand that is to do some things, unless all are done. What is pushed tells who pushed it, and when.
func (w *model) planned(p int, plan string) (act, bool) {
	d := w.does[p]
	switch {
	case d.kind != steps:
		return act{hand: p}, true
	case d.begun == len(plan):
		return act{}, false
	case plan[d.begun] == '-':
		return act{p, pops, 0}, true
	}
	return act{p, pushes, 20*p + d.begun + 1}, true
}

// checkWrong: to begin where a hand does something, and a step where it does nothing, tell ErrState and change nothing.
func checkWrong(t *testing.T, here *spot, p int) {
	t.Helper()
	wrong := []act{{p, pops, 0}, {p, pushes, 3}}
	if here.told.line(p) == 0 {
		wrong = []act{{hand: p}}
	}
	for _, a := range wrong {
		then := here.stack
		if got := a.in(&then); got != (answer{err: api.ErrState}) || then != here.stack {
			t.Fatalf("of %d, at %s, %v: got %v, and %s", here.told.n, here.told.shown(), a, got, shown(&then, here.told.n))
		}
	}
}

// checkWent: each hand goes each way that what it does has; where it is alone it comes back to no line. That it stays at line 0, all nodes being used, and that it finds nothing, having pushed itself, hangs on what the others do.
func checkWent(t *testing.T, plans []string, gone *went) {
	t.Helper()
	var want went
	for p, plan := range plans {
		alone, puts, gets := len(plans) == 1, strings.Contains(plan, "+"), strings.Contains(plan, "-")
		want[p][0][1], want[p][1][2], want[p][2][0], want[p][2][1] = puts, puts, puts, puts && !alone
		want[p][0][3], want[p][3][4], want[p][4][5] = gets, gets, gets
		want[p][5][0], want[p][5][3] = gets, gets && !alone
		want[p][0][0] = gone[p][0][0]
		want[p][3][0] = gone[p][3][0] || strings.HasPrefix(plan, "-")
	}
	if *gone != want {
		t.Errorf("plans %q, the ways that are gone are %v, want %v", plans, *gone, want)
	}
}
