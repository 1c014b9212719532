package fifo_test

import (
	"fmt"
	"slices"
	"strings"
	"testing"

	"latchgarth/api"
	"latchgarth/fifo"
	"latchgarth/plain"
)

// What a hand may be asked for.
const (
	steps = iota
	gets
	puts
)

// act is what is asked of a hand.
type act struct{ hand, kind, value int }

// answer to it; Put and Get tell an error alone.
type answer struct {
	done bool
	got  int
	err  api.Errno
}

// in a queue it is done.
func (a act) in(q *fifo.Queue) answer {
	switch a.kind {
	case gets:
		return answer{err: plain.Told(q.Get(a.hand))}
	case puts:
		return answer{err: plain.Told(q.Put(a.hand, a.value))}
	}
	done, got, err := q.Step(a.hand)
	return answer{done, got, plain.Told(err)}
}

// draw gives numbers from 0 to below n by a short rule, the same ones each time.
type draw uint64

func (d *draw) below(n int) int {
	*d = *d*6364136223846793005 + 1442695040888963407
	return int(uint64(*d) >> 33 % uint64(n))
}

// acts of n hands: one of them is asked for some, then one is again; seldom one that is none, or to put what is not to be. The rarer beginnings are, the more steps are taken by hands that do something.
func (d *draw) acts(n, count, longest, rarer int) []act {
	var out []act
	for len(out) < count {
		p := d.below(n)
		if d.below(40) == 0 {
			p = d.below(9) - 2
		}
		for range 1 + d.below(longest) {
			a := act{hand: p}
			if d.below(rarer) == 0 {
				a = act{p, gets, 0}
			} else if d.below(rarer) == 0 {
				a = act{p, puts, d.below(api.MaxValue + 1)}
			}
			if a.kind == puts && d.below(20) == 0 {
				a.value = []int{-1, 0, api.MaxValue, api.MaxValue + 1}[d.below(4)]
			}
			out = append(out, a)
		}
	}
	return out[:count]
}

// drawn is what is asked of n hands, the same each time.
func drawn(n, count int) []act {
	d := draw(n)
	return d.acts(n, count, 9, 4)
}

// What may befall the queue.
const (
	taken  = iota // a node, with a value
	linked        // a node, to a next one
	headed        // Head is a node from now on
	tailed        // Tail is
)

// event is what befell a node.
type event struct{ kind, node, what int }

// model is another way to tell what hands do. All that ever befell stands in a row, as it came; how many nodes there are, what they have, and Head and Tail, is looked up in it anew each time.
type model struct {
	n    int
	row  []event
	does []doing
}

// doing of a hand.
type doing struct {
	begun int // how often it began
	kind  int
	node  int   // that it puts in
	is    bool  // is that one in?
	saw   []int // since it began, or began anew: who puts t and x, who gets h, t and x
}

func freshModel(n int) model {
	return model{n, []event{{taken, 0, 0}}, make([]doing, n)}
}

// clone shares with the model what is never written into alone.
func (w *model) clone() model {
	return model{w.n, slices.Clip(w.row), slices.Clone(w.does)}
}

// befell a node.
func (w *model) befell(kind, node, what int) { w.row = append(w.row, event{kind, node, what}) }

// last of the events of a kind, of a node, or of any node, if it is -1; and whether there is one.
func (w *model) last(kind, node int) (event, bool) {
	for _, e := range slices.Backward(w.row) {
		if (node == -1 || e.node == node) && e.kind == kind {
			return e, true
		}
	}
	return event{}, false
}

// head is the node that Head is.
func (w *model) head() int {
	e, _ := w.last(headed, -1)
	return e.node
}

// tail is the node that Tail is.
func (w *model) tail() int {
	e, _ := w.last(tailed, -1)
	return e.node
}

// next one of a node; -1, if it has none.
func (w *model) next(node int) int {
	if e, ok := w.last(linked, node); ok {
		return e.what
	}
	return -1
}

func (w *model) value(node int) int {
	e, _ := w.last(taken, node)
	return e.what
}

// count of nodes.
func (w *model) count() int {
	out := 0
	for _, e := range w.row {
		if e.kind == taken {
			out++
		}
	}
	return out
}

// do what is asked.
func (w *model) do(a act) answer {
	var out answer
	none := a.hand < 0 || a.hand >= w.n
	switch {
	case none, a.kind == puts && (a.value < 0 || a.value > 1000):
		out.err = api.ErrRange
	case (a.kind == steps) == (w.does[a.hand].kind == steps):
		out.err = api.ErrState
	case a.kind == puts && w.count() == 40:
		out.err = api.ErrFull
	case a.kind != steps:
		w.begin(a)
	case w.does[a.hand].kind == puts:
		w.stepPut(&w.does[a.hand], &out)
	default:
		w.stepGet(&w.does[a.hand], &out)
	}
	return out
}

// begin what is asked, which may be.
func (w *model) begin(a act) {
	d := doing{begun: w.does[a.hand].begun + 1, kind: a.kind}
	if a.kind == puts {
		d.node = w.count()
		w.befell(taken, d.node, a.value)
	}
	w.does[a.hand] = d
}

// stepPut of a hand: it sees t, then x; then it helps, or links, if it yet may, and behind that moves Tail on.
func (w *model) stepPut(d *doing, out *answer) {
	switch {
	case d.is:
		if w.tail() == d.saw[0] {
			w.befell(tailed, d.node, 0)
		}
		*d = doing{begun: d.begun}
		out.done, out.got = true, -1
	case len(d.saw) == 0:
		d.saw = []int{w.tail()}
	case len(d.saw) == 1:
		d.saw = []int{d.saw[0], w.next(d.saw[0])}
	case d.saw[1] >= 0:
		w.help(d, d.saw[0], d.saw[1])
	case w.next(d.saw[0]) >= 0:
		d.saw = nil
	default:
		w.befell(linked, d.saw[0], d.node)
		d.is = true
	}
}

// stepGet of a hand: it sees h, then t, then x; then it helps, or takes, if it yet may.
func (w *model) stepGet(d *doing, out *answer) {
	switch len(d.saw) {
	case 0:
		d.saw = []int{w.head()}
		return
	case 1:
		d.saw = []int{d.saw[0], w.tail()}
		return
	case 2:
		d.saw = []int{d.saw[0], d.saw[1], w.next(d.saw[0])}
		if d.saw[0] == d.saw[1] && d.saw[2] == -1 {
			*d = doing{begun: d.begun}
			out.done, out.got = true, -1
		}
		return
	}
	h, x := d.saw[0], d.saw[2]
	switch {
	case h == d.saw[1]:
		w.help(d, h, x)
	case w.head() != h:
		d.saw = nil
	default:
		w.befell(headed, x, 0)
		*d = doing{begun: d.begun}
		out.done, out.got = true, w.value(x)
	}
}

// help who put x in behind t, if that is needed yet, and begin anew.
func (w *model) help(d *doing, t, x int) {
	if w.tail() == t {
		w.befell(tailed, x, 0)
	}
	d.saw = nil
}

// line at which a hand is to be.
func (w *model) line(p int) int {
	d := w.does[p]
	switch {
	case d.kind == puts && d.is:
		return 5
	case d.kind == puts && len(d.saw) == 2 && d.saw[1] >= 0:
		return 4
	case d.kind == puts:
		return 1 + len(d.saw)
	case d.kind == gets && len(d.saw) == 3 && d.saw[0] != d.saw[1]:
		return 10
	case d.kind == gets:
		return 6 + len(d.saw)
	}
	return 0
}

// shown is all that a queue is to tell where the model is.
func (w *model) shown() string {
	lines := ""
	for p := range w.n {
		lines += fmt.Sprint(w.line(p), " ")
	}
	return lines + fmt.Sprint(w.head(), " ", w.tail())
}

// known is all on which it hangs what the model tells from here on.
func (w *model) known() string {
	out := fmt.Sprint(w.head(), w.tail(), w.does)
	for k := range w.count() {
		out += fmt.Sprint(" ", w.value(k), w.next(k))
	}
	return out
}

// chain of the nodes that follow each other, from Head on.
func (w *model) chain() []int {
	var out []int
	for k := w.head(); k != -1; k = w.next(k) {
		out = append(out, k)
	}
	return out
}

// values that are in, in their order.
func (w *model) values() []int {
	out := []int{}
	for _, k := range w.chain()[1:] {
		out = append(out, w.value(k))
	}
	return out
}

// spot is one of the things that a queue may come to, and what the model says of it.
type spot struct {
	queue fifo.Queue
	told  model
}

// checkAct: an act is told of, and leads to, what the model says; what is told is given back.
func checkAct(t *testing.T, then *spot, a act) answer {
	t.Helper()
	w := &then.told
	before, from := w.values(), 0
	if 0 <= a.hand && a.hand < w.n {
		from = w.line(a.hand)
	}
	got, want := a.in(&then.queue), w.do(a)
	if got != want {
		t.Fatalf("of %d, %v, which leads to %s: got %v, want %v", w.n, a, w.shown(), got, want)
	}
	if shown := shown(&then.queue, w.n); shown != w.shown() {
		t.Fatalf("of %d, %v: got %s, want %s", w.n, a, shown, w.shown())
	}
	checkOneByOne(t, w, a, got, from, before)
	chain := w.chain()
	if k := slices.Index(chain, w.tail()); k == -1 || k < len(chain)-2 {
		t.Fatalf("of %d, %v: Tail is %d, and the nodes from Head on are %v", w.n, a, w.tail(), chain)
	}
	return got
}

// checkOneByOne: all that hands do together happens one by one, at a step of the hand itself: who puts puts its value in behind all, once, at line 3; who gets takes the one that is ahead of all, at the step that ends it, or finds nothing then; and nothing else changes what is in.
func checkOneByOne(t *testing.T, w *model, a act, got answer, from int, before []int) {
	t.Helper()
	want := before
	switch {
	case from == 3 && a.kind == steps && w.line(a.hand) == 5:
		want = append(slices.Clone(before), w.value(w.does[a.hand].node))
	case from == 10 && got.done && len(before) > 0 && before[0] == got.got:
		want = before[1:]
	case from == 10 && got.done, from == 8 && got.done && len(before) > 0:
		t.Fatalf("%v gets %d of %v", a, got.got, before)
	}
	if after := w.values(); !slices.Equal(after, want) {
		t.Fatalf("%v, from line %d, which tells %v: %v is in, want %v", a, from, got, after, want)
	}
}

// TestModel: much of what may be asked, right and wrong, against another way to tell what hands do.
func TestModel(t *testing.T) {
	d := draw(5)
	told := map[answer]int{}
	for n := 1; n <= api.MaxHands; n++ {
		for round := range 60 {
			here := spot{*fresh(t, n), freshModel(n)}
			for _, a := range d.acts(n, 1600, 1+round%20, 3+round%8) {
				got := checkAct(t, &here, a)
				if got.done {
					got.got = min(got.got, 0)
				}
				told[got]++
			}
		}
	}
	for _, want := range []answer{
		{}, {true, -1, api.OK}, {true, 0, api.OK},
		{err: api.ErrRange}, {err: api.ErrState}, {err: api.ErrFull},
	} {
		if told[want] < 1000 {
			t.Errorf("%v was told %d times", want, told[want])
		}
		delete(told, want)
	}
	if len(told) > 0 {
		t.Errorf("what is never to be told was: %v", told)
	}
}

// TestAlone: wherever all stand, a hand that goes on alone is done soon: it begins anew at most once because of what it saw ahead of that, and once since Tail is behind; then it is through.
func TestAlone(t *testing.T) {
	d := draw(9)
	for n := 1; n <= api.MaxHands; n++ {
		for round := range 40 {
			q := *fresh(t, n)
			for _, a := range d.acts(n, 300, 1+round%9, 3+round%8) {
				a.in(&q)
				for p := range n {
					checkAlone(t, q, p)
				}
			}
		}
	}
}

// checkAlone: a hand that does something, and goes on alone, is done by no more steps than it may take.
func checkAlone(t *testing.T, q fifo.Queue, p int) {
	t.Helper()
	at, most := q.At(p), []int{0, 7, 9, 8, 8, 1, 8, 11, 10, 9, 9}
	for range most[at] {
		if q.At(p) != 0 {
			q.Step(p)
		}
	}
	if now := q.At(p); now != 0 {
		t.Fatalf("hand %d, from line %d on, is at line %d behind %d steps", p, at, now, most[at])
	}
}

// went is which ways a hand has gone, from a line to a line.
type went [11][11]bool

// TestEverywhere: where each hand does some things, one behind the other, + to put and - to get, a queue tells what the model does whoever goes on, in all that they may come to; and hands go each way that there is, and no other.
func TestEverywhere(t *testing.T) {
	for _, plans := range [][]string{
		{"-++--+---++"},
		{"+-+-+-", "-+-+-+"}, {"++--", "++--"}, {"--", "++++"}, {"+--", "+++-"}, {"+++-", "---+"},
		{"++", "-", "-"}, {"-", "-", "++"}, {"+", "+", "--"}, {"+-", "+-", "+-"}, {"+-", "-+", "+-"}, {"++", "+-", "--"},
		{"+", "+", "+", "+"}, {"+", "+", "+", ""}, {"+", "+", "-", "-+"}, {"-", "-", "-", "+"}, {"-", "+-", "-", "+"},
	} {
		t.Run(fmt.Sprint(plans), func(t *testing.T) {
			t.Parallel()
			checkPlans(t, plans)
		})
	}
}

// checkPlans of hands. It leans on a queue being a value: two that are the same do the same. All that so many acts lead to is looked through behind what one less does; an act that is wrong is none, since it changes nothing.
func checkPlans(t *testing.T, plans []string) {
	t.Helper()
	n := len(plans)
	var gone went
	known := map[string]fifo.Queue{}
	layer := []spot{{*fresh(t, n), freshModel(n)}}
	for len(layer) > 0 {
		layer = actOn(t, plans, layer, known, &gone)
	}
	checkWent(t, plans, &gone)
}

// actOn is all to which one act leads and none ahead of it did, each once.
func actOn(t *testing.T, plans []string, layer []spot, known map[string]fifo.Queue, gone *went) []spot {
	t.Helper()
	var next []spot
	for i := range layer {
		here := &layer[i]
		for p, plan := range plans {
			checkWrong(t, here, p)
			a, ok := here.told.planned(p, plan)
			if !ok {
				continue
			}
			then := spot{here.queue, here.told.clone()}
			checkAct(t, &then, a)
			gone[here.told.line(p)][then.told.line(p)] = true
			key := then.told.known()
			other, found := known[key]
			if !found {
				known[key] = then.queue
				next = append(next, then)
			} else if other != then.queue {
				t.Fatalf("of %d, two ways lead to what is not the same: %s", len(plans), shown(&then.queue, len(plans)))
			}
		}
	}
	return next
}

// planned is the next act of a hand that is to do some things, unless all are done. What is put in tells who put it, and when.
func (w *model) planned(p int, plan string) (act, bool) {
	d := w.does[p]
	switch {
	case d.kind != steps:
		return act{hand: p}, true
	case d.begun == len(plan):
		return act{}, false
	case plan[d.begun] == '-':
		return act{p, gets, 0}, true
	}
	return act{p, puts, 20*p + d.begun + 1}, true
}

// checkWrong: to begin where a hand does something, and a step where it does nothing, tell ErrState and change nothing.
func checkWrong(t *testing.T, here *spot, p int) {
	t.Helper()
	wrong := []act{{p, gets, 0}, {p, puts, 3}}
	if here.told.line(p) == 0 {
		wrong = []act{{hand: p}}
	}
	for _, a := range wrong {
		then := here.queue
		if got := a.in(&then); got != (answer{err: api.ErrState}) || then != here.queue {
			t.Fatalf("of %d, at %s, %v: got %v, and %s", here.told.n, here.told.shown(), a, got, shown(&then, here.told.n))
		}
	}
}

// runsOut: does a hand that does so get more often than it has put? Where none does, something is in, and moved on to, for each that gets.
func runsOut(plan string) bool {
	in := 0
	for _, c := range plan {
		if c == '+' {
			in++
		} else if in--; in < 0 {
			return true
		}
	}
	return false
}

// checkWent: hands go each way that there is. Who puts finds Tail behind, or is late, where another one puts too; who gets finds Tail behind, where another one puts, and is late where another one gets too.
func checkWent(t *testing.T, plans []string, gone *went) {
	t.Helper()
	var want went
	ways := func(are bool, list ...[2]int) {
		for _, way := range list {
			want[way[0]][way[1]] = want[way[0]][way[1]] || are
		}
	}
	for p, plan := range plans {
		rest := strings.Join(slices.Delete(slices.Clone(plans), p, p+1), "")
		putsIn, getsOut := strings.Contains(plan, "+"), strings.Contains(plan, "-")
		ways(putsIn, [2]int{0, 1}, [2]int{1, 2}, [2]int{2, 3}, [2]int{3, 5}, [2]int{5, 0})
		ways(putsIn && strings.Contains(rest, "+"), [2]int{2, 4}, [2]int{4, 1}, [2]int{3, 1})
		ways(getsOut, [2]int{0, 6}, [2]int{6, 7}, [2]int{7, 8})
		ways(runsOut(plan), [2]int{8, 0})
		ways(runsOut(plan) && strings.Contains(rest, "+"), [2]int{8, 9}, [2]int{9, 6})
		ways(getsOut && strings.Contains(plan+rest, "+"), [2]int{8, 10}, [2]int{10, 0})
		ways(getsOut && strings.Contains(plan+rest, "+") && strings.Contains(rest, "-"), [2]int{10, 6})
	}
	if *gone != want {
		t.Errorf("plans %q, the ways that are gone are %v, want %v", plans, *gone, want)
	}
}
