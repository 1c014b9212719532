package filter_test

import (
	"fmt"
	"iter"
	"testing"

	"latchgarth/api"
	"latchgarth/filter"
)

// draw gives numbers from 0 to below n by a short rule, the same ones each time.
type draw uint64

func (d *draw) below(n int) int {
	*d = *d*6364136223846793005 + 1442695040888963407
	return int(uint64(*d) >> 33 % uint64(n))
}

// steps of n hands: one of them takes some, then one does again.
func (d *draw) steps(n, count, longest int) []int {
	var out []int
	for len(out) < count {
		p := d.below(n)
		for range 1 + d.below(longest) {
			out = append(out, p)
		}
	}
	return out[:count]
}

// drawn is a script of n hands, the same one each time.
func drawn(n, count int) []int {
	d := draw(n)
	return d.steps(n, count, 4)
}

// model is another way to tell what hands do, without lines that are gone to, or numbers of their own.
type model struct {
	come []int       // the door to which each hand has come, if to any
	last map[int]int // one more than the hand that came last to a door, if any did
}

// hand says at which line it stands, and does it when it is asked for the next one.
func (w *model) hand(p int) iter.Seq[int] {
	return func(stands func(int) bool) {
		for {
			for door := 1; door == 1 || door < len(w.come); door++ {
				if !w.passes(p, door, stands) {
					return
				}
			}
			if !stands(5) || !stands(6) {
				return
			}
			w.come[p] = 0
		}
	}
}

// passes does what a hand does at a door; false, if it is asked no more.
func (w *model) passes(p, door int, stands func(int) bool) bool {
	if !stands(1) {
		return false
	}
	w.come[p] = door
	if !stands(2) {
		return false
	}
	w.last[door] = p + 1
	for stands(3) {
		if w.last[door] != p+1 {
			return true
		}
		if free, asked := w.looks(p, door, stands); free || !asked {
			return asked
		}
	}
	return false
}

// looks at all hands, one a line: is none of the others at the door, or beyond it; and is it asked still?
func (w *model) looks(p, door int, stands func(int) bool) (free, asked bool) {
	for k := range w.come {
		if !stands(4) {
			return false, false
		}
		if k != p && w.come[k] >= door {
			return false, true
		}
	}
	return true, true
}

func (w *model) words() []int {
	out := append([]int{}, w.come...)
	for j := range w.come {
		out = append(out, w.last[j+1])
	}
	return out
}

// TestModel: many scripts, against another way to tell what hands do.
func TestModel(t *testing.T) {
	d := draw(5)
	for n := 1; n <= api.MaxHands; n++ {
		for round := range 300 {
			checkModel(t, n, d.steps(n, 200, 1+round%6))
		}
	}
}

func checkModel(t *testing.T, n int, steps []int) {
	t.Helper()
	w := model{come: make([]int, n), last: map[int]int{}}
	at := make([]int, n)
	next := make([]func() (int, bool), n)
	for p := range n {
		var stop func()
		next[p], stop = iter.Pull(w.hand(p))
		defer stop()
		at[p], _ = next[p]()
	}
	l := fresh(t, n)
	for i, p := range steps {
		at[p], _ = next[p]()
		err := l.Step(p)
		want := ""
		for _, line := range at {
			want += fmt.Sprint(line, " ")
		}
		want += fmt.Sprint(w.words())
		if err != nil || shown(l, n) != want {
			t.Fatalf("of %d, after %v: got %s %v, want %s", n, steps[:i+1], shown(l, n), err, want)
		}
	}
}

// place is one of the things that a lock may come to, and which ones it comes to by a step of each hand.
type place struct {
	lock filter.Lock
	next []int
}

// rests tells whether hand p asks for nothing.
func (here *place) rests(p int) bool { return here.lock.At(p) == 1 && here.lock.Words()[p] == 0 }

// waits tells whether hand p asks to come in, and isn't in yet.
func (here *place) waits(p int) bool { return here.lock.At(p) < 5 && !here.rests(p) }

// everywhere is all that a lock for n hands may come to, each once, the new one first. It leans on a lock being a value: two that are the same do the same.
func everywhere(t *testing.T, n int) []place {
	t.Helper()
	found := []place{{lock: *fresh(t, n)}}
	known := map[filter.Lock]int{found[0].lock: 0}
	for i := 0; i < len(found); i++ {
		next := make([]int, n)
		for p := range n {
			l := found[i].lock
			step(t, &l, p)
			number, ok := known[l]
			if !ok {
				number = len(found)
				known[l] = number
				found = append(found, place{lock: l})
			}
			next[p] = number
		}
		found[i].next = next
	}
	return found
}

// TestEverywhere: by whatever script, one hand at most is in, and each hand may be; a hand that is alone comes in; and none waits for ever.
func TestEverywhere(t *testing.T) {
	for n := 1; n <= api.MaxHands; n++ {
		known := everywhere(t, n)
		checkOneIn(t, n, known)
		checkAlone(t, n, known)
		for p := range n {
			checkNoneWaits(t, n, known, p)
		}
	}
}

func checkOneIn(t *testing.T, n int, known []place) {
	t.Helper()
	often := make([]int, n)
	for _, here := range known {
		in := 0
		for p := range n {
			if here.lock.At(p) == 5 {
				in++
				often[p]++
			}
		}
		if in > 1 {
			t.Errorf("%d are in: %s", in, shown(&here.lock, n))
		}
	}
	for p, count := range often {
		if count == 0 {
			t.Errorf("of %d, hand %d is never in", n, p)
		}
	}
}

// checkAlone: from wherever all others ask for nothing, and take no step, a hand comes in.
func checkAlone(t *testing.T, n int, known []place) {
	t.Helper()
	for i := range known {
		for p := range n {
			others := false
			for q := range n {
				others = others || q != p && !known[i].rests(q)
			}
			if others {
				continue
			}
			at := i
			for range 100 {
				if known[at].lock.At(p) == 5 {
					break
				}
				at = known[at].next[p]
			}
			if known[at].lock.At(p) != 5 {
				t.Errorf("from %s on, hand %d alone is at last at %s", shown(&known[i].lock, n), p, shown(&known[at].lock, n))
			}
		}
	}
}

// checkNoneWaits: there are no rounds on which hand p waits all the time while each hand takes steps, or asks for nothing: whatever comes again and again together is looked through at once.
func checkNoneWaits(t *testing.T, n int, known []place, p int) {
	t.Helper()
	waiting := 0
	group := rounds(known, func(i int) bool { return known[i].waits(p) })
	goesOn := map[int][]bool{} // of each group: which hands take a step in it, or ask for nothing
	for i, g := range group {
		if g == 0 {
			continue
		}
		waiting++
		if goesOn[g] == nil {
			goesOn[g] = make([]bool, n)
		}
		for q, next := range known[i].next {
			goesOn[g][q] = goesOn[g][q] || group[next] == g || known[i].rests(q)
		}
	}
	if waiting == 0 {
		t.Errorf("of %d, hand %d waits nowhere", n, p)
	}
	for i, g := range group {
		all := g != 0
		for q := range n {
			all = all && goesOn[g][q]
		}
		if all {
			t.Fatalf("of %d, hand %d may wait for ever from %s on", n, p, shown(&known[i].lock, n))
		}
	}
}

// rounds numbers from 1 on the groups of places that come from each other, by way of those alone that are asked for; 0 are all others.
func rounds(known []place, asked func(int) bool) []int {
	group, seen, low := make([]int, len(known)), make([]int, len(known)), make([]int, len(known))
	count, groups := 0, 0
	var open []int
	var walk func(int)
	walk = func(i int) {
		count++
		seen[i], low[i] = count, count
		open = append(open, i)
		for _, next := range known[i].next {
			if !asked(next) || group[next] != 0 {
				continue
			}
			if seen[next] == 0 {
				walk(next)
			}
			low[i] = min(low[i], low[next])
		}
		if low[i] != seen[i] {
			return
		}
		groups++
		for last := -1; last != i; {
			last = open[len(open)-1]
			open = open[:len(open)-1]
			group[last] = groups
		}
	}
	for i := range known {
		if asked(i) && seen[i] == 0 {
			walk(i)
		}
	}
	return group
}
