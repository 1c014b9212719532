package clh_test

import (
	"fmt"
	"slices"
	"testing"

	"latchgarth/api"
	"latchgarth/clh"
)

// draw gives numbers from 0 to below n by a short rule, the same ones each time.
type draw uint64

func (d *draw) below(n int) int {
	*d = *d*6364136223846793005 + 1442695040888963407
	return int(uint64(*d) >> 33 % uint64(n))
}

// steps of n hands: one of them takes some, then one does again.
func (d *draw) steps(n, count, longest int) []int {
	var out []int
	for len(out) < count {
		p := d.below(n)
		for range 1 + d.below(longest) {
			out = append(out, p)
		}
	}
	return out[:count]
}

// drawn is a script of n hands, the same one each time.
func drawn(n, count int) []int {
	d := draw(n)
	return d.steps(n, count, 4)
}

// What a hand of the model does.
const (
	rests  = iota // it asks for nothing
	asks          // it asks to come into the row
	stands        // it stands in the row
	isIn          // it is in
	goes          // it goes out
)

// model is another way to tell what hands do, without T, and without asking any B: the B that are handed on stand in one row, the one that no hand has first, then those of the hands that have come and are not out, in order. It is a value: two that are the same do the same.
type model struct {
	n    int
	does [api.MaxHands]int
	own  [api.MaxHands]int // the B of each hand
	row  [api.MaxHands + 1]int
	many int // how many stand in the row
}

func freshModel(n int) model {
	w := model{n: n, many: 1}
	w.row[0] = n
	for p := range n {
		w.own[p] = p
	}
	return w
}

// then is what a step of a hand leads to.
func (w model) then(p int) model {
	switch w.does[p] {
	case rests:
		w.does[p] = asks
	case asks:
		w.does[p] = stands
		w.row[w.many] = w.own[p]
		w.many++
	case stands:
		if w.isFirst(p) {
			w.does[p] = isIn
		}
	case isIn:
		w.does[p] = goes
	case goes:
		w.does[p] = rests
		w.own[p] = w.row[0]
		copy(w.row[:], w.row[1:])
		w.many--
		w.row[w.many] = 0
	}
	return w
}

// isFirst tells whether hand p is the first one that has come and is not out.
func (w model) isFirst(p int) bool { return w.many > 1 && w.row[1] == w.own[p] }

// isInRow tells whether hand p has come and is not out.
func (w model) isInRow(p int) bool { return w.does[p] >= stands }

// shown is all that a lock is to tell where the model is.
func (w model) shown() string {
	out := ""
	words := make([]int, w.n+2)
	words[0] = w.row[w.many-1]
	for p := range w.n {
		out += fmt.Sprint([]int{rests: 1, asks: 2, stands: 3, isIn: 4, goes: 5}[w.does[p]], " ")
		if w.does[p] != rests {
			words[1+w.own[p]] = 1
		}
	}
	return out + fmt.Sprint(words)
}

// TestModel: many scripts, against another way to tell what hands do.
func TestModel(t *testing.T) {
	d := draw(5)
	for n := 1; n <= api.MaxHands; n++ {
		for round := range 300 {
			l, w := fresh(t, n), freshModel(n)
			steps := d.steps(n, 200, 1+round%6)
			for i, p := range steps {
				step(t, l, p)
				w = w.then(p)
				if got, want := shown(l, n), w.shown(); got != want {
					t.Fatalf("of %d, after %v: got %s, want %s", n, steps[:i+1], got, want)
				}
			}
		}
	}
}

// place is one of the things that a lock may come to, what the model says of it, and which ones it comes to by a step of each hand.
type place struct {
	lock clh.Lock
	told model
	next []int
}

// everywhere is all that a lock for n hands may come to, each once, the new one first. It leans on a lock being a value: two that are the same do the same.
func everywhere(t *testing.T, n int) []place {
	t.Helper()
	found := []place{{lock: *fresh(t, n), told: freshModel(n)}}
	known := map[model]int{found[0].told: 0}
	for i := 0; i < len(found); i++ {
		next := make([]int, n)
		for p := range n {
			l, w := found[i].lock, found[i].told.then(p)
			step(t, &l, p)
			number, ok := known[w]
			if !ok {
				number = len(found)
				known[w] = number
				found = append(found, place{lock: l, told: w})
			}
			if found[number].lock != l {
				t.Fatalf("of %d, what %s has come to hangs on how it came there: %v and %v", n, shown(&l, n), l, found[number].lock)
			}
			next[p] = number
		}
		found[i].next = next
	}
	return found
}

// TestEverywhere: by whatever script, a lock tells what the model does; one hand at most is in, the first one that has come and is not out, and each hand may be; and none waits for ever.
func TestEverywhere(t *testing.T) {
	for n := 1; n <= api.MaxHands; n++ {
		known := everywhere(t, n)
		checkTold(t, n, known)
		checkIn(t, n, known)
		checkGoesOn(t, n, known)
		for p := range n {
			checkNoneWaits(t, n, known, p)
		}
	}
}

func checkTold(t *testing.T, n int, known []place) {
	t.Helper()
	for _, here := range known {
		if got, want := shown(&here.lock, n), here.told.shown(); got != want {
			t.Fatalf("of %d: got %s, want %s", n, got, want)
		}
	}
}

func checkIn(t *testing.T, n int, known []place) {
	t.Helper()
	often := make([]int, n)
	for _, here := range known {
		in := 0
		for p := range n {
			if here.lock.At(p) != 4 {
				continue
			}
			in++
			often[p]++
			if !here.told.isFirst(p) {
				t.Fatalf("of %d, hand %d is in, and another one is ahead of it: %s", n, p, shown(&here.lock, n))
			}
		}
		if in > 1 {
			t.Fatalf("of %d, %d are in: %s", n, in, shown(&here.lock, n))
		}
	}
	for p, count := range often {
		if count == 0 {
			t.Errorf("of %d, hand %d is never in", n, p)
		}
	}
}

// checkGoesOn: each step leads to the next line, but that those stay that stand in the row behind the first one; and a hand that stays changes nothing.
func checkGoesOn(t *testing.T, n int, known []place) {
	t.Helper()
	for _, here := range known {
		for p := range n {
			then := known[here.next[p]]
			line := here.lock.At(p)
			if here.told.isInRow(p) && !here.told.isFirst(p) {
				if line != 3 || then.lock != here.lock {
					t.Fatalf("of %d, hand %d does not stay: %s", n, p, shown(&here.lock, n))
				}
			} else if then.lock.At(p) != line%5+1 {
				t.Fatalf("of %d, hand %d does not go on: %s", n, p, shown(&here.lock, n))
			}
		}
	}
}

// checkNoneWaits: there are no rounds on which hand p asks, and is not in, all the time while each hand takes steps, or asks for nothing: whatever comes again and again together is looked through at once.
func checkNoneWaits(t *testing.T, n int, known []place, p int) {
	t.Helper()
	waiting := 0
	group := rounds(known, func(i int) bool {
		line := known[i].lock.At(p)
		return line == 2 || line == 3
	})
	goesOn := map[int][]bool{} // of each group: which hands take a step in it, or ask for nothing
	for i, g := range group {
		if g == 0 {
			continue
		}
		waiting++
		if goesOn[g] == nil {
			goesOn[g] = make([]bool, n)
		}
		for q, next := range known[i].next {
			goesOn[g][q] = goesOn[g][q] || group[next] == g || known[i].lock.At(q) == 1
		}
	}
	if waiting == 0 {
		t.Errorf("of %d, hand %d waits nowhere", n, p)
	}
	for i, g := range group {
		if g != 0 && !slices.Contains(goesOn[g], false) {
			t.Fatalf("of %d, hand %d may wait for ever from %s on", n, p, shown(&known[i].lock, n))
		}
	}
}

// rounds numbers from 1 on the groups of places that come from each other, by way of those alone that are asked for; 0 are all others.
func rounds(known []place, asked func(int) bool) []int {
	group, seen, low := make([]int, len(known)), make([]int, len(known)), make([]int, len(known))
	count, groups := 0, 0
	var open []int
	var walk func(int)
	walk = func(i int) {
		count++
		seen[i], low[i] = count, count
		open = append(open, i)
		for _, next := range known[i].next {
			if !asked(next) || group[next] != 0 {
				continue
			}
			if seen[next] == 0 {
				walk(next)
			}
			low[i] = min(low[i], low[next])
		}
		if low[i] != seen[i] {
			return
		}
		groups++
		for last := -1; last != i; {
			last = open[len(open)-1]
			open = open[:len(open)-1]
			group[last] = groups
		}
	}
	for i := range known {
		if asked(i) && seen[i] == 0 {
			walk(i)
		}
	}
	return group
}
