package fast_test

import (
	"fmt"
	"math/bits"
	"slices"
	"testing"

	"latchgarth/api"
	"latchgarth/fast"
)

// draw gives numbers from 0 to below n by a short rule, the same ones each time.
type draw uint64

func (d *draw) below(n int) int {
	*d = *d*6364136223846793005 + 1442695040888963407
	return int(uint64(*d) >> 33 % uint64(n))
}

// steps of n hands: one of them takes some, then one does again.
func (d *draw) steps(n, count, longest int) []int {
	var out []int
	for len(out) < count {
		p := d.below(n)
		for range 1 + d.below(longest) {
			out = append(out, p)
		}
	}
	return out[:count]
}

// drawn is a script of n hands, the same one each time.
func drawn(n, count int) []int {
	d := draw(n)
	return d.steps(n, count, 4)
}

// What a hand of the model does. From begins to yields, from takes to gives, and from isIn to goes, its B is 1.
const (
	rests = iota
	begins
	comes // it has asked
	yields
	waits
	takes
	looks // is it still the one that asked last?
	gives // it gives the quick way up
	sees  // it sees that all others are off the quick way
	finds // is it still the one that took the lock last?
	hopes
	isIn
	frees
	goes
	isInLate // as isIn, by the long way
	freesLate
	goesLate
)

// model is another way to tell what hands do, without X and Y, without B, and without k: who asked last, and who took it last, are marked; and each hand has a set of those that it is yet to see. It is a value: two that are the same do the same.
type model struct {
	n     int
	does  [api.MaxHands]int
	asked [api.MaxHands]bool // of one hand at most
	holds [api.MaxHands]bool // of one hand at most
	left  [api.MaxHands]uint
}

func freshModel(n int) model { return model{n: n} }

// then is what a step of a hand leads to.
func (w model) then(p int) model {
	free := w.holds == [api.MaxHands]bool{}
	switch w.does[p] {
	case begins:
		w.asked = [api.MaxHands]bool{}
		w.asked[p] = true
		w.does[p] = comes
	case comes:
		w.does[p] = pick(free, takes, yields)
	case waits:
		w.does[p] = pick(free, rests, waits)
	case takes:
		w.holds = [api.MaxHands]bool{}
		w.holds[p] = true
		w.does[p] = looks
	case looks:
		w.does[p] = pick(w.asked[p], isIn, gives)
	case gives:
		w.left[p] = 1<<w.n - 1
		w.does[p] = sees
	case sees:
		if !w.isQuick(bits.TrailingZeros(w.left[p])) {
			w.left[p] &= w.left[p] - 1
		}
		w.does[p] = pick(w.left[p] == 0, finds, sees)
	case finds:
		w.does[p] = pick(w.holds[p], isInLate, hopes)
	case hopes:
		w.does[p] = pick(free, rests, hopes)
	case frees, freesLate:
		w.holds = [api.MaxHands]bool{}
		w.does[p]++
	case goes, goesLate:
		w.does[p] = rests
	default:
		w.does[p]++
	}
	return w
}

func pick(yes bool, one, other int) int {
	if yes {
		return one
	}
	return other
}

// isQuick tells whether hand p is on the quick way, or came in by it.
func (w model) isQuick(p int) bool {
	does := w.does[p]
	return begins <= does && does <= yields || takes <= does && does <= gives || isIn <= does && does <= goes
}

// line at which hand p is to stand.
func (w model) line(p int) int {
	return []int{
		rests: 1, begins: 2, comes: 3, yields: 4, waits: 5, takes: 6, looks: 7, gives: 8, sees: 9, finds: 10, hopes: 11,
		isIn: 12, frees: 13, goes: 14, isInLate: 12, freesLate: 13, goesLate: 14,
	}[w.does[p]]
}

// shown is all that a lock is to tell where the model is.
func (w model) shown() string {
	out := ""
	words := make([]int, 2+w.n)
	words[0] = slices.Index(w.asked[:], true) + 1
	words[1] = slices.Index(w.holds[:], true) + 1
	for p := range w.n {
		out += fmt.Sprint(w.line(p), " ")
		words[2+p] = pick(w.isQuick(p), 1, 0)
	}
	return out + fmt.Sprint(words)
}

// TestModel: many scripts, against another way to tell what hands do.
func TestModel(t *testing.T) {
	d := draw(5)
	for n := 1; n <= api.MaxHands; n++ {
		for round := range 300 {
			l, w := fresh(t, n), freshModel(n)
			steps := d.steps(n, 200, 1+round%6)
			for i, p := range steps {
				step(t, l, p)
				w = w.then(p)
				if got, want := shown(l, n), w.shown(); got != want {
					t.Fatalf("of %d, after %v: got %s, want %s", n, steps[:i+1], got, want)
				}
			}
		}
	}
}

// place is one of the things that a lock may come to, what the model says of it, and which ones it comes to by a step of each hand.
type place struct {
	lock fast.Lock
	told model
	next []int
}

// everywhere is all that a lock for n hands may come to, each once, the new one first. It leans on a lock being a value: two that are the same do the same.
func everywhere(t *testing.T, n int) []place {
	t.Helper()
	found := []place{{lock: *fresh(t, n), told: freshModel(n)}}
	known := map[model]int{found[0].told: 0}
	for i := 0; i < len(found); i++ {
		next := make([]int, n)
		for p := range n {
			l, w := found[i].lock, found[i].told.then(p)
			step(t, &l, p)
			number, ok := known[w]
			if !ok {
				number = len(found)
				known[w] = number
				found = append(found, place{lock: l, told: w})
			}
			if found[number].lock != l {
				t.Fatalf("of %d, what %s has come to hangs on how it came there: %v and %v", n, shown(&l, n), l, found[number].lock)
			}
			next[p] = number
		}
		found[i].next = next
	}
	return found
}

// TestEverywhere: by whatever script, a lock tells what the model does; one hand at most is in, and each hand may be; one that is alone is soon in; and somebody comes in.
func TestEverywhere(t *testing.T) {
	for n := 1; n <= api.MaxHands; n++ {
		known := everywhere(t, n)
		checkTold(t, n, known)
		checkIn(t, n, known)
		checkGoesOn(t, n, known)
		checkAlone(t, n, known)
		checkSomebody(t, n, known)
		if n == 2 {
			checkMeet(t, known)
		}
	}
}

func checkTold(t *testing.T, n int, known []place) {
	t.Helper()
	for i := range known {
		if got, want := shown(&known[i].lock, n), known[i].told.shown(); got != want {
			t.Fatalf("of %d: got %s, want %s", n, got, want)
		}
	}
}

// checkIn: one hand at most is in, or about to free Y; and each may be in, by the quick way and, where there are others, by the long one.
func checkIn(t *testing.T, n int, known []place) {
	t.Helper()
	quick, late := make([]int, n), make([]int, n)
	for i := range known {
		in := 0
		for p := range n {
			switch line := known[i].lock.At(p); {
			case line == 12 && known[i].lock.Words()[2+p] == 1:
				quick[p]++
			case line == 12:
				late[p]++
			case line != 13:
				continue
			}
			in++
		}
		if in > 1 {
			t.Fatalf("of %d, %d are in: %s", n, in, shown(&known[i].lock, n))
		}
	}
	if slices.Min(quick) == 0 || n > 1 && slices.Min(late) == 0 {
		t.Errorf("of %d, some hand is never in: %v by the quick way, %v by the long one", n, quick, late)
	}
}

// checkGoesOn: each step leads to where the table says that it may, each of these ways is gone by each hand that is not the only one, and a hand that stays at line 5 or 11 changes nothing.
func checkGoesOn(t *testing.T, n int, known []place) {
	t.Helper()
	ways := [15][]int{
		1: {2}, 2: {3}, 3: {4, 6}, 4: {5}, 5: {1, 5}, 6: {7}, 7: {8, 12}, 8: {9}, 9: {9, 10}, 10: {11, 12}, 11: {1, 11},
		12: {13}, 13: {14}, 14: {1},
	}
	gone := map[[3]int]struct{}{}
	for i := range known {
		here := &known[i].lock
		for p := range n {
			then := &known[known[i].next[p]].lock
			from, to := here.At(p), then.At(p)
			if !slices.Contains(ways[from], to) {
				t.Fatalf("of %d, hand %d goes from %d to %d: %s", n, p, from, to, shown(here, n))
			}
			if from == to && from != 9 && *then != *here {
				t.Fatalf("of %d, hand %d stays, and changes something: %s, %s", n, p, shown(here, n), shown(then, n))
			}
			gone[[3]int{p, from, to}] = struct{}{}
		}
	}
	want := 8
	if n > 1 {
		want = n * len(slices.Concat(ways[:]...))
	}
	if len(gone) != want {
		t.Errorf("of %d, %d ways are gone, want %d", n, len(gone), want)
	}
}

// checkAlone: where all hands stand at line 1, Y and all B are 0, and each one, if it is alone, is in behind five steps. Where it is on its way already, it is in at last.
func checkAlone(t *testing.T, n int, known []place) {
	t.Helper()
	for i := range known {
		for p := range n {
			l := known[i].lock
			if !isAlone(&l, n, p) {
				continue
			}
			most := n + 9
			if l.At(p) == 1 {
				most = 5
				if words := l.Words()[1:]; slices.Max(words) != 0 {
					t.Fatalf("of %d, all stand at line 1, and Y and B are %v", n, words)
				}
			}
			for count := 0; l.At(p) != 12; count++ {
				if count == most {
					t.Fatalf("of %d, hand %d alone is not in behind %d steps from %s on", n, p, most, shown(&known[i].lock, n))
				}
				step(t, &l, p)
			}
		}
	}
}

// isAlone tells whether all hands but p stand at line 1.
func isAlone(l *fast.Lock, n, p int) bool {
	for q := range n {
		if q != p && l.At(q) != 1 {
			return false
		}
	}
	return true
}

// checkSomebody: there are no rounds on which none is in while each hand takes steps, or stands at line 1: whatever comes again and again together is looked through at once.
func checkSomebody(t *testing.T, n int, known []place) {
	t.Helper()
	group := rounds(known, func(i int) bool {
		for p := range n {
			if known[i].lock.At(p) == 12 {
				return false
			}
		}
		return true
	})
	goesOn := map[int][]bool{} // of each group: which hands take a step in it, or stand at line 1; and whether any takes one
	for i, g := range group {
		if g == 0 {
			continue
		}
		if goesOn[g] == nil {
			goesOn[g] = make([]bool, n+1)
		}
		for p, next := range known[i].next {
			steps := group[next] == g
			goesOn[g][p] = goesOn[g][p] || steps || known[i].lock.At(p) == 1
			goesOn[g][n] = goesOn[g][n] || steps
		}
	}
	for i, g := range group {
		if g != 0 && !slices.Contains(goesOn[g], false) {
			t.Fatalf("of %d, it may be that nobody ever comes in from %s on", n, shown(&known[i].lock, n))
		}
	}
}

// rounds numbers from 1 on the groups of places that come from each other, by way of those alone that are asked for; 0 are all others.
func rounds(known []place, asked func(int) bool) []int {
	group, seen, low := make([]int, len(known)), make([]int, len(known)), make([]int, len(known))
	count, groups := 0, 0
	var open []int
	var walk func(int)
	walk = func(i int) {
		count++
		seen[i], low[i] = count, count
		open = append(open, i)
		for _, next := range known[i].next {
			if !asked(next) || group[next] != 0 {
				continue
			}
			if seen[next] == 0 {
				walk(next)
			}
			low[i] = min(low[i], low[next])
		}
		if low[i] != seen[i] {
			return
		}
		groups++
		for last := -1; last != i; {
			last = open[len(open)-1]
			open = open[:len(open)-1]
			group[last] = groups
		}
	}
	for i := range known {
		if asked(i) && seen[i] == 0 {
			walk(i)
		}
	}
	return group
}

// checkMeet: at which two lines two hands may stand together.
func checkMeet(t *testing.T, known []place) {
	t.Helper()
	want := [15]string{
		1:  "xxxxxxxxxxxxxx",
		2:  "xxxxxxxxxxxxxx",
		3:  "xxxxxxxxxxxxxx",
		4:  "xxx..xxxxx.xxx",
		5:  "xxx..xxxxx.xxx",
		6:  "xxxxxxxxxxxxxx",
		7:  "xxxxxxxxxxxxxx",
		8:  "xxxxxxx....xxx",
		9:  "xxxxxxx....xxx",
		10: "xxxxxxx....xxx",
		11: "xxx..xx....xxx",
		12: "xxxxxxxxxxx..x",
		13: "xxxxxxxxxxx..x",
		14: "xxxxxxxxxxxxxx",
	}
	met := map[[2]int]struct{}{}
	for i := range known {
		met[[2]int{known[i].lock.At(0), known[i].lock.At(1)}] = struct{}{}
	}
	for one := 1; one <= 14; one++ {
		for other := 1; other <= 14; other++ {
			if _, ok := met[[2]int{one, other}]; ok != (want[one][other-1] == 'x') {
				t.Errorf("hand 0 at line %d and hand 1 at line %d: %v", one, other, ok)
			}
		}
	}
}
