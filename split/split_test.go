package split_test

import (
	"fmt"
	"math"
	"strconv"
	"strings"
	"testing"

	"latchgarth/api"
	"latchgarth/plain"
	"latchgarth/split"
)

// noHands are numbers that are no hands of a grid for n.
func noHands(n int) []int {
	return []int{
		-1, n, n + 1, 4, 5, 7, 8, -2, -n, -n - 1, 256, 257, 1 << 32, 1<<32 + 1,
		math.MinInt, math.MinInt + 1, math.MaxInt - 1, math.MaxInt,
	}
}

// fresh is a new grid for n hands, of which there may be so many.
func fresh(t *testing.T, n int) *split.Grid {
	t.Helper()
	g, err := split.New(n)
	if err != nil {
		t.Fatalf("new grid for %d: got %v", n, err)
	}
	return g
}

// shown is all that a grid for n hands tells: where they stand, and their names.
func shown(g *split.Grid, n int) string {
	var order []int
	for p := range n {
		order = append(order, p)
	}
	return shownBy(g, order)
}

// shownBy tells where hands stand, and their names, in an order.
func shownBy(g *split.Grid, order []int) string {
	lines, names := "", make([]int, len(order))
	for i, p := range order {
		lines += fmt.Sprint(g.At(p), " ")
		names[i] = g.Name(p)
	}
	return lines + fmt.Sprint(names)
}

// step of a hand that is one.
func step(t *testing.T, g *split.Grid, p int) {
	t.Helper()
	if err := g.Step(p); err != nil {
		t.Fatalf("step of hand %d: got %v", p, err)
	}
}

// many steps of a hand that is one.
func many(t *testing.T, g *split.Grid, p, count int) {
	t.Helper()
	for range count {
		step(t, g, p)
	}
}

// script of hands, a digit each, or 0x7: hand 0 seven times; spaces are for the eye.
func script(text string) []int {
	var out []int
	for _, part := range strings.Fields(text) {
		hand, times, many := strings.Cut(part, "x")
		if many {
			count, err := strconv.Atoi(times)
			if err != nil {
				panic(err)
			}
			hand = strings.Repeat(hand, count)
		}
		for _, c := range hand {
			out = append(out, int(c-'0'))
		}
	}
	return out
}

// after is a new grid for n hands after a script of them.
func after(t *testing.T, n int, script []int) *split.Grid {
	t.Helper()
	g := fresh(t, n)
	for _, p := range script {
		step(t, g, p)
	}
	return g
}

// TestNew: for each number of hands that may be, all stand at line 1, and none has a name.
func TestNew(t *testing.T) {
	for i, want := range []string{"1 [-1]", "1 1 [-1 -1]", "1 1 1 [-1 -1 -1]", "1 1 1 1 [-1 -1 -1 -1]"} {
		n := i + 1
		g, err := split.New(n)
		if err != nil || g == nil {
			t.Fatalf("for %d hands: got %v %v", n, g, err)
		}
		if got := shown(g, n); got != want {
			t.Errorf("for %d hands: got %s, want %s", n, got, want)
		}
	}
}

// TestNewNone: for any other number there is no grid, and ErrRange is told.
func TestNewNone(t *testing.T) {
	for _, n := range []int{
		0, -1, -2, -4, 5, 6, 8, 255, 256, 257, 1 << 32, 1<<32 + 1, -1 << 32, 1 - 1<<32,
		math.MinInt, math.MinInt + 1, math.MaxInt - 1, math.MaxInt,
	} {
		if g, err := split.New(n); plain.Told(err) != api.ErrRange || g != nil {
			t.Errorf("for %d hands: got %v %v", n, g, err)
		}
	}
}

// TestNoHand: wherever the hands stand, Step of a hand that is none tells ErrRange and changes nothing, then or later; it stands at 0, and has no name.
func TestNoHand(t *testing.T) {
	for n := 1; n <= api.MaxHands; n++ {
		steps := drawn(n, 4*n*n)
		g := fresh(t, n)
		for i := range len(steps) + 1 {
			for _, p := range noHands(n) {
				if err := g.Step(p); plain.Told(err) != api.ErrRange {
					t.Errorf("of %d, after %v: step of %d: got %v", n, steps[:i], p, err)
				}
				if at, name := g.At(p), g.Name(p); at != 0 || name != -1 {
					t.Errorf("of %d, after %v: %d stands at %d, and its name is %d", n, steps[:i], p, at, name)
				}
			}
			if got, want := shown(g, n), shown(after(t, n, steps[:i]), n); got != want {
				t.Errorf("of %d, after %v, and those that are no hands: got %s, want %s", n, steps[:i], got, want)
			}
			if i < len(steps) {
				step(t, g, steps[i])
			}
		}
	}
}

// TestAsked: to ask changes nothing.
func TestAsked(t *testing.T) {
	for n := 1; n <= api.MaxHands; n++ {
		steps := drawn(n, 4*n*n)
		g := fresh(t, n)
		for i, p := range steps {
			for range 3 {
				for q := -1; q <= n; q++ {
					g.At(q)
					g.Name(q)
				}
			}
			step(t, g, p)
			if got, want := shown(g, n), shown(after(t, n, steps[:i+1]), n); got != want {
				t.Errorf("of %d, after %v: got %s, want %s", n, steps[:i+1], got, want)
			}
		}
	}
}

// TestApart: two grids share nothing, for as many hands or not, and a new one tells nothing of those before.
func TestApart(t *testing.T) {
	for n := 1; n <= api.MaxHands; n++ {
		for m := 1; m <= api.MaxHands; m++ {
			one, other := fresh(t, n), fresh(t, m)
			first, second := drawn(n, 60), drawn(m, 90)[30:]
			for i := range first {
				step(t, one, first[i])
				if got, want := shown(other, m), shown(after(t, m, second[:i]), m); got != want {
					t.Errorf("step %d of one grid for %d: the other one is %s, want %s", i, n, got, want)
				}
				step(t, other, second[i])
				if got, want := shown(one, n), shown(after(t, n, first[:i+1]), n); got != want {
					t.Errorf("step %d of the other grid for %d: the one is %s, want %s", i, m, got, want)
				}
			}
			if got, want := shown(after(t, n, first), n), shown(one, n); got != want {
				t.Errorf("a new one for %d comes to %s, want %s", n, got, want)
			}
		}
	}
}

// TestFew: of as many hands as take part, whoever they are, each has a name behind at most four times as many steps of its own; no two have one; and where fewer take part there are fewer names.
func TestFew(t *testing.T) {
	d := draw(7)
	for n := 1; n <= api.MaxHands; n++ {
		for _, order := range orders(n) {
			for k := 1; k <= n; k++ {
				for round := range 40 {
					steps := renamed(d.steps(k, d.below(4*k*k+1), 1+round%6), order)
					checkFew(t, n, order[:k], steps)
				}
			}
		}
	}
}

// checkFew: of n hands some take part by a script, and then, one behind the other, until each one has taken as many steps as it may need.
func checkFew(t *testing.T, n int, hands, steps []int) {
	t.Helper()
	k := len(hands)
	g := after(t, n, steps)
	took := make([]int, n)
	for _, p := range steps {
		took[p]++
	}
	names := map[int]struct{}{}
	for _, p := range hands {
		many(t, g, p, max(0, 4*k-took[p]))
		name := g.Name(p)
		if _, ok := names[name]; ok || name < 0 || name >= k*(k+1)/2 || g.At(p) != 5 {
			t.Fatalf("of %d, hands %v, after %v and those that are left: hand %d has the name %d, %s", n, hands, steps, p, name, shown(g, n))
		}
		names[name] = struct{}{}
	}
}

// ExampleGrid: hand 1 came to the first place last, and stays there; hand 0, who saw that, went a row on; hand 2 came when that place was shut, and has gone a column on.
func ExampleGrid() {
	g, err := split.New(3)
	if err != nil {
		fmt.Println(err)
	}
	for _, p := range []int{0, 0, 1, 1, 1, 1, 0, 0, 0, 0, 0, 0, 2, 2} {
		if err := g.Step(p); err != nil {
			fmt.Println(err)
		}
	}
	fmt.Println(g.At(0), g.At(1), g.At(2))
	fmt.Println(g.Name(0), g.Name(1), g.Name(2))
	fmt.Println(g.Step(3), g.At(3), g.Name(3))
	_, err = split.New(5)
	fmt.Println(err)
	// Output:
	// 5 5 1
	// 2 0 -1
	// ErrRange 0 -1
	// ErrRange
}
