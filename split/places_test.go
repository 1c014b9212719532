package split_test

import (
	"fmt"
	"strings"
	"testing"

	"latchgarth/api"
	"latchgarth/split"
)

// numbers of places, by row and column; -1 is no place.
var numbers = [api.MaxHands][api.MaxHands]int{
	{0, 1, 3, 6},
	{2, 4, 7, -1},
	{5, 8, -1, -1},
	{9, -1, -1, -1},
}

// numberOf the place to which a way leads from the first one: c is a column on, r is a row on.
func numberOf(way string) int { return numbers[strings.Count(way, "r")][strings.Count(way, "c")] }

// stands checks where a hand is, and that it has no name there, but at line 5.
func stands(t *testing.T, name string, g *split.Grid, p, want int) {
	t.Helper()
	if got := g.At(p); got != want {
		t.Fatalf("%s: hand %d stands at %d, want %d", name, p, got, want)
	}
	if got := g.Name(p); (got == -1) == (want == 5) {
		t.Fatalf("%s: hand %d stands at %d, and its name is %d", name, p, want, got)
	}
}

// settles checks that a hand at line 1 of a place where it is alone, and to which this way leads, goes line by line there, has its number for a name, and keeps it.
func settles(t *testing.T, name string, g *split.Grid, p int, way string) {
	t.Helper()
	name += ", at " + way
	for _, line := range []int{1, 2, 3, 4} {
		stands(t, name, g, p, line)
		step(t, g, p)
	}
	stays(t, name, g, p, way)
}

// stays checks that a hand has the name of the place to which this way leads, and keeps it.
func stays(t *testing.T, name string, g *split.Grid, p int, way string) {
	t.Helper()
	for range 3 {
		stands(t, name, g, p, 5)
		if got, want := g.Name(p), numberOf(way); got != want {
			t.Fatalf("%s: the name of hand %d is %d, want %d", name, p, got, want)
		}
		step(t, g, p)
	}
}

// led is a new grid for as many hands as there are in an order, who have gone a way together, the last one of those that are left staying at each place of it; and who are left.
func led(t *testing.T, order []int, way string) (*split.Grid, []int) {
	t.Helper()
	g := fresh(t, len(order))
	for i, part := range way {
		last := len(order) - 1 - i
		if part == 'r' {
			all(t, g, order[:last], 2)
		}
		many(t, g, order[last], 4)
		all(t, g, order[:last], 2)
		stays(t, fmt.Sprintf("hands %v, by %s", order, way), g, order[last], way[:i])
	}
	return g, order[:len(order)-len(way)]
}

// all hands of some take steps, one behind the other.
func all(t *testing.T, g *split.Grid, hands []int, count int) {
	t.Helper()
	for _, p := range hands {
		many(t, g, p, count)
	}
}

// ways that lead to places: all of so many parts.
func ways(parts int) []string {
	if parts == 0 {
		return []string{""}
	}
	var out []string
	for _, way := range ways(parts - 1) {
		out = append(out, way+"c", way+"r")
	}
	return out
}

// everyPlace does something for each number of hands, in each order of them, at each place, by each way to it.
func everyPlace(t *testing.T, do func(name string, order []int, way string)) {
	t.Helper()
	for n := 1; n <= api.MaxHands; n++ {
		for _, order := range orders(n) {
			for parts := range n {
				for _, way := range ways(parts) {
					do(fmt.Sprintf("hands %v, by %q", order, way), order, way)
				}
			}
		}
	}
}

// TestPlaces: at each place, who is alone stays; line 2 goes each way; line 4 goes each way; and who goes on does its lines at the next place, with X and Y of that one.
func TestPlaces(t *testing.T) {
	everyPlace(t, func(name string, order []int, way string) {
		g, left := led(t, order, way)
		settles(t, name, g, left[0], way)
		if len(left) == 1 {
			return
		}
		checkShut(t, name+", shut", order, way)
		checkLate(t, name+", late", order, way)
		checkEarly(t, name+", early", order, way)
	})
}

// checkShut: who comes when Y is 1 goes a column on, and the one that made it 1, and is not the last one that came any more, a row on.
func checkShut(t *testing.T, name string, order []int, way string) {
	t.Helper()
	g, left := led(t, order, way)
	p, q := left[0], left[1]
	many(t, g, q, 3)
	step(t, g, p)
	stands(t, name, g, p, 2)
	step(t, g, p)
	settles(t, name, g, p, way+"c")
	stands(t, name, g, q, 4)
	step(t, g, q)
	settles(t, name, g, q, way+"r")
}

// checkLate: who sees at line 4 that another one came since goes a row on, and the other one, who finds Y 1, a column on; both do their next lines turn by turn.
func checkLate(t *testing.T, name string, order []int, way string) {
	t.Helper()
	g, left := led(t, order, way)
	p, q := left[0], left[1]
	many(t, g, p, 3)
	step(t, g, q)
	stands(t, name, g, p, 4)
	step(t, g, p)
	step(t, g, q)
	for line := 1; line <= 4; line++ {
		stands(t, name, g, p, line)
		step(t, g, p)
		stands(t, name, g, q, line)
		step(t, g, q)
	}
	stays(t, name, g, p, way+"r")
	stays(t, name, g, q, way+"c")
}

// checkEarly: who came last stays, though others came ahead of it, and went a column on, or see at line 4 that they did not come last.
func checkEarly(t *testing.T, name string, order []int, way string) {
	t.Helper()
	g, left := led(t, order, way)
	p, q := left[0], left[1]
	step(t, g, q)
	many(t, g, p, 3)
	step(t, g, q)
	stands(t, name, g, q, 1)
	step(t, g, p)
	stays(t, name, g, p, way)
	settles(t, name, g, q, way+"c")
	g, left = led(t, order, way)
	many(t, g, q, 2)
	many(t, g, p, 3)
	many(t, g, q, 2)
	stands(t, name, g, q, 1)
	step(t, g, p)
	stays(t, name, g, p, way)
	settles(t, name, g, q, way+"r")
}

// TestMeet: two hands meet at a place, of whom the one has done so many lines there, and then the other one so many; then the one goes on until it has its name, and then the other one does. What comes of it: s, c, r: it stays, it goes a column on, it goes a row on, of the one and of the other one.
func TestMeet(t *testing.T) {
	want := [5][5]string{
		{"sc", "sc", "sr", "cr", "cs"},
		{"sc", "rc", "rs", "cs", "cs"},
		{"sc", "rc", "rs", "rs", "rs"},
		{"sc", "rc", "rc", "rc", "rc"},
		{"sc", "sc", "sc", "sc", "sc"},
	}
	everyPlace(t, func(name string, order []int, way string) {
		if len(way) == len(order)-1 {
			return
		}
		for did, row := range want {
			for other, ends := range row {
				g, left := led(t, order, way)
				for i, count := range []int{did, other, 9, 9} {
					many(t, g, left[i%2], count)
				}
				for i := range 2 {
					at := way + strings.TrimSuffix(ends[i:i+1], "s")
					stays(t, fmt.Sprintf("%s, %d and %d lines", name, did, other), g, left[i], at)
				}
			}
		}
	})
}

// TestInTurn: hands of whom each one comes when the one ahead has its name go by all places of row 0 at which one is; each has two lines more to do than the one ahead.
func TestInTurn(t *testing.T) {
	for n := 1; n <= api.MaxHands; n++ {
		for _, order := range orders(n) {
			g := fresh(t, n)
			for i, p := range order {
				name := fmt.Sprintf("hands %v, in turn", order)
				for range i {
					stands(t, name, g, p, 1)
					step(t, g, p)
					stands(t, name, g, p, 2)
					step(t, g, p)
				}
				settles(t, name, g, p, strings.Repeat("c", i))
			}
		}
	}
}
