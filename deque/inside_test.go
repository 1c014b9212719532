package deque

import (
	"testing"

	"latchgarth/api"
)

// apart are lines that are done where no call leads, and what comes of them: there alone what the document asks can be told from what would else be the same.
var apart = []struct {
	name        string
	p           int
	before      Deque
	done        bool
	told        int
	top, bottom int
	after       hand
}{
	{"line 1, more than there are places", 0, Deque{n: 2, top: 3, bottom: 12, hands: [4]hand{{line: 1, value: 5}}}, true, -2, 3, 12, hand{}},
	{"line 1, much more", 0, Deque{n: 2, bottom: 1 << 40, hands: [4]hand{{line: 1, value: 5}}}, true, -2, 0, 1 << 40, hand{}},
	{"line 1, less than none", 0, Deque{n: 2, top: 12, bottom: 3, hands: [4]hand{{line: 1, value: 5}}}, false, 0, 12, 3, hand{line: 2, value: 5}},
	{"line 4, b is Bottom, however far from Top", 0, Deque{n: 2, top: 20, bottom: 9, hands: [4]hand{{line: 4}}}, false, 0, 20, 8, hand{line: 5, bottom: 8}},
	{"line 5, b is its own, and above t", 0, Deque{n: 2, top: 6, bottom: 3, places: [8]int{7: 5}, hands: [4]hand{{line: 5, bottom: 7}}}, true, 5, 6, 3, hand{}},
	{"line 5, b is its own, and t", 0, Deque{n: 2, top: 6, bottom: 9, hands: [4]hand{{line: 5, bottom: 6}}}, false, 0, 6, 9, hand{line: 7, bottom: 6, top: 6}},
	{"line 5, b is its own, and below t", 0, Deque{n: 2, top: 6, bottom: 9, hands: [4]hand{{line: 5, bottom: 2}}}, false, 0, 6, 9, hand{line: 6, bottom: 2, top: 6}},
	{"line 6, t is its own", 0, Deque{n: 2, top: 9, bottom: 2, hands: [4]hand{{line: 6, bottom: 2, top: 6}}}, true, -1, 9, 6, hand{}},
	{"line 7, the place is that of b", 0, Deque{n: 2, top: 6, bottom: 3, places: [8]int{4: 5}, hands: [4]hand{{line: 7, bottom: 4, top: 6}}}, false, 0, 7, 3, hand{line: 8, bottom: 4, top: 6, value: 5}},
	{"line 8, t is its own", 0, Deque{n: 2, top: 9, bottom: 2, hands: [4]hand{{line: 8, bottom: 2, top: 6, value: 5}}}, true, 5, 9, 7, hand{}},
	{"line 12, Top is further ahead", 1, Deque{n: 2, top: 5, bottom: 8, hands: [4]hand{{}, {line: 12, top: 6, value: 5}}}, true, -2, 5, 8, hand{}},
}

// TestLinesApart: those lines.
func TestLinesApart(t *testing.T) {
	for _, c := range apart {
		d := c.before
		done, told, err := d.Step(c.p)
		if done != c.done || told != c.told || err != nil {
			t.Errorf("%s: got %v %d %v, want %v %d", c.name, done, told, err, c.done, c.told)
		}
		want := c.before
		want.top, want.bottom, want.hands[c.p] = c.top, c.bottom, c.after
		if d != want {
			t.Errorf("%s: it leads to %v, want %v", c.name, d, want)
		}
	}
}

// TestTaken: the value of the last one is taken at line 7, what is stolen at line 11, also where its place is written anew behind that. No call writes there while Top stays, so this test does it itself.
func TestTaken(t *testing.T) {
	for p, begun := range []int{4, 9} {
		d, err := New(2)
		if err != nil {
			t.Fatal(err)
		}
		d.top, d.bottom, d.hands[p] = 10, 11, hand{line: begun}
		for value := range 3 {
			d.places[10%api.MaxRing] = value + 5
			if done, got, err := d.Step(p); done || got != 0 || err != nil {
				t.Fatalf("hand %d, at line %d: got %v %d %v", p, begun+value, done, got, err)
			}
		}
		d.places[10%api.MaxRing] = 9
		if done, got, err := d.Step(p); !done || got != 7 || err != nil {
			t.Errorf("hand %d: got %v %d %v, want true 7", p, done, got, err)
		}
		if d.places != [8]int{2: 9} || d.top != 11 || d.bottom != 11 {
			t.Errorf("hand %d: it leads to %v %d %d", p, d.places, d.top, d.bottom)
		}
	}
}
