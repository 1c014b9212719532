package ring_test

import (
	"fmt"
	"strconv"
	"strings"
	"testing"

	"latchgarth/api"
)

// What an act tells that ends nothing, one that ends a put, one that finds no room, one that finds nothing to get, one that may not be as things stand, and one whose value is none.
var (
	on     = answer{}
	isIn   = answer{done: true, put: true}
	noRoom = answer{done: true}
	empty  = answer{done: true, got: -1}
	state  = answer{err: api.ErrState}
	wrong  = answer{err: api.ErrRange}
)

// isOut is what an act tells that ends a get.
func isOut(value int) answer { return answer{done: true, got: value} }

// outcome is what is told of the act that ends a script, the places then, and Head and Tail.
type outcome struct {
	told       answer
	places     string
	head, tail int
}

// lined is a script, and what comes of it.
type lined struct {
	name, script string
	outcome
}

// script of both sides: +5 begins a put, of 5, - begins a get; !5 and ? are whole ones, of four acts each, where there is room, and where something is in; else p is a step of the side that puts, g one of the side that gets; spaces are for the eye.
func script(text string) []act {
	var out []act
	for _, part := range strings.Fields(text) {
		switch rest := part[1:]; part[0] {
		case '+':
			out = append(out, act{puts, number(rest)})
		case '!':
			out = append(out, putting(number(rest))...)
		case '-':
			out = append(out, act{kind: gets})
		case '?':
			out = append(out, getting()...)
		default:
			for _, c := range part {
				out = append(out, act{kind: map[rune]int{'p': putSteps, 'g': getSteps}[c]})
			}
		}
	}
	return out
}

// number that is written.
func number(text string) int {
	n, err := strconv.Atoi(text)
	if err != nil {
		panic(err)
	}
	return n
}

// checkLines of each script, in a ring of so many places.
func checkLines(t *testing.T, size int, cases []lined) {
	t.Helper()
	for _, c := range cases {
		r, told := fresh(t, size), answer{}
		for _, a := range script(c.script) {
			told = a.in(r)
		}
		head, tail := r.Ends()
		if got := (outcome{told, fmt.Sprint(r.Places()), head, tail}); got != c.outcome {
			t.Errorf("%s: after %s, got %v, want %v", c.name, c.script, got, c.outcome)
		}
	}
}

// TestPutLines: each line of the side that puts, both ways where line 1 asks, while the other side does nothing, or is done.
func TestPutLines(t *testing.T) {
	checkLines(t, 2, []lined{
		{"nothing is being put", "p", outcome{state, "[0 0]", 0, 0}},
		{"it begins", "+5", outcome{on, "[0 0]", 0, 0}},
		{"line 1", "+5 p", outcome{on, "[0 0]", 0, 0}},
		{"line 2", "+5 pp", outcome{on, "[5 0]", 0, 0}},
		{"line 3", "+5 ppp", outcome{isIn, "[5 0]", 0, 1}},
		{"nothing is being put any more", "+5 ppp p", outcome{state, "[5 0]", 0, 1}},

		{"to put, at line 1", "+5 +6", outcome{state, "[0 0]", 0, 0}},
		{"to put, at line 2", "+5 p +6", outcome{state, "[0 0]", 0, 0}},
		{"to put, at line 3", "+5 pp +6", outcome{state, "[5 0]", 0, 0}},
		{"to put what is none, at line 1", "+5 +1001", outcome{wrong, "[0 0]", 0, 0}},
		{"to put what is none, at line 2", "+5 p +-1", outcome{wrong, "[0 0]", 0, 0}},
		{"to put what is none, at line 3", "+5 pp +1001", outcome{wrong, "[5 0]", 0, 0}},
		{"it puts what it began to put", "+5 +6 p +7 +1001 p", outcome{on, "[5 0]", 0, 0}},
		{"it goes on from where it was", "+5 +6 p +7 p +8 p", outcome{isIn, "[5 0]", 0, 1}},
		{"what is none is not begun", "+1001 p", outcome{state, "[0 0]", 0, 0}},
		{"who gets does not begin by that", "+5 g", outcome{state, "[0 0]", 0, 0}},
		{"nor is kept from it", "+5 -", outcome{on, "[0 0]", 0, 0}},

		{"again, it begins", "!5 +6", outcome{on, "[5 0]", 0, 1}},
		{"again, line 1", "!5 +6 p", outcome{on, "[5 0]", 0, 1}},
		{"again, line 2", "!5 +6 pp", outcome{on, "[5 6]", 0, 1}},
		{"again, line 3", "!5 +6 ppp", outcome{isIn, "[5 6]", 0, 2}},
		{"the place of what was got, line 1", "!5 !6 ? +7 p", outcome{on, "[5 6]", 1, 2}},
		{"the place of what was got, line 2", "!5 !6 ? +7 pp", outcome{on, "[7 6]", 1, 2}},
		{"the place of what was got, line 3", "!5 !6 ? +7 ppp", outcome{isIn, "[7 6]", 1, 3}},
		{"nothing is in, not the first place", "!5 ? +7 pp", outcome{on, "[5 7]", 1, 1}},
		{"nothing is in, line 3", "!5 ? +7 ppp", outcome{isIn, "[5 7]", 1, 2}},
		{"the same value", "!5 +5 ppp", outcome{isIn, "[5 5]", 0, 2}},
		{"0", "!5 !6 ? +0 ppp", outcome{isIn, "[0 6]", 1, 3}},
		{"the greatest", "+1000 ppp", outcome{isIn, "[1000 0]", 0, 1}},

		{"full, it begins", "!5 !6 +7", outcome{on, "[5 6]", 0, 2}},
		{"full, line 1", "!5 !6 +7 p", outcome{noRoom, "[5 6]", 0, 2}},
		{"full, and done", "!5 !6 +7 pp", outcome{state, "[5 6]", 0, 2}},
		{"full, it begins again", "!5 !6 +7 p +8", outcome{on, "[5 6]", 0, 2}},
		{"full, line 1 again", "!5 !6 +7 p +8 p", outcome{noRoom, "[5 6]", 0, 2}},
		{"full, to put", "!5 !6 +7 +8", outcome{state, "[5 6]", 0, 2}},
		{"full, to put what is none", "!5 !6 +1001", outcome{wrong, "[5 6]", 0, 2}},
		{"full of what stands further on", "!5 ? !6 !7 +8 p", outcome{noRoom, "[7 6]", 1, 3}},
		{"full of 0", "!0 !0 +7 p", outcome{noRoom, "[0 0]", 0, 2}},
	})
}

// TestGetLines: each line of the side that gets, both ways where line 4 asks, while the other side does nothing, or is done.
func TestGetLines(t *testing.T) {
	checkLines(t, 2, []lined{
		{"nothing is being got", "g", outcome{state, "[0 0]", 0, 0}},
		{"nothing is being got, something is in", "!5 g", outcome{state, "[5 0]", 0, 1}},
		{"it begins", "!5 -", outcome{on, "[5 0]", 0, 1}},
		{"line 4", "!5 - g", outcome{on, "[5 0]", 0, 1}},
		{"line 5", "!5 - gg", outcome{on, "[5 0]", 0, 1}},
		{"line 6", "!5 - ggg", outcome{isOut(5), "[5 0]", 1, 1}},
		{"nothing is being got any more", "!5 - ggg g", outcome{state, "[5 0]", 1, 1}},

		{"to get, at line 4", "!5 - -", outcome{state, "[5 0]", 0, 1}},
		{"to get, at line 5", "!5 - g -", outcome{state, "[5 0]", 0, 1}},
		{"to get, at line 6", "!5 - gg -", outcome{state, "[5 0]", 0, 1}},
		{"it goes on from where it was", "!5 !6 - - g - g - g", outcome{isOut(5), "[5 6]", 1, 2}},
		{"who puts does not begin by that", "!5 - p", outcome{state, "[5 0]", 0, 1}},
		{"nor is kept from it", "!5 - +6", outcome{on, "[5 0]", 0, 1}},

		{"again, it begins", "!5 !6 ? -", outcome{on, "[5 6]", 1, 2}},
		{"again, line 4", "!5 !6 ? - g", outcome{on, "[5 6]", 1, 2}},
		{"again, line 5", "!5 !6 ? - gg", outcome{on, "[5 6]", 1, 2}},
		{"again, line 6", "!5 !6 ? - ggg", outcome{isOut(6), "[5 6]", 2, 2}},
		{"what stands further on", "!5 !6 ? !7 ? ?", outcome{isOut(7), "[7 6]", 3, 3}},
		{"not what the first place has", "!5 ? !6 ?", outcome{isOut(6), "[5 6]", 2, 2}},
		{"the same value", "!5 !5 ? ?", outcome{isOut(5), "[5 5]", 2, 2}},
		{"0", "!5 !0 ? ?", outcome{isOut(0), "[5 0]", 2, 2}},
		{"the greatest", "!1000 ?", outcome{isOut(1000), "[1000 0]", 1, 1}},

		{"empty, it begins", "-", outcome{on, "[0 0]", 0, 0}},
		{"empty, line 4", "- g", outcome{empty, "[0 0]", 0, 0}},
		{"empty, and done", "- gg", outcome{state, "[0 0]", 0, 0}},
		{"empty, it begins again", "- g -", outcome{on, "[0 0]", 0, 0}},
		{"empty, line 4 again", "- g - g", outcome{empty, "[0 0]", 0, 0}},
		{"empty, to get", "- -", outcome{state, "[0 0]", 0, 0}},
		{"empty again", "!5 ? - g", outcome{empty, "[5 0]", 1, 1}},
		{"empty again, further on", "!5 ? !6 ? - g", outcome{empty, "[5 6]", 2, 2}},
		{"empty, what was none is not in", "+1001 - g", outcome{empty, "[0 0]", 0, 0}},
	})
}

// TestLinesOfBoth: one side goes on between what the other one does.
func TestLinesOfBoth(t *testing.T) {
	checkLines(t, 2, []lined{
		{"room came ahead of line 1", "!5 !6 +7 ? p", outcome{on, "[5 6]", 1, 2}},
		{"room came ahead of line 1, line 2", "!5 !6 +7 ? pp", outcome{on, "[7 6]", 1, 2}},
		{"room came ahead of line 1, line 3", "!5 !6 +7 ? ppp", outcome{isIn, "[7 6]", 1, 3}},
		{"room is to come, at line 5", "!5 !6 +7 - g p", outcome{noRoom, "[5 6]", 0, 2}},
		{"room is to come, at line 6", "!5 !6 +7 - gg p", outcome{noRoom, "[5 6]", 0, 2}},
		{"room came at last", "!5 !6 +7 - ggg p", outcome{on, "[5 6]", 1, 2}},
		{"room came behind line 1", "!5 !6 +7 p ? p", outcome{state, "[5 6]", 1, 2}},
		{"room came behind line 1, it begins again", "!5 !6 +7 p ? !8", outcome{isIn, "[8 6]", 1, 3}},
		{"what found no room is not got", "!5 !6 +7 p ? !8 ? ?", outcome{isOut(8), "[8 6]", 3, 3}},
		{"more room came at line 2", "!5 +6 p ? pp", outcome{isIn, "[5 6]", 1, 2}},
		{"more room came at line 3", "!5 +6 pp ? p", outcome{isIn, "[5 6]", 1, 2}},

		{"a value came ahead of line 4", "- !5 g", outcome{on, "[5 0]", 0, 1}},
		{"a value came ahead of line 4, line 5", "- !5 gg", outcome{on, "[5 0]", 0, 1}},
		{"a value came ahead of line 4, line 6", "- !5 ggg", outcome{isOut(5), "[5 0]", 1, 1}},
		{"a value is to come, at line 2", "- +5 p g", outcome{empty, "[0 0]", 0, 0}},
		{"a value is to come, at line 3", "- +5 pp g", outcome{empty, "[5 0]", 0, 0}},
		{"a value came at last", "- +5 ppp g", outcome{on, "[5 0]", 0, 1}},
		{"a value came behind line 4", "- g !5 g", outcome{state, "[5 0]", 0, 1}},
		{"a value came behind line 4, it begins again", "- g !5 ?", outcome{isOut(5), "[5 0]", 1, 1}},
		{"more came at line 5", "!5 - g !6 gg", outcome{isOut(5), "[5 6]", 1, 2}},
		{"more came at line 6", "!5 - gg !6 g", outcome{isOut(5), "[5 6]", 1, 2}},
		{"more is to come, at line 3", "!5 - +6 pp ggg", outcome{isOut(5), "[5 6]", 1, 1}},
		{"and comes then", "!5 - +6 pp ggg p", outcome{isIn, "[5 6]", 1, 2}},

		{"both from line to line, who puts first", "!5 +6 - pg pg p", outcome{isIn, "[5 6]", 0, 2}},
		{"and then who gets", "!5 +6 - pg pg pg", outcome{isOut(5), "[5 6]", 1, 2}},
		{"both from line to line, who gets first", "!5 +6 - gp gp g", outcome{isOut(5), "[5 6]", 1, 1}},
		{"and then who puts", "!5 +6 - gp gp gp", outcome{isIn, "[5 6]", 1, 2}},

		{"no room while the place is being got", "!5 !6 - gg +7 p g", outcome{isOut(5), "[5 6]", 1, 2}},
		{"the place is not written anew then", "!5 !6 - gg +7 pp", outcome{state, "[5 6]", 0, 2}},
		{"but behind that", "!5 !6 +7 - ggg pp", outcome{on, "[7 6]", 1, 2}},
		{"what stood there is not told again", "!5 !6 +7 - ggg pp g", outcome{state, "[7 6]", 1, 2}},
		{"and the next one is got, as it was put", "!5 !6 +7 - ggg pp - gg p g", outcome{isOut(6), "[7 6]", 2, 3}},
	})
	checkLines(t, 1, []lined{
		{"one place, line 3", "!5", outcome{isIn, "[5]", 0, 1}},
		{"one place, full", "!5 +6 p", outcome{noRoom, "[5]", 0, 1}},
		{"one place, full at line 6", "!5 +6 - gg p", outcome{noRoom, "[5]", 0, 1}},
		{"one place, got then", "!5 +6 - gg p g", outcome{isOut(5), "[5]", 1, 1}},
		{"one place, free behind line 6", "!5 +6 - ggg p", outcome{on, "[5]", 1, 1}},
		{"one place, written anew", "!5 +6 - ggg pp", outcome{on, "[6]", 1, 1}},
		{"one place, not put yet", "!5 +6 - ggg pp - g", outcome{empty, "[6]", 1, 1}},
		{"one place, put", "!5 +6 - ggg ppp - g", outcome{on, "[6]", 1, 2}},
		{"one place, got again", "!5 +6 - ggg ppp - ggg", outcome{isOut(6), "[6]", 2, 2}},
		{"one place, often", "!5 ? !6 ? !7 ? !8 ?", outcome{isOut(8), "[8]", 4, 4}},
	})
	checkLines(t, 8, []lined{
		{"eight places, one less", "!1 !2 !3 !4 !5 !6 !7", outcome{isIn, "[1 2 3 4 5 6 7 0]", 0, 7}},
		{"eight places, full", "!1 !2 !3 !4 !5 !6 !7 !8 +9 p", outcome{noRoom, "[1 2 3 4 5 6 7 8]", 0, 8}},
		{"eight places, used again", "!1 !2 !3 !4 !5 !6 !7 !8 ? !9", outcome{isIn, "[9 2 3 4 5 6 7 8]", 1, 9}},
		{"eight places, full again", "!1 !2 !3 !4 !5 !6 !7 !8 ? !9 +10 p", outcome{noRoom, "[9 2 3 4 5 6 7 8]", 1, 9}},
		{"eight places, what was put second", "!1 !2 !3 !4 !5 !6 !7 !8 ? !9 ?", outcome{isOut(2), "[9 2 3 4 5 6 7 8]", 2, 9}},
		{"eight places, what was put last", "!1 !2 !3 !4 !5 !6 !7 !8 ? !9 ? ? ? ? ? ? ? ?", outcome{isOut(9), "[9 2 3 4 5 6 7 8]", 9, 9}},
		{"eight places, empty", "!1 !2 !3 !4 !5 !6 !7 !8 ? !9 ? ? ? ? ? ? ? ? - g", outcome{empty, "[9 2 3 4 5 6 7 8]", 9, 9}},
	})
}

// mixes of so many steps of who puts and so many of who gets, all of them.
func mixes(p, g int) []string {
	if p == 0 || g == 0 {
		return []string{strings.Repeat("p", p) + strings.Repeat("g", g)}
	}
	var out []string
	for _, rest := range mixes(p-1, g) {
		out = append(out, "p"+rest)
	}
	for _, rest := range mixes(p, g-1) {
		out = append(out, "g"+rest)
	}
	return out
}

// TestMixes: a put and a get, in whichever order their steps come. Where all places are taken the put finds room if its first step is behind the last one of the get; where nothing is in the get finds a value if its first step is behind the last one of the put; else each does what it would do alone.
func TestMixes(t *testing.T) {
	for size := 1; size <= api.MaxRing; size++ {
		for in := range size + 1 {
			for round := range 2 * size {
				for _, mix := range mixes(3, 3) {
					checkMix(t, size, in, round, mix)
				}
			}
		}
	}
}

// checkMix of a ring in which so many are, behind as many that were put and got ahead of that as the round tells.
func checkMix(t *testing.T, size, in, round int, mix string) {
	t.Helper()
	r := fresh(t, size)
	for i := range round {
		put(t, r, 100+i)
		get(t, r, 100+i)
	}
	for i := range in {
		put(t, r, i+1)
	}
	putWants, getWants, tail, head := []answer{on, on, isIn}, []answer{on, on, isOut(1)}, round+in+1, round+1
	switch {
	case in == size && !strings.HasPrefix(mix, "ggg"):
		putWants, tail = []answer{noRoom, state, state}, round+in
	case in == 0 && !strings.HasPrefix(mix, "ppp"):
		getWants, head = []answer{empty, state, state}, round
	case in == 0:
		getWants[2] = isOut(500)
	}
	check(t, r, script("+500 -"), on, on)
	for _, a := range script(mix) {
		wants := &putWants
		if a.kind == getSteps {
			wants = &getWants
		}
		check(t, r, []act{a}, (*wants)[0])
		*wants = (*wants)[1:]
	}
	if gotHead, gotTail := r.Ends(); gotHead != head || gotTail != tail {
		t.Fatalf("of %d, %d in, round %d, %s: got %d %d, want %d %d", size, in, round, mix, gotHead, gotTail, head, tail)
	}
}

// TestSteps: an ordinary script, and what is told behind each act.
func TestSteps(t *testing.T) {
	type told struct {
		answer
		shown string
	}
	wants := []told{
		{on, "[0 0 0] 0 0"}, {on, "[0 0 0] 0 0"}, {on, "[0 0 0] 0 0"}, {empty, "[0 0 0] 0 0"}, {on, "[5 0 0] 0 0"}, {on, "[5 0 0] 0 0"},
		{isIn, "[5 0 0] 0 1"}, {on, "[5 0 0] 0 1"}, {on, "[5 0 0] 0 1"}, {state, "[5 0 0] 0 1"}, {on, "[5 0 0] 0 1"}, {on, "[5 0 0] 0 1"},
		{on, "[5 8 0] 0 1"}, {isOut(5), "[5 8 0] 1 1"}, {on, "[5 8 0] 1 1"}, {isIn, "[5 8 0] 1 2"}, {on, "[5 8 0] 1 2"}, {on, "[5 8 0] 1 2"},
		{on, "[5 8 0] 1 2"}, {on, "[5 8 9] 1 2"}, {isIn, "[5 8 9] 1 3"}, {on, "[5 8 9] 1 3"}, {on, "[5 8 9] 1 3"}, {on, "[7 8 9] 1 3"},
		{isIn, "[7 8 9] 1 4"}, {on, "[7 8 9] 1 4"}, {noRoom, "[7 8 9] 1 4"}, {on, "[7 8 9] 1 4"}, {on, "[7 8 9] 1 4"}, {isOut(8), "[7 8 9] 2 4"},
		{on, "[7 8 9] 2 4"}, {on, "[7 4 9] 2 4"}, {isIn, "[7 4 9] 2 5"}, {state, "[7 4 9] 2 5"}, {state, "[7 4 9] 2 5"},
	}
	acts := script("+5 p - g p - p g +8 +9 p g p g - p g +9 p p p +7 p p p +6 p +4 g g p p p p g")
	if len(wants) != len(acts) {
		t.Fatalf("%d acts, and %d things that are to be told", len(acts), len(wants))
	}
	r := fresh(t, 3)
	for i, a := range acts {
		if got := (told{a.in(r), shown(r)}); got != wants[i] {
			t.Errorf("act %d, %v: got %v, want %v", i, a, got, wants[i])
		}
	}
}
