package deque_test

import (
	"fmt"
	"slices"
	"strconv"
	"strings"
	"testing"

	"latchgarth/api"
	"latchgarth/deque"
)

// What an act tells that ends nothing, one that ends a push, one that finds nothing to pop or to steal, one that finds no room, one that another hand was ahead of, one that may not be as things stand, and one with a number that is none.
var (
	on    = answer{}
	isIn  = answer{done: true, got: -1}
	empty = answer{done: true, got: -1}
	full  = answer{done: true, got: -2}
	late  = answer{done: true, got: -2}
	state = answer{err: api.ErrState}
	wrong = answer{err: api.ErrRange}
)

// has is what an act tells that ends a pop or a steal.
func has(value int) answer { return answer{done: true, got: value} }

// outcome is what is told of the act that ends a script; where hand 0 stands then, and those of the others that take part; the places, without the last ones that are 0; and Top and Bottom.
type outcome struct {
	told          answer
	lines, places string
	top, bottom   int
}

// lined is a script, and what comes of it.
type lined struct {
	name, script string
	outcome
}

// script of hands: +5 begins a push, of 5, - a pop, 1- a steal of hand 1; !5 is a whole push, of four acts, where there is room, 1? a whole steal, of five, where something is in and nobody else goes on; else a digit is a step of a hand; spaces are for the eye.
func script(text string) []act {
	var out []act
	for _, part := range strings.Fields(text) {
		p := int(part[0] - '0')
		switch {
		case part == "-":
			out = append(out, act{kind: pops})
		case part[0] == '+':
			out = append(out, act{kind: pushes, value: number(part[1:])})
		case part[0] == '!':
			out = append(out, pushing(number(part[1:]))...)
		case part[1:] == "-":
			out = append(out, act{hand: p, kind: steals})
		case part[1:] == "?":
			out = append(out, stealing(p)...)
		default:
			for _, c := range part {
				out = append(out, act{hand: int(c - '0')})
			}
		}
	}
	return out
}

// number that is written.
func number(text string) int {
	n, err := strconv.Atoi(text)
	if err != nil {
		panic(err)
	}
	return n
}

// picks of so many of some things, in each order.
func picks(count int, of []int) [][]int {
	if count == 0 {
		return [][]int{nil}
	}
	var out [][]int
	for i, one := range of {
		for _, more := range picks(count-1, slices.Delete(slices.Clone(of), i, i+1)) {
			out = append(out, append([]int{one}, more...))
		}
	}
	return out
}

// checkLines of each script, whichever of the hands from 1 on are the ones that it calls 1, 2, .., and however many others there are, who do nothing.
func checkLines(t *testing.T, cases []lined) {
	t.Helper()
	for _, c := range cases {
		part := len(strings.Fields(c.lines))
		for n := part; n <= api.MaxHands; n++ {
			for _, who := range picks(part-1, []int{1, 2, 3}[:n-1]) {
				checkScript(t, n, append([]int{0}, who...), c)
			}
		}
	}
}

// checkScript of some of the hands of a deque.
func checkScript(t *testing.T, n int, who []int, c lined) {
	t.Helper()
	d, told := fresh(t, n), answer{}
	for _, a := range script(c.script) {
		a.hand = who[a.hand]
		told = a.in(d)
	}
	var lines []string
	for _, p := range who {
		lines = append(lines, strconv.Itoa(d.At(p)))
	}
	for p := range n {
		if at := d.At(p); at != 0 && !slices.Contains(who, p) {
			t.Errorf("%s: after %s, hands %v of %d, hand %d is at line %d", c.name, c.script, who, n, p, at)
		}
	}
	top, bottom := d.Ends()
	if got := (outcome{told, strings.Join(lines, " "), first(d), top, bottom}); got != c.outcome {
		t.Errorf("%s: after %s, hands %v of %d, got %v, want %v", c.name, c.script, who, n, got, c.outcome)
	}
}

// first of the places, without the last ones that are 0.
func first(d *deque.Deque) string {
	places := d.Places()
	for len(places) > 0 && places[len(places)-1] == 0 {
		places = places[:len(places)-1]
	}
	return strings.Trim(fmt.Sprint(places), "[]")
}

// eight fills a new deque.
const eight = "!1 !2 !3 !4 !5 !6 !7 !8 "

// TestPushLines: each line of a push, both ways where line 1 asks.
func TestPushLines(t *testing.T) {
	checkLines(t, []lined{
		{"line 0", "0", outcome{state, "0", "", 0, 0}},
		{"it begins", "+5", outcome{on, "1", "", 0, 0}},
		{"line 1", "+5 0", outcome{on, "2", "", 0, 0}},
		{"line 2", "+5 00", outcome{on, "3", "5", 0, 0}},
		{"line 3", "+5 000", outcome{isIn, "0", "5", 0, 1}},
		{"line 0 again", "+5 0000", outcome{state, "0", "5", 0, 1}},

		{"to push, at line 1", "+5 +6", outcome{state, "1", "", 0, 0}},
		{"to push, at line 2", "+5 0 +6", outcome{state, "2", "", 0, 0}},
		{"to push, at line 3", "+5 00 +6", outcome{state, "3", "5", 0, 0}},
		{"to push what is none, at line 1", "+5 +1001", outcome{wrong, "1", "", 0, 0}},
		{"to push what is none, at line 2", "+5 0 +-1", outcome{wrong, "2", "", 0, 0}},
		{"to push what is none, at line 3", "+5 00 +1001", outcome{wrong, "3", "5", 0, 0}},
		{"to pop, at line 1", "+5 -", outcome{state, "1", "", 0, 0}},
		{"to pop, at line 2", "+5 0 -", outcome{state, "2", "", 0, 0}},
		{"to pop, at line 3", "+5 00 -", outcome{state, "3", "5", 0, 0}},
		{"to steal, at line 1", "+5 0-", outcome{wrong, "1", "", 0, 0}},
		{"it pushes what it began to push", "+5 +6 0 +7 - 0 +8 0", outcome{isIn, "0", "5", 0, 1}},
		{"what is none is not begun", "+1001 0", outcome{state, "0", "", 0, 0}},
		{"nor what is below", "+-1 0", outcome{state, "0", "", 0, 0}},

		{"again, it begins", "!5 +6", outcome{on, "1", "5", 0, 1}},
		{"again, line 1", "!5 +6 0", outcome{on, "2", "5", 0, 1}},
		{"again, line 2", "!5 +6 00", outcome{on, "3", "5 6", 0, 1}},
		{"again, line 3", "!5 +6 000", outcome{isIn, "0", "5 6", 0, 2}},
		{"the place of what was popped", "!5 !6 - 00 +7 00", outcome{on, "3", "5 7", 0, 1}},
		{"not the place of what was popped last", "!5 - 0000 +7 00", outcome{on, "3", "5 7", 1, 1}},
		{"nothing was popped", "- 000 +7 00", outcome{on, "3", "7", 0, 0}},
		{"nothing was popped, line 3", "- 000 +7 000", outcome{isIn, "0", "7", 0, 1}},
		{"the same value", "!5 +5 000", outcome{isIn, "0", "5 5", 0, 2}},
		{"0", "!5 !6 - 00 +0 000", outcome{isIn, "0", "5", 0, 2}},
		{"the greatest", "+1000 000", outcome{isIn, "0", "1000", 0, 1}},

		{"room for one more", "!1 !2 !3 !4 !5 !6 !7 +8 0", outcome{on, "2", "1 2 3 4 5 6 7", 0, 7}},
		{"full, it begins", eight + "+9", outcome{on, "1", "1 2 3 4 5 6 7 8", 0, 8}},
		{"full, line 1", eight + "+9 0", outcome{full, "0", "1 2 3 4 5 6 7 8", 0, 8}},
		{"full, and done", eight + "+9 00", outcome{state, "0", "1 2 3 4 5 6 7 8", 0, 8}},
		{"full, it begins again", eight + "+9 0 +10", outcome{on, "1", "1 2 3 4 5 6 7 8", 0, 8}},
		{"full, line 1 again", eight + "+9 0 +10 0", outcome{full, "0", "1 2 3 4 5 6 7 8", 0, 8}},
		{"full, to push", eight + "+9 +10", outcome{state, "1", "1 2 3 4 5 6 7 8", 0, 8}},
		{"full, to push what is none", eight + "+1001", outcome{wrong, "0", "1 2 3 4 5 6 7 8", 0, 8}},
		{"full, it pops", eight + "+9 0 - 00", outcome{has(8), "0", "1 2 3 4 5 6 7 8", 0, 7}},
		{"and pushes then", eight + "+9 0 - 00 +10 000", outcome{isIn, "0", "1 2 3 4 5 6 7 10", 0, 8}},
		{"full of 0", "!0 !0 !0 !0 !0 !0 !0 !0 +9 0", outcome{full, "0", "", 0, 8}},
	})
}

// TestPopLines: each line of a pop, each way where line 5 asks, and where line 7 does and nobody is ahead.
func TestPopLines(t *testing.T) {
	checkLines(t, []lined{
		{"nothing is in, it begins", "-", outcome{on, "4", "", 0, 0}},
		{"nothing is in, line 4", "- 0", outcome{on, "5", "", 0, -1}},
		{"nothing is in, line 5", "- 00", outcome{on, "6", "", 0, -1}},
		{"nothing is in, line 6", "- 000", outcome{empty, "0", "", 0, 0}},
		{"nothing was in, line 0 again", "- 0000", outcome{state, "0", "", 0, 0}},
		{"nothing is in, again", "- 000 - 000", outcome{empty, "0", "", 0, 0}},

		{"the last one, it begins", "!5 -", outcome{on, "4", "5", 0, 1}},
		{"the last one, line 4", "!5 - 0", outcome{on, "5", "5", 0, 0}},
		{"the last one, line 5", "!5 - 00", outcome{on, "7", "5", 0, 0}},
		{"the last one, line 7", "!5 - 000", outcome{on, "8", "5", 1, 0}},
		{"the last one, line 8", "!5 - 0000", outcome{has(5), "0", "5", 1, 1}},
		{"the last one, line 0 again", "!5 - 00000", outcome{state, "0", "5", 1, 1}},

		{"two are in, it begins", "!5 !6 -", outcome{on, "4", "5 6", 0, 2}},
		{"two are in, line 4", "!5 !6 - 0", outcome{on, "5", "5 6", 0, 1}},
		{"two are in, line 5", "!5 !6 - 00", outcome{has(6), "0", "5 6", 0, 1}},
		{"two were in, line 0 again", "!5 !6 - 000", outcome{state, "0", "5 6", 0, 1}},
		{"three are in", "!5 !6 !7 - 00", outcome{has(7), "0", "5 6 7", 0, 2}},
		{"all are in", eight + "- 00", outcome{has(8), "0", "1 2 3 4 5 6 7 8", 0, 7}},

		{"to push, at line 4", "!5 - +6", outcome{state, "4", "5", 0, 1}},
		{"to push, at line 5", "!5 - 0 +6", outcome{state, "5", "5", 0, 0}},
		{"to push, at line 6", "- 00 +6", outcome{state, "6", "", 0, -1}},
		{"to push, at line 7", "!5 - 00 +6", outcome{state, "7", "5", 0, 0}},
		{"to push, at line 8", "!5 - 000 +6", outcome{state, "8", "5", 1, 0}},
		{"to push what is none, at line 4", "!5 - +1001", outcome{wrong, "4", "5", 0, 1}},
		{"to push what is none, at line 8", "!5 - 000 +-1", outcome{wrong, "8", "5", 1, 0}},
		{"to pop, at line 4", "!5 - -", outcome{state, "4", "5", 0, 1}},
		{"to pop, at line 5", "!5 - 0 -", outcome{state, "5", "5", 0, 0}},
		{"to pop, at line 6", "- 00 -", outcome{state, "6", "", 0, -1}},
		{"to pop, at line 7", "!5 - 00 -", outcome{state, "7", "5", 0, 0}},
		{"to pop, at line 8", "!5 - 000 -", outcome{state, "8", "5", 1, 0}},
		{"to steal, at line 4", "!5 - 0-", outcome{wrong, "4", "5", 0, 1}},
		{"it goes on from where it was", "!5 - +6 0 - 0 +7 0 - 0", outcome{has(5), "0", "5", 1, 1}},

		{"what was pushed last is popped first, and then the other one", "!5 !6 - 00 - 0000", outcome{has(5), "0", "5 6", 1, 1}},
		{"then nothing is in, line 4", "!5 !6 - 00 - 0000 - 0", outcome{on, "5", "5 6", 1, 0}},
		{"then nothing is in, line 5", "!5 !6 - 00 - 0000 - 00", outcome{on, "6", "5 6", 1, 0}},
		{"then nothing is in, line 6", "!5 !6 - 00 - 0000 - 000", outcome{empty, "0", "5 6", 1, 1}},
		{"what was pushed since", "!5 - 0000 !6 - 0000", outcome{has(6), "0", "5 6", 2, 2}},
		{"what was pushed since, to the same place", "!5 !6 - 00 !7 - 00", outcome{has(7), "0", "5 7", 0, 1}},
		{"what was pushed since nothing was in", "- 000 !5 - 0000", outcome{has(5), "0", "5", 1, 1}},
		{"the same value twice", "!5 !5 - 00 - 0000", outcome{has(5), "0", "5 5", 1, 1}},
		{"0", "!5 !0 - 00", outcome{has(0), "0", "5", 0, 1}},
		{"0, the last one", "!0 - 0000", outcome{has(0), "0", "", 1, 1}},
		{"the greatest", "!5 !1000 - 00", outcome{has(1000), "0", "5 1000", 0, 1}},
		{"the greatest, the last one", "!1000 - 0000", outcome{has(1000), "0", "1000", 1, 1}},
		{"what found no room is not popped", eight + "+9 0 - 00", outcome{has(8), "0", "1 2 3 4 5 6 7 8", 0, 7}},
		{"what was none is not popped", "+1001 - 000", outcome{empty, "0", "", 0, 0}},
	})
}

// TestStealLines: each line of a steal, both ways where line 10 asks, and where line 12 does and nobody is ahead.
func TestStealLines(t *testing.T) {
	checkLines(t, []lined{
		{"line 0", "1", outcome{state, "0 0", "", 0, 0}},
		{"line 0, something is in", "!5 1", outcome{state, "0 0", "5", 0, 1}},
		{"nothing is in, it begins", "1-", outcome{on, "0 9", "", 0, 0}},
		{"nothing is in, line 9", "1- 1", outcome{on, "0 10", "", 0, 0}},
		{"nothing is in, line 10", "1- 11", outcome{empty, "0 0", "", 0, 0}},
		{"nothing was in, line 0 again", "1- 111", outcome{state, "0 0", "", 0, 0}},
		{"nothing is in, again", "1- 11 1- 11", outcome{empty, "0 0", "", 0, 0}},

		{"one is in, it begins", "!5 1-", outcome{on, "0 9", "5", 0, 1}},
		{"one is in, line 9", "!5 1- 1", outcome{on, "0 10", "5", 0, 1}},
		{"one is in, line 10", "!5 1- 11", outcome{on, "0 11", "5", 0, 1}},
		{"one is in, line 11", "!5 1- 111", outcome{on, "0 12", "5", 0, 1}},
		{"one is in, line 12", "!5 1- 1111", outcome{has(5), "0 0", "5", 1, 1}},
		{"one was in, line 0 again", "!5 1- 11111", outcome{state, "0 0", "5", 1, 1}},

		{"two are in", "!5 !6 1- 1111", outcome{has(5), "0 0", "5 6", 1, 2}},
		{"all are in", eight + "1- 1111", outcome{has(1), "0 0", "1 2 3 4 5 6 7 8", 1, 8}},
		{"the second one", "!5 !6 1? 1- 1111", outcome{has(6), "0 0", "5 6", 2, 2}},
		{"then nothing is in", "!5 !6 1? 1? 1- 11", outcome{empty, "0 0", "5 6", 2, 2}},
		{"what was pushed since", "!5 1? !6 1?", outcome{has(6), "0 0", "5 6", 2, 2}},
		{"what was pushed since nothing was in", "1- 11 !5 1?", outcome{has(5), "0 0", "5", 1, 1}},
		{"what was popped is not stolen", "!5 !6 - 00 1? 1- 11", outcome{empty, "0 0", "5 6", 1, 1}},
		{"0", "!0 !5 1?", outcome{has(0), "0 0", "0 5", 1, 2}},
		{"the greatest", "!1000 1?", outcome{has(1000), "0 0", "1000", 1, 1}},

		{"to steal, at line 9", "!5 1- 1-", outcome{state, "0 9", "5", 0, 1}},
		{"to steal, at line 10", "!5 1- 1 1-", outcome{state, "0 10", "5", 0, 1}},
		{"to steal, at line 11", "!5 1- 11 1-", outcome{state, "0 11", "5", 0, 1}},
		{"to steal, at line 12", "!5 1- 111 1-", outcome{state, "0 12", "5", 0, 1}},
		{"it goes on from where it was", "!5 !6 1- 1 1- 1 1- 1 1- 1", outcome{has(5), "0 0", "5 6", 1, 2}},
		{"it begins, hand 0 does not", "1- 0", outcome{state, "0 9", "", 0, 0}},
		{"nor is kept from it", "1- +5", outcome{on, "1 9", "", 0, 0}},
		{"nor from a pop", "1- -", outcome{on, "4 9", "", 0, 0}},
		{"hand 0 does not steal", "!5 0-", outcome{wrong, "0 0", "5", 0, 1}},
		{"nor begins by that", "!5 0- 0", outcome{state, "0 0", "5", 0, 1}},
		{"it begins while hand 0 pushes", "+5 00 1-", outcome{on, "3 9", "5", 0, 0}},
		{"it begins while hand 0 pops", "!5 - 00 1-", outcome{on, "7 9", "5", 0, 0}},
	})
}

// TestPushAndSteal: hand 0 pushes, another one steals, and they go on between each other.
func TestPushAndSteal(t *testing.T) {
	const around = eight + "1? 1? 1? "
	checkLines(t, []lined{
		{"room came ahead of line 1", eight + "+9 1? 0", outcome{on, "2 0", "1 2 3 4 5 6 7 8", 1, 8}},
		{"room came ahead of line 1, line 2", eight + "+9 1? 00", outcome{on, "3 0", "9 2 3 4 5 6 7 8", 1, 8}},
		{"room came ahead of line 1, line 3", eight + "+9 1? 000", outcome{isIn, "0 0", "9 2 3 4 5 6 7 8", 1, 9}},
		{"room is to come, at line 12", eight + "+9 1- 111 0", outcome{full, "0 12", "1 2 3 4 5 6 7 8", 0, 8}},
		{"and comes then", eight + "+9 1- 111 0 1", outcome{has(1), "0 0", "1 2 3 4 5 6 7 8", 1, 8}},
		{"room came at last", eight + "+9 1- 111 1 0", outcome{on, "2 0", "1 2 3 4 5 6 7 8", 1, 8}},
		{"room came behind line 1", eight + "+9 0 1? 0", outcome{state, "0 0", "1 2 3 4 5 6 7 8", 1, 8}},
		{"room came behind line 1, it begins again", eight + "+9 0 1? +10 000", outcome{isIn, "0 0", "10 2 3 4 5 6 7 8", 1, 9}},
		{"full again", eight + "1? !9 +10 0", outcome{full, "0 0", "9 2 3 4 5 6 7 8", 1, 9}},
		{"full again, room again", eight + "1? !9 1? +10 000", outcome{isIn, "0 0", "9 10 3 4 5 6 7 8", 2, 10}},
		{"what was pushed second", eight + "1? !9 1?", outcome{has(2), "0 0", "9 2 3 4 5 6 7 8", 2, 9}},
		{"what was pushed last is stolen last", eight + "1? !9 1? 1? 1? 1? 1? 1? 1? 1?", outcome{has(9), "0 0", "9 2 3 4 5 6 7 8", 9, 9}},
		{"or popped first", eight + "1? !9 - 00", outcome{has(9), "0 0", "9 2 3 4 5 6 7 8", 1, 8}},
		{"and what stands in the last place behind that", eight + "1? !9 - 00 - 00", outcome{has(8), "0 0", "9 2 3 4 5 6 7 8", 1, 7}},
		{"nothing is in, further around, line 5", eight + "1? 1? 1? 1? 1? 1? 1? 1? - 00", outcome{on, "6 0", "1 2 3 4 5 6 7 8", 8, 7}},
		{"nothing is in, further around", eight + "1? 1? 1? 1? 1? 1? 1? 1? - 000", outcome{empty, "0 0", "1 2 3 4 5 6 7 8", 8, 8}},
		{"the last one, further around", eight + "1? 1? 1? 1? 1? 1? 1? 1? !9 - 0000", outcome{has(9), "0 0", "9 2 3 4 5 6 7 8", 9, 9}},
		{"the last one of those, in the last place", eight + "1? 1? 1? 1? 1? 1? 1? - 0000", outcome{has(8), "0 0", "1 2 3 4 5 6 7 8", 8, 8}},
		{"twice around", around + "!9 !10 !11 1? 1? 1? 1? 1? 1? !12 !13 !14 !15 !16 +17 000", outcome{isIn, "0 0", "17 10 11 12 13 14 15 16", 9, 17}},

		{"a value came ahead of line 10", "1- 1 !5 1", outcome{on, "0 11", "5", 0, 1}},
		{"a value came ahead of line 10, line 12", "1- 1 !5 111", outcome{has(5), "0 0", "5", 1, 1}},
		{"a value is to come, at line 2", "1- 1 +5 0 1", outcome{empty, "2 0", "", 0, 0}},
		{"a value is to come, at line 3", "1- 1 +5 00 1", outcome{empty, "3 0", "5", 0, 0}},
		{"and comes then", "1- 1 +5 00 1 0", outcome{isIn, "0 0", "5", 0, 1}},
		{"a value came behind line 10", "1- 11 !5 1", outcome{state, "0 0", "5", 0, 1}},
		{"more came at line 11", "!5 1- 11 !6 11", outcome{has(5), "0 0", "5 6", 1, 2}},
		{"more came at line 12", "!5 1- 111 !6 1", outcome{has(5), "0 0", "5 6", 1, 2}},
		{"it pushes behind what is stolen meanwhile", "!5 +6 0 1? 00", outcome{isIn, "0 0", "5 6", 1, 2}},
	})
}

// TestPopAndSteal: hand 0 pops, another one steals, and they go on between each other.
func TestPopAndSteal(t *testing.T) {
	const anew = "!11 !12 !13 !14 !15 !16 !17 !18 "
	checkLines(t, []lined{
		{"the last one is stolen ahead of line 4", "!5 - 1?", outcome{has(5), "4 0", "5", 1, 1}},
		{"then line 4", "!5 - 1? 0", outcome{on, "5 0", "5", 1, 0}},
		{"then line 5", "!5 - 1? 00", outcome{on, "6 0", "5", 1, 0}},
		{"then line 6", "!5 - 1? 000", outcome{empty, "0 0", "5", 1, 1}},
		{"the last one is stolen ahead of line 5", "!5 1- 111 - 0 1", outcome{has(5), "5 0", "5", 1, 0}},
		{"then line 5, behind line 4", "!5 1- 111 - 0 1 0", outcome{on, "6 0", "5", 1, 0}},
		{"then line 6, behind line 4", "!5 1- 111 - 0 1 00", outcome{empty, "0 0", "5", 1, 1}},
		{"the last one is stolen ahead of line 7", "!5 1- 111 - 00 1", outcome{has(5), "7 0", "5", 1, 0}},
		{"then line 7, Top is not t", "!5 1- 111 - 00 1 0", outcome{on, "8 0", "5", 1, 0}},
		{"then line 8, Bottom is set right", "!5 1- 111 - 00 1 00", outcome{empty, "0 0", "5", 1, 1}},
		{"then it pushes to the next place", "!5 1- 111 - 00 1 00 !6", outcome{isIn, "0 0", "5 6", 1, 2}},
		{"and pops that", "!5 1- 111 - 00 1 00 !6 - 0000", outcome{has(6), "0 0", "5 6", 2, 2}},
		{"line 7, Top is t", "!5 1- 111 - 000", outcome{on, "8 12", "5", 1, 0}},
		{"then line 12, it is late", "!5 1- 111 - 000 1", outcome{late, "8 0", "5", 1, 0}},
		{"then line 8", "!5 1- 111 - 000 1 0", outcome{has(5), "0 0", "5", 1, 1}},
		{"line 8 ahead of line 12", "!5 1- 111 - 0000", outcome{has(5), "0 12", "5", 1, 1}},
		{"then line 12, it is late too", "!5 1- 111 - 0000 1", outcome{late, "0 0", "5", 1, 1}},
		{"it was late, and line 0 again", "!5 1- 111 - 0000 11", outcome{state, "0 0", "5", 1, 1}},
		{"it was late, and begins again", "!5 1- 111 - 0000 1 1-", outcome{on, "0 9", "5", 1, 1}},
		{"it was late, and finds nothing", "!5 1- 111 - 0000 1 1- 11", outcome{empty, "0 0", "5", 1, 1}},
		{"it was late, and has the next one", "!5 1- 111 - 0000 1 !6 1?", outcome{has(6), "0 0", "5 6", 2, 2}},

		{"Bottom is one less from line 4 on, line 10", "!5 1- 1 - 0 1", outcome{empty, "5 0", "5", 0, 0}},
		{"then it pops", "!5 1- 1 - 0 1 000", outcome{has(5), "0 0", "5", 1, 1}},
		{"it begins to steal behind line 4", "!5 - 0 1- 1", outcome{on, "5 10", "5", 0, 0}},
		{"it begins to steal behind line 4, line 10", "!5 - 0 1- 11", outcome{empty, "5 0", "5", 0, 0}},
		{"line 10 behind line 5", "!5 1- 1 - 00 1", outcome{empty, "7 0", "5", 0, 0}},
		{"line 10 behind line 7", "!5 1- 1 - 000 1", outcome{empty, "8 0", "5", 1, 0}},
		{"line 10 behind line 8", "!5 1- 1 - 0000 1", outcome{on, "0 11", "5", 1, 1}},
		{"line 10 behind line 8, late", "!5 1- 1 - 0000 111", outcome{late, "0 0", "5", 1, 1}},
		{"line 9 behind line 7, line 10", "!5 - 000 1- 11", outcome{empty, "8 0", "5", 1, 0}},
		{"line 9 behind line 7, line 10 behind line 8", "!5 - 000 1- 1 0 1", outcome{empty, "0 0", "5", 1, 1}},
		{"line 10 ahead of line 4", "!5 - 1- 11 0", outcome{on, "5 11", "5", 0, 0}},
		{"line 11 behind line 4", "!5 - 1- 11 0 1", outcome{on, "5 12", "5", 0, 0}},
		{"line 12 behind line 4", "!5 - 1- 11 0 11", outcome{has(5), "5 0", "5", 1, 0}},
		{"line 11 behind line 7", "!5 - 1- 11 000 1", outcome{on, "8 12", "5", 1, 0}},
		{"line 12 behind line 7", "!5 - 1- 11 000 11", outcome{late, "8 0", "5", 1, 0}},

		{"nothing is in, Bottom is below Top", "- 0 1- 1", outcome{on, "5 10", "", 0, -1}},
		{"nothing is in, Bottom is below Top, line 10", "- 0 1- 11", outcome{empty, "5 0", "", 0, -1}},
		{"nothing is in, line 10 behind line 5", "- 00 1- 11", outcome{empty, "6 0", "", 0, -1}},
		{"nothing is in, line 10 behind line 6", "- 00 1- 1 0 1", outcome{empty, "0 0", "", 0, 0}},
		{"nothing is in, then it pops nothing", "- 0 1- 11 00", outcome{empty, "0 0", "", 0, 0}},
		{"nothing was in, one is pushed ahead of line 10", "- 0 1- 1 00 !5 1", outcome{on, "0 11", "5", 0, 1}},

		{"two are in, one is stolen ahead of line 5", "!5 !6 - 0 1?", outcome{has(5), "5 0", "5 6", 1, 1}},
		{"then the other one is the last one, line 5", "!5 !6 - 0 1? 0", outcome{on, "7 0", "5 6", 1, 1}},
		{"line 7", "!5 !6 - 0 1? 00", outcome{on, "8 0", "5 6", 2, 1}},
		{"line 8", "!5 !6 - 0 1? 000", outcome{has(6), "0 0", "5 6", 2, 2}},
		{"but it is not stolen", "!5 !6 - 0 1? 1- 11", outcome{empty, "5 0", "5 6", 1, 1}},
		{"two are in, one is stolen behind line 5", "!5 !6 1- 111 - 00", outcome{has(6), "0 12", "5 6", 0, 1}},
		{"then line 12", "!5 !6 1- 111 - 00 1", outcome{has(5), "0 0", "5 6", 1, 1}},
		{"two are in, both are stolen ahead of line 4", "!5 !6 - 1? 1?", outcome{has(6), "4 0", "5 6", 2, 2}},
		{"then line 5", "!5 !6 - 1? 1? 00", outcome{on, "6 0", "5 6", 2, 1}},
		{"two are in, both are popped ahead of line 12", "!5 !6 1- 111 - 00 - 0000 1", outcome{late, "0 0", "5 6", 1, 1}},
		{"two are in, both are popped ahead of line 10", "!5 !6 1- 1 - 00 - 0000 1", outcome{on, "0 11", "5 6", 1, 1}},
		{"two are in, the last one is to be popped ahead of line 10", "!5 !6 1- 1 - 00 - 0 1", outcome{empty, "5 0", "5 6", 0, 0}},
		{"what was popped and pushed anew is not what is stolen", "!5 !6 1- 111 - 00 !7 1", outcome{has(5), "0 0", "5 7", 1, 2}},
		{"three are in, both go on", "!5 !6 !7 - 1- 01 01", outcome{on, "0 11", "5 6 7", 0, 2}},
		{"three are in, both are done", "!5 !6 !7 - 1- 01 01 11", outcome{has(5), "0 0", "5 6 7", 1, 2}},

		{"its place is written anew behind line 11", "!5 1- 111 - 0000 " + anew, outcome{isIn, "0 12", "18 11 12 13 14 15 16 17", 1, 9}},
		{"then it is late", "!5 1- 111 - 0000 " + anew + "1", outcome{late, "0 0", "18 11 12 13 14 15 16 17", 1, 9}},
		{"then it has what is ahead of all", "!5 1- 111 - 0000 " + anew + "1 1?", outcome{has(11), "0 0", "18 11 12 13 14 15 16 17", 2, 9}},
		{"its place is written anew behind line 10", "!5 1- 11 - 0000 " + anew + "1", outcome{on, "0 12", "18 11 12 13 14 15 16 17", 1, 9}},
		{"then it is late as well", "!5 1- 11 - 0000 " + anew + "11", outcome{late, "0 0", "18 11 12 13 14 15 16 17", 1, 9}},
		{"its place is written anew behind line 9", "!5 1- 1 - 0000 " + anew + "1", outcome{on, "0 11", "18 11 12 13 14 15 16 17", 1, 9}},
		{"then it is late all the same", "!5 1- 1 - 0000 " + anew + "111", outcome{late, "0 0", "18 11 12 13 14 15 16 17", 1, 9}},
		{"its place is written anew ahead of line 9", "!5 1- - 0000 " + anew + "1111", outcome{has(11), "0 0", "18 11 12 13 14 15 16 17", 2, 9}},
	})
}

// TestLinesOf3: hand 0 pops, and two others steal.
func TestLinesOf3(t *testing.T) {
	checkLines(t, []lined{
		{"both come to line 12", "!5 1- 2- 12 12 12", outcome{on, "0 12 12", "5", 0, 1}},
		{"one has it", "!5 1- 2- 12 12 12 1", outcome{has(5), "0 0 12", "5", 1, 1}},
		{"the other one is late", "!5 1- 2- 12 12 12 12", outcome{late, "0 0 0", "5", 1, 1}},
		{"late, though another one is in", "!5 !6 1- 2- 12 12 12 12", outcome{late, "0 0 0", "5 6", 1, 2}},
		{"which it has then", "!5 !6 1- 2- 12 12 12 12 2?", outcome{has(6), "0 0 0", "5 6", 2, 2}},
		{"stolen behind line 9, line 10, nothing more is in", "!5 1- 1 2? 1", outcome{on, "0 11 0", "5", 1, 1}},
		{"stolen behind line 9, late", "!5 1- 1 2? 111", outcome{late, "0 0 0", "5", 1, 1}},
		{"stolen behind line 10, late", "!5 1- 11 2? 11", outcome{late, "0 0 0", "5", 1, 1}},
		{"stolen behind line 11, late", "!5 1- 111 2? 1", outcome{late, "0 0 0", "5", 1, 1}},
		{"stolen ahead of line 9", "!5 1- 2? 11", outcome{empty, "0 0 0", "5", 1, 1}},
		{"two are stolen behind line 9, late", "!5 !6 1- 1 2? 2? 111", outcome{late, "0 0 0", "5 6", 2, 2}},
		{"stolen behind line 9, Bottom is one less, line 10", "!5 1- 1 2? - 0 1", outcome{empty, "5 0 0", "5", 1, 0}},
		{"stolen behind line 9, then popped, late", "!5 !6 1- 1 2? - 0000 111", outcome{late, "0 0 0", "5 6", 2, 2}},

		{"one has it, hand 0 at line 7", "!5 1- 2- 12 12 12 - 00 2", outcome{has(5), "7 12 0", "5", 1, 0}},
		{"then the other one", "!5 1- 2- 12 12 12 - 00 2 1", outcome{late, "7 0 0", "5", 1, 0}},
		{"then hand 0", "!5 1- 2- 12 12 12 - 00 2 1 00", outcome{empty, "0 0 0", "5", 1, 1}},
		{"hand 0 has it", "!5 1- 2- 12 12 12 - 000 12", outcome{late, "8 0 0", "5", 1, 0}},
		{"one begins behind line 4, and finds nothing", "!5 1- 111 - 0 2- 22", outcome{empty, "5 12 0", "5", 0, 0}},
		{"though the other one has it then", "!5 1- 111 - 0 2- 22 1", outcome{has(5), "5 0 0", "5", 1, 0}},
		{"or hand 0", "!5 1- 111 - 0 2- 22 000", outcome{has(5), "0 12 0", "5", 1, 1}},

		{"both are stolen ahead of line 5", "!5 !6 1? 2- 222 - 0 2", outcome{has(6), "5 0 0", "5 6", 2, 1}},
		{"then line 5", "!5 !6 1? 2- 222 - 0 2 0", outcome{on, "6 0 0", "5 6", 2, 1}},
		{"then line 6", "!5 !6 1? 2- 222 - 0 2 00", outcome{empty, "0 0 0", "5 6", 2, 2}},
		{"both are stolen, the last one ahead of line 7", "!5 !6 1? 2- 222 - 00 2", outcome{has(6), "7 0 0", "5 6", 2, 1}},
		{"then line 7", "!5 !6 1? 2- 222 - 00 2 0", outcome{on, "8 0 0", "5 6", 2, 1}},
		{"then line 8", "!5 !6 1? 2- 222 - 00 2 00", outcome{empty, "0 0 0", "5 6", 2, 2}},
		{"two steal, the first one makes the other value the last one", "!5 !6 1- 2- 12 12 12 - 0 1 2", outcome{late, "5 0 0", "5 6", 1, 1}},
		{"which hand 0 has", "!5 !6 1- 2- 12 12 12 - 0 1 2 000", outcome{has(6), "0 0 0", "5 6", 2, 2}},
		{"all go on by turns", "!5 !6 !7 - 1- 2- 012 012 12 12", outcome{late, "0 0 0", "5 6 7", 1, 2}},
		{"room for two", eight + "1? 2? !9 !10 +11 0", outcome{full, "0 0 0", "9 10 3 4 5 6 7 8", 2, 10}},
	})
}

// TestLinesOf4: all hands meet.
func TestLinesOf4(t *testing.T) {
	const met = "!5 !6 1- 2- 3- 123 123 123 "
	checkLines(t, []lined{
		{"all steal", "1- 2- 3-", outcome{on, "0 9 9 9", "", 0, 0}},
		{"all find nothing", "1- 2- 3- 123 123", outcome{empty, "0 0 0 0", "", 0, 0}},
		{"all come to line 12", met, outcome{on, "0 12 12 12", "5 6", 0, 2}},
		{"one has it", met + "2", outcome{has(5), "0 12 0 12", "5 6", 1, 2}},
		{"the others are late", met + "2 1", outcome{late, "0 0 0 12", "5 6", 1, 2}},
		{"the last one too", met + "2 1 3", outcome{late, "0 0 0 0", "5 6", 1, 2}},
		{"all begin again", met + "213 1- 2- 3- 123 123 123 3", outcome{has(6), "0 12 12 0", "5 6", 2, 2}},
		{"all are late again", met + "213 1- 2- 3- 123 123 123 321", outcome{late, "0 0 0 0", "5 6", 2, 2}},
		{"hand 0 has the last one, and the others the first one", met + "- 00 - 00", outcome{on, "7 12 12 12", "5 6", 0, 0}},
		{"or hand 0 both", met + "- 00 - 000 123", outcome{late, "8 0 0 0", "5 6", 1, 0}},
		{"or one of the others", met + "- 00 - 00 3 12 00", outcome{empty, "0 0 0 0", "5 6", 1, 1}},
		{"one by one, in their order", "!5 !6 !7 1? 2? 3?", outcome{has(7), "0 0 0 0", "5 6 7", 3, 3}},
		{"then nothing is in", "!5 !6 !7 1? 2? 3? - 000", outcome{empty, "0 0 0 0", "5 6 7", 3, 3}},
	})
}

// mixes of so many steps of hand 0 and so many of hand 1, all of them.
func mixes(of0, of1 int) []string {
	if of0 == 0 || of1 == 0 {
		return []string{strings.Repeat("0", of0) + strings.Repeat("1", of1)}
	}
	var out []string
	for _, rest := range mixes(of0-1, of1) {
		out = append(out, "0"+rest)
	}
	for _, rest := range mixes(of0, of1-1) {
		out = append(out, "1"+rest)
	}
	return out
}

// before: in a mix, is the i-th step of hand 0 ahead of the k-th one of hand 1, from 1 on?
func before(mix string, i, k int) bool {
	for _, c := range mix {
		if c == '0' {
			i--
		} else {
			k--
		}
		if i == 0 || k == 0 {
			return i == 0
		}
	}
	return false
}

// checkMix: so many values, of worth 1, 2, .., are in, behind as many that were pushed and stolen ahead of that as the round tells; then hand 0 begins, and hand 1 begins to steal; what is told of their ends, and Top and Bottom, is as wanted.
func checkMix(t *testing.T, in, round int, begin act, mix string, wants [2]answer, top, bottom int) {
	t.Helper()
	d := fresh(t, 2)
	for i := range round {
		push(t, d, 100+i)
		steal(t, d, 1, 100+i)
	}
	for i := range in {
		push(t, d, i+1)
	}
	check(t, d, []act{begin, {hand: 1, kind: steals}}, on, on)
	var ends [2]answer
	for _, a := range script(mix) {
		busy, got := d.At(a.hand) != 0, a.in(d)
		switch {
		case !busy && got != state:
			t.Fatalf("%d in, round %d, %v, %s: a hand that is done tells %v", in, round, begin, mix, got)
		case got.done:
			ends[a.hand] = got
		}
	}
	gotTop, gotBottom := d.Ends()
	if ends != wants || gotTop != round+top || gotBottom != round+bottom {
		t.Fatalf("%d in, round %d, %v, %s: got %v %d %d, want %v %d %d", in, round, begin, mix, ends, gotTop, gotBottom, wants, round+top, round+bottom)
	}
}

// TestMixesOfPush: a push and a steal, in whichever order their steps come. Where all places are taken the push finds room if its first step is behind the last one of the steal; where nothing is in the steal finds something if its second step is behind the last one of the push.
func TestMixesOfPush(t *testing.T) {
	for in := range 9 {
		for round := range 18 {
			for _, mix := range mixes(3, 4) {
				wants, top, bottom := [2]answer{isIn, has(1)}, 1, in+1
				switch {
				case in == 8 && before(mix, 1, 4):
					wants[0], bottom = full, 8
				case in == 0 && before(mix, 3, 2):
					wants[1] = has(500)
				case in == 0:
					wants[1], top = empty, 0
				}
				checkMix(t, in, round, act{kind: pushes, value: 500}, mix, wants, top, bottom)
			}
		}
	}
}

// TestMixesOfPop: likewise for a pop and a steal. Where more than one is in each has its own; of two the pop has the last one by its Top, if the steal is done ahead of the pop's second step.
func TestMixesOfPop(t *testing.T) {
	for in := range 9 {
		for round := range 18 {
			for _, mix := range mixes(4, 4) {
				wants, top, bottom := [2]answer{has(in), has(1)}, 1, in-1
				switch {
				case in == 0:
					wants, top, bottom = [2]answer{empty, empty}, 0, 0
				case in == 1:
					wants, bottom = ofOne(mix), 1
				case in == 2 && !before(mix, 2, 4):
					top, bottom = 2, 2
				}
				checkMix(t, in, round, act{kind: pops}, mix, wants, top, bottom)
			}
		}
	}
}

// ofOne tells what comes of a mix where one is in. If the steal's second step is ahead of the pop's first one, who is first has it, of the pop's third step and the steal's last one. Else the pop has it, and the steal finds nothing, but where Bottom is as before again, since the pop is done by the steal's second step, while Top was not at its first one: there it goes on, and is late.
func ofOne(mix string) [2]answer {
	switch {
	case !before(mix, 1, 2) && !before(mix, 3, 4):
		return [2]answer{empty, has(1)}
	case !before(mix, 1, 2), before(mix, 4, 2) && !before(mix, 3, 1):
		return [2]answer{has(1), late}
	}
	return [2]answer{has(1), empty}
}

// TestSteps: an ordinary script, and what is told behind each act.
func TestSteps(t *testing.T) {
	type told struct {
		answer
		shown string
	}
	wants := []told{
		{on, "1 0 0 [0 0 0 0 0 0 0 0] 0 0"},
		{on, "1 9 0 [0 0 0 0 0 0 0 0] 0 0"},
		{on, "2 9 0 [0 0 0 0 0 0 0 0] 0 0"},
		{on, "2 10 0 [0 0 0 0 0 0 0 0] 0 0"},
		{on, "3 10 0 [5 0 0 0 0 0 0 0] 0 0"},
		{isIn, "0 10 0 [5 0 0 0 0 0 0 0] 0 1"},
		{on, "0 11 0 [5 0 0 0 0 0 0 0] 0 1"},
		{state, "0 11 0 [5 0 0 0 0 0 0 0] 0 1"},
		{on, "4 11 0 [5 0 0 0 0 0 0 0] 0 1"},
		{on, "4 11 9 [5 0 0 0 0 0 0 0] 0 1"},
		{on, "5 11 9 [5 0 0 0 0 0 0 0] 0 0"},
		{on, "5 11 10 [5 0 0 0 0 0 0 0] 0 0"},
		{on, "5 12 10 [5 0 0 0 0 0 0 0] 0 0"},
		{empty, "5 12 0 [5 0 0 0 0 0 0 0] 0 0"},
		{state, "5 12 0 [5 0 0 0 0 0 0 0] 0 0"},
		{on, "7 12 0 [5 0 0 0 0 0 0 0] 0 0"},
		{has(5), "7 0 0 [5 0 0 0 0 0 0 0] 1 0"},
		{on, "8 0 0 [5 0 0 0 0 0 0 0] 1 0"},
		{wrong, "8 0 0 [5 0 0 0 0 0 0 0] 1 0"},
		{empty, "0 0 0 [5 0 0 0 0 0 0 0] 1 1"},
		{on, "1 0 0 [5 0 0 0 0 0 0 0] 1 1"},
		{on, "2 0 0 [5 0 0 0 0 0 0 0] 1 1"},
		{on, "3 0 0 [5 6 0 0 0 0 0 0] 1 1"},
		{isIn, "0 0 0 [5 6 0 0 0 0 0 0] 1 2"},
		{on, "0 0 9 [5 6 0 0 0 0 0 0] 1 2"},
		{on, "0 0 10 [5 6 0 0 0 0 0 0] 1 2"},
		{on, "0 0 11 [5 6 0 0 0 0 0 0] 1 2"},
		{on, "0 0 12 [5 6 0 0 0 0 0 0] 1 2"},
		{on, "4 0 12 [5 6 0 0 0 0 0 0] 1 2"},
		{on, "5 0 12 [5 6 0 0 0 0 0 0] 1 1"},
		{on, "7 0 12 [5 6 0 0 0 0 0 0] 1 1"},
		{on, "8 0 12 [5 6 0 0 0 0 0 0] 2 1"},
		{late, "8 0 0 [5 6 0 0 0 0 0 0] 2 1"},
		{has(6), "0 0 0 [5 6 0 0 0 0 0 0] 2 2"},
	}
	acts := script("+5 1- 0 1 0 0 1 0 - 2- 0 2 1 2 2 0 1 0 3- 0 +6 0 0 0 2- 2 2 2 - 0 0 0 2 0")
	if len(wants) != len(acts) {
		t.Fatalf("%d acts, and %d things that are to be told", len(acts), len(wants))
	}
	d := fresh(t, 3)
	for i, a := range acts {
		if got := (told{a.in(d), shown(d, 3)}); got != wants[i] {
			t.Errorf("act %d, %v: got %v, want %v", i, a, got, wants[i])
		}
	}
}
