package tso

import (
	"latchgarth/api"
)

// stored is a number that waits for a word.
type stored struct{ word, value int }

// row of what a hand stored and what waits; what has waited longest is first. Behind many all is 0, so that rows of the same are the same.
type row struct {
	many int
	list [api.MaxLines]stored
}

// put what is stored last.
func (r *row) put(word, value int) {
	r.list[r.many] = stored{word, value}
	r.many++
}

// take out what has waited longest; all behind it moves forward.
func (r *row) take() stored {
	first := r.list[0]
	copy(r.list[:], r.list[1:])
	r.many--
	r.list[r.many] = stored{}
	return first
}

// over is what the words are for who stored this.
func (r *row) over(words [api.MaxWords]int) [api.MaxWords]int {
	for _, s := range r.list[:r.many] {
		words[s.word] = s.value
	}
	return words
}
