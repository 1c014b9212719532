// Package found has things that are found again and again, and are looked at once.
package found

// Queue of things: each comes out once, in the order in which they were first put in, however often it is put in.
type Queue[T comparable] struct {
	known map[T]struct{} // those that are out again, too
	left  []T
}

// New queue, with the things that are there at first.
func New[T comparable](first ...T) *Queue[T] {
	q := &Queue[T]{known: map[T]struct{}{}}
	for _, t := range first {
		q.Put(t)
	}
	return q
}

// Put a thing in; one that was in before is not put in again.
func (q *Queue[T]) Put(t T) {
	if _, ok := q.known[t]; ok {
		return
	}
	q.known[t] = struct{}{}
	q.left = append(q.left, t)
}

// Take out the thing that has waited longest; false, if none is left.
func (q *Queue[T]) Take() (t T, ok bool) {
	if len(q.left) == 0 {
		return t, false
	}
	t, q.left = q.left[0], q.left[1:]
	return t, true
}
