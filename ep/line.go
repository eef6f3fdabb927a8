package ep

// line is who waits on one side, as they came. It is no list.List, as one that waits already may wait once more, with another message. The zero value has nobody.
type line[T any] struct {
	came []T
	gone int // how many of those, from the front on, wait no more: fewer than half, so that somebody waits where any came
}

// push puts x behind the others.
func (l *line[T]) push(x T) {
	l.came = append(l.came, x)
}

// pop is the first, that goes; false where nobody waits.
func (l *line[T]) pop() (T, bool) {
	if len(l.came) == 0 {
		var none T
		return none, false
	}
	x := l.came[l.gone]
	l.gone++
	// Only when half went, as a copy at each pop would be slow; but then, as the room of those that went is not to be kept.
	if 2*l.gone >= len(l.came) {
		l.came, l.gone = l.waits(), 0
	}
	return x, true
}

// drop takes all those out of which is holds; false where it holds of none.
func (l *line[T]) drop(is func(T) bool) bool {
	var left []T
	for _, x := range l.came[l.gone:] {
		if !is(x) {
			left = append(left, x)
		}
	}
	ok := len(left) < len(l.came)-l.gone
	l.came, l.gone = left, 0
	return ok
}

// waits is who waits, in new memory.
func (l *line[T]) waits() []T {
	return append([]T(nil), l.came[l.gone:]...)
}
