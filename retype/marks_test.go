package retype_test

import (
	"math"
	"testing"

	"ringkern/api"
	"ringkern/retype"
)

// taken is a Take and what it should tell, written out.
type taken struct {
	r     api.Range
	n     int
	first int
	is    bool
}

func takeAll(t *testing.T, m *retype.Marks, l ...taken) {
	t.Helper()
	for i, x := range l {
		if first, is := m.Take(x.r, x.n); first != x.first || is != x.is {
			t.Errorf("%d: Take(%+v, %d): %d, %v", i, x.r, x.n, first, is)
		}
	}
}

func usedIs(t *testing.T, m *retype.Marks, r api.Range, want int) {
	t.Helper()
	if got := m.Used(r); got != want {
		t.Errorf("of %+v are used %d, not %d", r, got, want)
	}
}

// emptyRanges have no unit, also those of which a difference goes round.
func emptyRanges() []api.Range {
	out := []api.Range{{}, units(1, 0), units(64, 0), units(65, 0), units(5, -1)}
	for _, n := range far() {
		out = append(out, units(n, 0), units(n, -1), units(n, math.MinInt))
		if n < 0 {
			out = append(out, units(1, n), units(64, n), units(n, n), units(0, n))
		}
	}
	return out
}

func TestP9_1OfTheZeroMarksNoneIsUsed(t *testing.T) {
	var m retype.Marks
	for _, r := range append(ranges, emptyRanges()...) {
		usedIs(t, &m, r, 0)
		m.Reset(r)
		usedIs(t, &m, r, 0)
	}
}

func TestP9_1TakeExamples(t *testing.T) {
	var m retype.Marks
	r := units(10, 6)
	takeAll(t, &m, taken{r, 2, 10, true}, taken{r, 1, 12, true}, taken{r, 4, 0, false}, taken{r, 3, 13, true}, taken{r, 1, 0, false})
	usedIs(t, &m, r, 6)
	m.Reset(r)
	usedIs(t, &m, r, 0)
	takeAll(t, &m, taken{r, 7, 0, false}, taken{r, 6, 10, true}, taken{r, 6, 0, false})
	usedIs(t, &m, r, 6)
}

func TestP9_1UsedBehindEachTake(t *testing.T) {
	var m retype.Marks
	used := 0
	for _, n := range []int{1, 2, 3, 1, 5, 4} {
		takeAll(t, &m, taken{units(3, 20), n, 3 + used, true})
		used += n
		usedIs(t, &m, units(3, 20), used)
	}
}

// One by one up to the last unit, and one more, of each range that an Untyped may have.
func TestP9_1TakeUpToTheLastUnit(t *testing.T) {
	var m retype.Marks
	for _, r := range allRanges() {
		for i := range r.Size {
			takeAll(t, &m, taken{r, 1, r.Base + i, true})
		}
		takeAll(t, &m, taken{r, 1, 0, false}, taken{r, 2, 0, false})
	}
	for _, r := range allRanges() {
		usedIs(t, &m, r, r.Size)
	}
}

// Each count out of each rest of a range.
func TestP9_1TakeOfAllThatAreLeftAndOneMore(t *testing.T) {
	var m retype.Marks
	r := units(7, 9)
	for used := range 10 {
		for n := 1; n <= 12; n++ {
			m.Reset(r)
			if used > 0 {
				takeAll(t, &m, taken{r, used, 7, true})
			}
			if n <= 9-used {
				takeAll(t, &m, taken{r, n, 7 + used, true})
				usedIs(t, &m, r, used+n)
				continue
			}
			takeAll(t, &m, taken{r, n, 0, false})
			usedIs(t, &m, r, used)
		}
	}
}

func TestP9_1TakeThatSaysNoChangesNothing(t *testing.T) {
	for _, used := range []int{0, 1, 5, 8, 9} {
		w := newWorld(t)
		r := units(7, 9)
		if used > 0 {
			w.take(t, r, used)
		}
		for _, n := range append(far(), 0, 10-used, 10, 11, 64) {
			if first, is := w.take(t, r, n); first != 0 || is {
				t.Error("of", used, "used", n, "more:", first, is)
			}
		}
		if used < 9 {
			takeAll(t, w.marks, taken{r, 9 - used, 7 + used, true})
		}
	}
}

func TestP9_1TakeOfRangesWithoutAUnit(t *testing.T) {
	w := newWorld(t)
	for _, r := range emptyRanges() {
		for _, n := range append(far(), 0, 1, 2, 64) {
			takeAll(t, w.marks, taken{r, n, 0, false})
		}
		usedIs(t, w.marks, r, 0)
	}
	w.checkMarks(t, "of ranges without a unit")
}

// A range is what it is, whether or not there are such units.
func TestP9_1TakeOfRangesBeyondTheUnits(t *testing.T) {
	var m retype.Marks
	for _, x := range []struct {
		r          api.Range
		from, left int
	}{
		{units(0, 3), 0, 3}, {units(-5, 3), -5, 3}, {units(64, 9), 64, 9}, {units(65, 3), 65, 3}, {units(-1, 70), -1, 70}, {units(math.MinInt, 4), math.MinInt, 4},
		{units(1<<32+1, 4), 1<<32 + 1, 4}, {units(math.MaxInt-7, 8), math.MaxInt - 7, 8}, {units(1, math.MaxInt), 1, math.MaxInt}, {units(0, math.MaxInt), 0, math.MaxInt}, {units(1, 1<<32+2), 1, 1<<32 + 2},
	} {
		takeAll(t, &m, taken{x.r, 2, x.from, true}, taken{x.r, x.left - 1, 0, false}, taken{x.r, math.MaxInt, 0, false}, taken{x.r, 1, x.from + 2, true})
		usedIs(t, &m, x.r, 3)
		if x.left > 3 {
			takeAll(t, &m, taken{x.r, x.left - 3, x.from + 3, true})
		}
		takeAll(t, &m, taken{x.r, 1, 0, false}, taken{x.r, x.left, 0, false})
		usedIs(t, &m, x.r, x.left)
		m.Reset(x.r)
		usedIs(t, &m, x.r, 0)
	}
}

// Ranges that have units in common, or differ by what a cut to fewer bits takes away, know nothing of one another.
func TestP9_1RangesAreEachOnItsOwn(t *testing.T) {
	w := newWorld(t)
	l := []api.Range{units(5, 4), units(5, 3), units(5, 5), units(6, 4), units(4, 5), units(6, 2), units(4, 9), units(1, 64), units(5, 1), units(9, 4), units(-5, 4), units(5+1<<32, 4), units(5, 4+1<<8), units(5+1<<8, 4), units(4, 5+1<<16)}
	for i, r := range l {
		for range min(i+1, r.Size) {
			w.takes(r, 1)
			takeAll(t, w.marks, taken{r, 1, r.Base + w.used[r] - 1, true})
			w.checkMarks(t, "behind a take")
		}
	}
	for _, r := range l {
		w.reset(t, r)
	}
	for _, r := range l {
		takeAll(t, w.marks, taken{r, 1, r.Base, true})
	}
}

func TestP9_1ResetOfOneLeavesTheOthers(t *testing.T) {
	w := newWorld(t)
	l := []api.Range{units(1, 8), units(1, 7), units(2, 7), units(2, 6), units(3, 1), units(60, 5)}
	for i, r := range l {
		w.take(t, r, min(i+1, r.Size))
	}
	for _, r := range []api.Range{units(1, 8), units(3, 1), units(9, 9), {}, units(2, 7), units(1, 8), units(1, -8), units(60, 5)} {
		w.reset(t, r)
	}
	usedIs(t, w.marks, units(1, 7), 2)
	usedIs(t, w.marks, units(2, 6), 4)
	takeAll(t, w.marks, taken{units(1, 8), 8, 1, true}, taken{units(1, 7), 5, 3, true}, taken{units(2, 7), 1, 2, true}, taken{units(2, 6), 3, 0, false}, taken{units(3, 1), 1, 3, true}, taken{units(60, 5), 6, 0, false})
}

func TestP9_1MarksAreApart(t *testing.T) {
	var a, b retype.Marks
	r := units(20, 4)
	takeAll(t, &a, taken{r, 3, 20, true})
	usedIs(t, &b, r, 0)
	takeAll(t, &b, taken{r, 4, 20, true}, taken{r, 1, 0, false})
	a.Reset(r)
	usedIs(t, &b, r, 4)
	takeAll(t, &a, taken{r, 1, 20, true})
	usedIs(t, &a, r, 1)
}

func TestP9_1DrawnTakesAndResets(t *testing.T) {
	said := map[bool]int{}
	for seed := 1; seed <= 40; seed++ {
		d, w := draw(seed*7919), newWorld(t)
		for range 150 {
			r := units(d.below(7)-1, d.below(9)-1)
			if d.below(7) == 0 {
				w.reset(t, r)
				continue
			}
			_, is := w.take(t, r, d.count())
			said[is]++
		}
	}
	if said[true] < 500 || said[false] < 500 {
		t.Error("too few of one case", said)
	}
}
