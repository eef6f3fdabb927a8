package space_test

import (
	"fmt"
	"math"
	"testing"

	"ringkern/api"
)

// looks are addresses of a space's pages, where they begin and end, and what a cut to fewer bits would carry to one.
func looks() []uint32 {
	out := []uint32{1 << 13, 1 << 16, 1<<16 + 1, 1 << 17, 1<<24 + 512, 1 << 31, 1<<31 + 513, 1<<32 - 513, 1<<32 - 512, 1<<32 - 2, 1<<32 - 1}
	for i := range uint32(18) {
		out = append(out, i*512, i*512+1, i*512+255, i*512+256, i*512+510, i*512+511)
	}
	return out
}

// counts are numbers of bytes that those from address a on may have, and may not.
func counts(a uint32) []int {
	left := 512 - int(a%512)
	return []int{0, 1, 2, left - 1, left, left + 1, 511, 512, 513, 1024, 4096, -1, -left, math.MinInt, math.MaxInt, math.MaxInt - int(a), math.MaxInt - int(a%512) + 1}
}

func asked() []int { return append(far(), 0, 1, 2, 3, 4, 5, 6, 7, 8, 9, 1<<8|1) }

func TestP10_2LookInNoSpace(t *testing.T) {
	b, f := newBoth(), full(t)
	for _, s := range append(far(), 0) {
		for _, a := range looks() {
			for _, n := range []int{0, 1, 512} {
				if got := b.look(t, s, a, n, 0); got != told(0, 0, false) {
					t.Fatal("in none", s, a, n, got)
				}
				if got := f.look(t, s, a, n, 0); got != told(0, 0, false) {
					t.Fatal("in none beside all", s, a, n, got)
				}
			}
		}
	}
}

func TestP10_2LookOfTheZeroValue(t *testing.T) {
	b := newBoth()
	for s := range 66 {
		for _, a := range looks() {
			b.look(t, s, a, 0, 0)
			b.look(t, s, a, 1, 3)
		}
	}
	b.check(t, "behind Look")
}

func TestP10_2LookWrittenOut(t *testing.T) {
	b := some(t)
	for _, x := range []struct {
		space     int
		a         uint32
		n, rights int
		want      string
	}{
		{3, 0, 1, 3, "{7 0 true}"}, {3, 511, 1, 3, "{7 511 true}"}, {3, 511, 2, 3, "{0 0 false}"}, {3, 511, 0, 3, "{7 511 true}"},
		{3, 0, 512, 3, "{7 0 true}"}, {3, 0, 513, 3, "{0 0 false}"}, {3, 1, 511, 3, "{7 1 true}"}, {3, 1, 512, 3, "{0 0 false}"},
		{3, 512, 512, 1, "{7 0 true}"}, {3, 512, 512, 2, "{0 0 false}"}, {3, 1023, 1, 1, "{7 511 true}"}, {3, 1024, 0, 0, "{0 0 false}"},
		{3, 3 * 512, 4, 2, "{3 0 true}"}, {3, 3*512 + 100, 412, 2, "{3 100 true}"}, {3, 3*512 + 100, 413, 2, "{0 0 false}"}, {3, 3*512 + 100, 4, 1, "{0 0 false}"}, {3, 3*512 + 100, 4, 3, "{0 0 false}"},
		{3, 4095, 1, 2, "{10 511 true}"}, {3, 4095, 1, 0, "{10 511 true}"}, {3, 4095, 2, 2, "{0 0 false}"}, {3, 4096, 0, 0, "{0 0 false}"}, {3, 4096 + 512, 1, 1, "{0 0 false}"},
		{10, 3*512 + 7, 8, 1, "{3 7 true}"}, {10, 0, 1, 1, "{0 0 false}"}, {64, 0, 1, 2, "{64 0 true}"}, {64, 7 * 512, 512, 3, "{3 0 true}"}, {64, 7 * 512, 512, 4, "{0 0 false}"},
		{3, 9, -1, 3, "{0 0 false}"}, {3, 9, math.MaxInt, 3, "{0 0 false}"}, {3, 9, math.MinInt, 3, "{0 0 false}"}, {3, 9, 1 << 32, 3, "{0 0 false}"}, {3, 9, 4, -1, "{0 0 false}"}, {3, 9, 4, 1 << 32, "{0 0 false}"},
		{1, 1<<32 - 1, 1, 1, "{0 0 false}"}, {1, 7*512 + 511, 1, 1, "{3 511 true}"}, {1, 1 << 12, 1, 1, "{0 0 false}"}, {1, 1 << 31, 1, 1, "{0 0 false}"},
		{0, 0, 0, 0, "{0 0 false}"}, {65, 0, 0, 0, "{0 0 false}"}, {-3, 0, 0, 0, "{0 0 false}"}, {4, 0, 0, 0, "{0 0 false}"},
	} {
		if got := fmt.Sprint(b.look(t, x.space, x.a, x.n, x.rights)); got != x.want {
			t.Errorf("Look(%d, %d, %d, %d): %s, not %s", x.space, x.a, x.n, x.rights, got, x.want)
		}
	}
	b.check(t, "behind Look")
}

func TestP10_2LookAtEachByte(t *testing.T) {
	b := full(t)
	for _, s := range []int{1, 3, 64} {
		for a := range uint32(4096 + 1024) {
			for _, n := range counts(a) {
				for rights := range 5 {
					b.look(t, s, a, n, rights)
				}
			}
		}
	}
}

// Each address of each space leads to its page's frame, and the bytes up to the page's end are all that there are.
func TestP10_2LookInEachSpace(t *testing.T) {
	b := full(t)
	for _, p := range pages() {
		f, _ := b.maps.Get(p)
		for _, off := range []int{0, 1, 2, 100, 510, 511} {
			a := uint32(p.Page*512 + off)
			if got := b.look(t, p.Space, a, 512-off, f.Rights); got != told(f.Frame, off, true) {
				t.Fatal(p, off, got)
			}
			if got := b.look(t, p.Space, a, 513-off, f.Rights); got != told(0, 0, false) {
				t.Fatal(p, off, "and one more", got)
			}
		}
	}
	b.check(t, "behind Look")
}

func TestP10_2LookOverEachRight(t *testing.T) {
	grants := map[int][]int{1: {0, 1}, 2: {0, 2}, 3: {0, 1, 2, 3}}
	for have, l := range grants {
		b := begin(t, line{page(5, 2), to(9, have)})
		allowed := 0
		for _, rights := range asked() {
			if b.look(t, 5, 2*512+30, 4, rights).is {
				allowed++
			}
		}
		if allowed != len(l) {
			t.Errorf("rights of %d: %d of all", have, allowed)
		}
		for _, rights := range l {
			if got := b.look(t, 5, 2*512+30, 4, rights); got != told(9, 30, true) {
				t.Errorf("rights of %d, %d of them asked: %v", have, rights, got)
			}
		}
	}
}

func TestP10_2LookAtWrongNumbers(t *testing.T) {
	b := full(t)
	for _, s := range units() {
		for _, a := range looks() {
			for _, n := range append(counts(a), far()...) {
				b.look(t, s, a, n, 0)
			}
			for _, rights := range asked() {
				b.look(t, s, a, 1, rights)
			}
		}
	}
	b.check(t, "behind Look")
}

// The page beside is mapped to the next unit, with the same rights: what goes beyond is not taken for all that.
func TestP10_2LookBeyondAPageIntoTheNext(t *testing.T) {
	b := begin(t, line{page(5, 6), to(20, 3)}, line{page(5, 7), to(21, 3)}, line{page(6, 0), to(22, 3)})
	for off := range uint32(512) {
		for page := uint32(6); page <= 7; page++ {
			a, left := page*512+off, 512-int(off)
			for _, n := range []int{left + 1, 512 + left, 1024, math.MaxInt} {
				if n > left && b.look(t, 5, a, n, 1).is {
					t.Fatal(a, n)
				}
			}
			if !b.look(t, 5, a, left, 3).is {
				t.Fatal(a, left)
			}
		}
	}
}

func TestP10_2LookSeesWhatIsMappedNow(t *testing.T) {
	b := begin(t, line{page(5, 2), to(9, 3)})
	is := func(space int, want found) {
		t.Helper()
		if got := b.look(t, space, 2*512+30, 4, api.Write); got != want {
			t.Errorf("%v, not %v", got, want)
		}
	}
	is(5, told(9, 30, true))
	is(6, told(0, 0, false))
	b.set(t, page(5, 2), to(10, 3))
	is(5, told(9, 30, true))
	b.clear(t, page(5, 2))
	is(5, told(0, 0, false))
	b.set(t, page(5, 2), to(10, 1))
	is(5, told(0, 0, false))
	b.drop(t, 10)
	b.set(t, page(5, 2), to(11, 2))
	is(5, told(11, 30, true))
	b.set(t, page(6, 2), to(11, 3))
	is(6, told(11, 30, true))
	b.empty(t, 5)
	is(5, told(0, 0, false))
	is(6, told(11, 30, true))
	b.drop(t, 11)
	is(6, told(0, 0, false))
}
