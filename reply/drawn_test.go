package reply_test

import (
	"fmt"
	"runtime"
	"slices"
	"testing"

	"ringkern/api"
	"ringkern/reply"
)

// draw is a row of numbers that look like none, the same at each run.
type draw uint64

func (d *draw) below(n int) int {
	*d ^= *d << 13
	*d ^= *d >> 7
	*d ^= *d << 17
	return int(uint64(*d) >> 11 % uint64(n))
}

// id is one of so few that calls meet each other, at times one far from all.
func (d *draw) id() api.ID {
	if d.below(15) == 0 {
		l := ids()
		return l[d.below(len(l))]
	}
	return []api.ID{id(0, 0), id(0, 1), id(1, 0), id(1, 1)}[d.below(4)]
}

// tally counts what the drawn calls came to: a test of them is worth little where some case never comes.
type tally map[string]int

// who says what one is to those that wait, or that did.
type who map[api.ID]string

// is is what this one was last; whoever is not named never came.
func (w who) is(x api.ID) string {
	if s := w[x]; s != "" {
		return s
	}
	return "one that never came"
}

// act makes one call, and answers it with what it told.
func (d *draw) act(t *testing.T, b *both, w who, n tally) string {
	t.Helper()
	x, at := d.id(), "nobody"
	ahead := b.model.caller()
	if ahead.is {
		at = "one"
	}
	var what, told string
	switch d.below(7) {
	case 0, 1:
		what = "Drop of " + w.is(x) + ", " + at + " waits: "
		g := b.drop(t, x)
		what, told = what+fmt.Sprint(g), fmt.Sprint(x, g)
		if g {
			w[x] = "one that was dropped"
		}
	case 2:
		g := b.take(t)
		what, told = "Take, "+at+" waits: "+fmt.Sprint(g.is), fmt.Sprint(g)
		if g.is {
			w[g.id] = "one that was taken"
		}
	default:
		what = "Bind of " + w.is(x) + ", " + at + " waits: "
		g := b.bind(t, x)
		what, told = what+fmt.Sprint(g.is), fmt.Sprint(x, g)
		if g.is {
			w[g.id] = "one that was put out"
		}
		w[x] = "the one that waits"
	}
	n[what]++
	return what + " " + told
}

// every is what drawn calls may come to: of all, what the one of the call was last, who waits, and what is told.
func every() []string {
	out := []string{"Take, nobody waits: false", "Take, one waits: true", "Bind of the one that waits, one waits: true", "Drop of the one that waits, one waits: true"}
	for _, x := range []string{"one that never came", "one that was dropped", "one that was taken", "one that was put out"} {
		out = append(out, "Bind of "+x+", nobody waits: false", "Bind of "+x+", one waits: true",
			"Drop of "+x+", nobody waits: false", "Drop of "+x+", one waits: false")
	}
	return out
}

func TestP15_1DrawnCallsAgainstTheReference(t *testing.T) {
	n := tally{}
	for seed := 1; seed <= 150; seed++ {
		d, b, w := draw(seed*7919), begin(t), who{}
		for range 150 {
			d.act(t, b, w, n)
		}
		b.ends(t, seed%ways)
	}
	for _, what := range every() {
		if n[what] < 20 {
			t.Errorf("too few of %s: %d", what, n[what])
		}
		delete(n, what)
	}
	if len(n) > 0 {
		t.Error("what can't be came:", n)
	}
}

// What a call answers hangs on the calls before on the same cell alone.
func TestP15_1DrawnCallsAreTheSameAgain(t *testing.T) {
	answers := func() (out []string) {
		d, b, w := draw(4711), begin(t), who{}
		for range 150 {
			out = append(out, d.act(t, b, w, tally{}), b.shown())
		}
		return out
	}
	first := answers()
	for range 5 {
		if again := answers(); !slices.Equal(again, first) {
			t.Fatal(first, again)
		}
	}
}

// each is every call there is of three IDs, the one of zeros among them.
func each() (out []func(*testing.T, *both)) {
	for _, x := range []api.ID{id(0, 0), id(0, 1), id(1, 0)} {
		out = append(out, func(t *testing.T, b *both) { b.bind(t, x) }, func(t *testing.T, b *both) { b.drop(t, x) })
	}
	return append(out, func(t *testing.T, b *both) { b.take(t) })
}

// Every row of four calls, where nobody waits, and where one does.
func TestP15_1EachRowOfFourCalls(t *testing.T) {
	calls := each()
	for i := range len(calls) * len(calls) * len(calls) * len(calls) {
		for way := range ways {
			for _, b := range []*both{begin(t), bound(t, id(0, 0)), bound(t, id(1, 0)), bound(t, id(5, 5))} {
				for n, left := 0, i; n < 4; n, left = n+1, left/len(calls) {
					calls[left%len(calls)](t, b)
				}
				b.ends(t, way)
			}
		}
	}
}

// Each of many puts out the one ahead of it.
func TestP15_1ManyPutEachOtherOut(t *testing.T) {
	var c reply.Cell
	want := nobody
	for i := range 200000 {
		x := id(i*7919%1501-700, i%5)
		if g := tell(c.Bind(x)); g != want {
			t.Fatal("Bind", i, g, want)
		}
		want = told{x, true}
		if g := tell(c.Caller()); g != want {
			t.Fatal("Caller", i, g, want)
		}
	}
	if tell(c.Take()) != want || tell(c.Take()) != nobody {
		t.Error("Take")
	}
}

// Many wait one behind the other, and are taken, dropped or put out: nobody is left behind.
func TestP15_1LongUseLeavesNothingBehind(t *testing.T) {
	var c reply.Cell
	for i := range 200000 {
		x, last := id(i, -i), id(i-1, 1-i)
		if tell(c.Bind(x)) != nobody || c.Drop(last) || tell(c.Caller()) != (told{x, true}) {
			t.Fatal("Bind", x)
		}
		switch i % ways {
		case taken:
			if tell(c.Take()) != (told{x, true}) {
				t.Fatal("Take", x)
			}
		case dropped:
			if !c.Drop(x) {
				t.Fatal("Drop", x)
			}
		case putOut:
			if tell(c.Bind(last)) != (told{x, true}) || c.Drop(x) || !c.Drop(last) {
				t.Fatal("Bind", last)
			}
		}
		if c.Drop(x) || tell(c.Take()) != nobody || tell(c.Caller()) != nobody {
			t.Fatal("somebody is left", x)
		}
	}
}

// used is how many bytes are held, once all that nobody holds is away.
func used() int {
	var m runtime.MemStats
	runtime.GC()
	runtime.ReadMemStats(&m)
	return int(m.HeapAlloc)
}

// A cell holds no more, however many waited there.
func TestP15_1LongUseHoldsNoMemory(t *testing.T) {
	c := &reply.Cell{}
	before := used()
	for i := range 200000 {
		c.Bind(id(i, 1))
		c.Bind(id(i, 2))
		if i%2 == 0 {
			c.Take()
		} else {
			c.Drop(id(i, 2))
		}
	}
	if more := used() - before; more > 1<<20 {
		t.Error("bytes that are held more:", more)
	}
	if tell(c.Caller()) != nobody {
		t.Error("somebody is left")
	}
}
