package ep_test

import (
	"fmt"
	"runtime"
	"slices"
	"testing"

	"ringkern/api"
	"ringkern/ep"
)

// draw is a row of numbers that look like none, the same at each run.
type draw uint64

func (d *draw) below(n int) int {
	*d ^= *d << 13
	*d ^= *d >> 7
	*d ^= *d << 17
	return int(uint64(*d) >> 11 % uint64(n))
}

// id is one of so few that calls meet each other, at times one far from all.
func (d *draw) id() api.ID {
	if d.below(15) == 0 {
		l := ids()
		return l[d.below(len(l))]
	}
	return []api.ID{id(0, 0), id(0, 1), id(1, 0), id(1, 1), id(2, 1), id(1, 2), id(-1, 1)}[d.below(7)]
}

// msg is one whose parts are drawn one by one, at times one far from all.
func (d *draw) msg() ep.Msg {
	if d.below(15) == 0 {
		l := msgs()
		return l[d.below(len(l))]
	}
	return ep.Msg{ID: d.id(), Word: uint32(d.below(1 << 32)), Badge: d.below(5) - 2, Call: d.below(2) == 0}
}

func (d *draw) recv() ep.Recv {
	if d.below(15) == 0 {
		l := recvs()
		return l[d.below(len(l))]
	}
	return ep.Recv{ID: d.id(), Reply: d.below(5) - 2}
}

// tally counts what the drawn calls came to: a test of them is worth little where some case never comes.
type tally map[string]int

// waiting says how many wait, and on which side.
func (b *both) waiting() string {
	switch {
	case len(b.model) == 0:
		return "nobody"
	case b.model[0].sends:
		return fmt.Sprint(min(len(b.model), 2), " send")
	}
	return fmt.Sprint(min(len(b.model), 2), " receive")
}

// where says of one that goes, or that comes, where among those that wait it stands.
func (b *both) where(x api.ID) string {
	at, n := -1, 0
	for i, y := range b.model {
		if y.id == x {
			at, n = i, n+1
		}
	}
	switch {
	case n == 0:
		return "none"
	case n > 1:
		return "several"
	case len(b.model) == 1:
		return "the only one"
	case at == 0:
		return "the first"
	case at == len(b.model)-1:
		return "the last"
	}
	return "in the midst"
}

// act makes one call, and answers it with what it told. Most of a while are of one side, so that several wait.
func (d *draw) act(t *testing.T, b *both, sends bool, n tally) string {
	t.Helper()
	var what, told string
	switch k := d.below(12); {
	case k < 3:
		x := d.id()
		what = "Drop of " + b.where(x) + ", " + b.waiting() + ": "
		g := b.drop(t, x)
		what, told = what+fmt.Sprint(g), fmt.Sprint(x, g)
	case (k < 9) == sends:
		m := d.msg()
		what = "Send of " + b.where(m.ID) + ", " + b.waiting() + ": "
		g := b.send(t, m)
		what, told = what+fmt.Sprint(g.is), fmt.Sprint(m, g)
	default:
		r := d.recv()
		what = "Recv of " + b.where(r.ID) + ", " + b.waiting() + ": "
		g := b.recv(t, r)
		what, told = what+fmt.Sprint(g.is), fmt.Sprint(r, g)
	}
	n[what]++
	return what + " " + told
}

// every is what drawn calls may come to: of all, where the one of the call stands, who waits, and what is told.
func every() (out []string) {
	tells := func(call, who, what string) { out = append(out, call+" of "+who+", "+what) }
	for _, side := range []string{"send", "receive"} {
		of := func(who string, waiting int) {
			w := fmt.Sprint(waiting, " ", side)
			tells("Send", who, fmt.Sprint(w, ": ", side == "receive"))
			tells("Recv", who, fmt.Sprint(w, ": ", side == "send"))
			tells("Drop", who, fmt.Sprint(w, ": ", who != "none"))
		}
		of("none", 1)
		of("the only one", 1)
		for _, who := range []string{"none", "the first", "in the midst", "the last", "several"} {
			of(who, 2)
		}
	}
	for _, call := range []string{"Send", "Recv", "Drop"} {
		tells(call, "none", "nobody: false")
	}
	return out
}

func TestP14_1DrawnCallsAgainstTheReference(t *testing.T) {
	n := tally{}
	for seed := 1; seed <= 150; seed++ {
		d, b := draw(seed*7919), begin(t)
		for i := range 150 {
			d.act(t, b, i/12%2 == seed%2, n)
		}
		b.ends(t, seed%2 == 0)
	}
	for _, what := range every() {
		if n[what] < 20 {
			t.Errorf("too few of %s: %d", what, n[what])
		}
		delete(n, what)
	}
	if len(n) > 0 {
		t.Error("what can't be came:", n)
	}
}

// What a call answers hangs on the calls before on the same endpoint alone.
func TestP14_1DrawnCallsAreTheSameAgain(t *testing.T) {
	answers := func() (out []string) {
		d, b := draw(4711), begin(t)
		for i := range 150 {
			out = append(out, d.act(t, b, i/12%2 == 0, tally{}), fmt.Sprint(b.ep.Senders(), b.ep.Receivers()))
		}
		return out
	}
	first := answers()
	for range 5 {
		if again := answers(); !slices.Equal(again, first) {
			t.Fatal(first, again)
		}
	}
}

// each is every call there is of three IDs, the one of zeros among them.
func each() (out []func(*testing.T, *both)) {
	for _, x := range []api.ID{id(0, 0), id(0, 1), id(1, 0)} {
		out = append(out, func(t *testing.T, b *both) { b.come(t, true, x) },
			func(t *testing.T, b *both) { b.come(t, false, x) }, func(t *testing.T, b *both) { b.drop(t, x) })
	}
	return out
}

// Every row of four calls, where nobody waits, one does, and several do, one of them twice, on each side; and then one behind the other goes.
func TestP14_1EachRowOfFourCalls(t *testing.T) {
	calls := each()
	for k, l := range [][]api.ID{nil, {id(1, 0)}, {id(0, 1), id(0, 0), id(5, 5)}, {id(5, 5), id(1, 0), id(0, 0), id(1, 0)}} {
		for i := range len(calls) * len(calls) * len(calls) * len(calls) {
			for _, sends := range sides[:min(k+1, 2)] {
				b := some(t, sends, l...)
				for n, left := 0, i; n < 4; n, left = n+1, left/len(calls) {
					calls[left%len(calls)](t, b)
				}
				b.ends(t, i%2 == 0)
			}
		}
	}
}

// crowd is of many an ID, which comes again 1501 later.
func crowd(i int) api.ID { return id(i*7919%1501-700, i%1501%2) }

func TestP14_1ManyAreMetAsTheyCame(t *testing.T) {
	var e ep.Endpoint
	var ms []ep.Msg
	var rs []ep.Recv
	for i := range 4000 {
		ms = append(ms, numbered(crowd(i), i))
		rs = append(rs, ep.Recv{ID: crowd(i), Reply: -i})
	}
	for range 3 {
		for _, m := range ms {
			if g := toldSent(e.Send(m)); g != (sent{}) {
				t.Fatal("Send", m, g)
			}
		}
		if !slices.Equal(e.Senders(), ms) || len(e.Receivers()) != 0 {
			t.Fatal("Senders")
		}
		for i, r := range rs {
			if g := toldGot(e.Recv(r)); g != (got{ms[i], true}) || len(e.Senders()) != len(ms)-i-1 {
				t.Fatal("Recv", r, g)
			}
		}
		for _, r := range rs {
			if g := toldGot(e.Recv(r)); g != (got{}) {
				t.Fatal("Recv", r, g)
			}
		}
		if !slices.Equal(e.Receivers(), rs) || len(e.Senders()) != 0 {
			t.Fatal("Receivers")
		}
		for i, m := range ms {
			if g := toldSent(e.Send(m)); g != (sent{rs[i], true}) || len(e.Receivers()) != len(rs)-i-1 {
				t.Fatal("Send", m, g)
			}
		}
	}
}

// Of many, some of which wait more than once, each is dropped once, and then nobody is left.
func TestP14_1ManyAreDropped(t *testing.T) {
	for _, sends := range sides {
		var e ep.Endpoint
		for i := range 3000 {
			if sends {
				e.Send(numbered(crowd(i), i))
			} else {
				e.Recv(ep.Recv{ID: crowd(i), Reply: i})
			}
		}
		for i := range 3000 {
			if is := e.Drop(crowd(i * 7)); is != (i < 1501) {
				t.Fatal("Drop", i, is)
			}
		}
		if len(e.Senders()) != 0 || len(e.Receivers()) != 0 {
			t.Error("somebody is left:", e.Senders(), e.Receivers())
		}
	}
}

// Five wait at each moment, and are met or dropped, again and again: nobody else is left behind.
func TestP14_1LongUseLeavesNothingBehind(t *testing.T) {
	for _, sends := range sides {
		b := some(t, sends, five()...)
		for i := range 100000 {
			x := id(i, -i-1)
			if sends && toldSent(b.ep.Send(numbered(x, i))).is || !sends && toldGot(b.ep.Recv(ep.Recv{ID: x, Reply: 100 * i})).is {
				t.Fatal("met", x)
			}
			gone := x
			switch {
			case i%3 == 0:
				if !b.ep.Drop(x) {
					t.Fatal("Drop", x)
				}
			case sends:
				gone = toldGot(b.ep.Recv(ep.Recv{ID: id(9, 9)})).msg.ID
			default:
				gone = toldSent(b.ep.Send(ep.Msg{ID: id(9, 9)})).to.ID
			}
			if b.ep.Drop(gone) || len(b.ep.Senders())+len(b.ep.Receivers()) != 5 {
				t.Fatal("round", i, gone, b.shown())
			}
		}
		if got, want := b.shown(), side(sends, "99992.-99993#99992 99994.-99995#99994 99995.-99996#99995 99997.-99998#99997 99998.-99999#99998"); got != want {
			t.Error(got)
		}
	}
}

// The sides change, again and again.
func TestP14_1LongUseOfBothSides(t *testing.T) {
	var e ep.Endpoint
	for i := range 100000 {
		m, r, x := numbered(id(i, -i), i), ep.Recv{ID: id(-i, i), Reply: i}, id(i%4, 7)
		if toldSent(e.Send(m)).is || toldGot(e.Recv(r)) != (got{m, true}) || toldGot(e.Recv(r)).is || toldSent(e.Send(m)) != (sent{r, true}) {
			t.Fatal("round", i)
		}
		if toldGot(e.Recv(ep.Recv{ID: x})).is || !e.Drop(x) || toldSent(e.Send(ep.Msg{ID: x})).is || !e.Drop(x) {
			t.Fatal("round", i, x)
		}
		if len(e.Senders()) != 0 || len(e.Receivers()) != 0 {
			t.Fatal("round", i, "somebody is left")
		}
	}
}

// used is how many bytes are held, once all that nobody holds is away.
func used() int {
	var m runtime.MemStats
	runtime.GC()
	runtime.ReadMemStats(&m)
	return int(m.HeapAlloc)
}

// An endpoint at which few wait holds few, however many waited, at once or one behind the other.
func TestP14_1LongUseHoldsNoMemory(t *testing.T) {
	for _, many := range []int{1, 1000, 200000} {
		for _, sends := range sides {
			b := some(t, sends, five()...)
			come := func(there bool, x api.ID) {
				if there == sends {
					b.ep.Send(ep.Msg{ID: x})
				} else {
					b.ep.Recv(ep.Recv{ID: x})
				}
			}
			before := used()
			for range 200000 / many {
				for i := range many {
					come(true, id(i%3, i))
				}
				for range many {
					come(false, id(9, 9))
				}
			}
			if more := used() - before; more > 1<<20 {
				t.Error(many, "at once: bytes that are held more:", more)
			}
			if n := len(b.ep.Senders()) + len(b.ep.Receivers()); n != 5 {
				t.Error(many, "at once: there are", n)
			}
		}
	}
}

// So it is behind a Drop of one that waited as often.
func TestP14_1ADropOfManyHoldsNoMemory(t *testing.T) {
	for _, sends := range sides {
		b := some(t, sends, five()...)
		before := used()
		for range 200000 {
			if sends {
				b.ep.Send(ep.Msg{ID: id(8, 8)})
			} else {
				b.ep.Recv(ep.Recv{ID: id(8, 8)})
			}
		}
		if !b.ep.Drop(id(8, 8)) || b.ep.Drop(id(8, 8)) {
			t.Error("Drop")
		}
		if more := used() - before; more > 1<<20 {
			t.Error("bytes that are held more:", more)
		}
		b.stands(t, side(sends, "3.1#1 1.2#2 0.0#3 -1.5#4 2.2#5"))
	}
}
