package ep_test

import (
	"fmt"
	"math"
	"slices"
	"testing"

	"ringkern/api"
	"ringkern/ep"
)

// The same holds of both sides: most tests go over them.
var sides = []bool{true, false}

func TestP14_1OfTheZeroValue(t *testing.T) {
	b := begin(t)
	b.stands(t, "send , receive ")
	for _, x := range ids() {
		if b.drop(t, x) {
			t.Fatal(x)
		}
	}
	b.stands(t, "send , receive ")
	if b.send(t, numbered(id(5, 6), 7)) != (sent{}) {
		t.Error("Send")
	}
	b.stands(t, "send 5.6#7, receive ")
	b = begin(t)
	if b.recv(t, ep.Recv{ID: id(5, 6), Reply: 700}) != (got{}) {
		t.Error("Recv")
	}
	b.stands(t, "send , receive 5.6#7")
}

func TestP14_1SendWithNobodyThatReceivesWaits(t *testing.T) {
	b := begin(t)
	for i, want := range []string{
		"[{{3 1} 1 10 true}]",
		"[{{3 1} 1 10 true} {{1 2} 2 20 false}]",
		"[{{3 1} 1 10 true} {{1 2} 2 20 false} {{0 0} 3 30 true}]",
		"[{{3 1} 1 10 true} {{1 2} 2 20 false} {{0 0} 3 30 true} {{-1 5} 4 40 false}]",
	} {
		if g := b.send(t, numbered(five()[i], i+1)); g != (sent{}) {
			t.Error("Send", i, g)
		}
		if got := fmt.Sprint(b.ep.Senders(), b.ep.Receivers()); got != want+" []" {
			t.Errorf("Send %d: %s, not %s", i, got, want)
		}
	}
	b.ends(t, true)
}

func TestP14_1RecvWithNobodyThatSendsWaits(t *testing.T) {
	b := begin(t)
	for i, want := range []string{
		"[{{3 1} 1}]", "[{{3 1} 1} {{1 2} 8}]", "[{{3 1} 1} {{1 2} 8} {{0 0} 15}]", "[{{3 1} 1} {{1 2} 8} {{0 0} 15} {{-1 5} 22}]",
	} {
		if g := b.recv(t, ep.Recv{ID: five()[i], Reply: 1 + 7*i}); g != (got{}) {
			t.Error("Recv", i, g)
		}
		if got := fmt.Sprint(b.ep.Senders(), b.ep.Receivers()); got != "[] "+want {
			t.Errorf("Recv %d: %s, not %s", i, got, want)
		}
	}
	b.ends(t, true)
}

func TestP14_1SendMeetsTheFirstThatReceivesAlone(t *testing.T) {
	for _, m := range msgs() {
		b := some(t, false, five()...)
		if got := fmt.Sprint(b.send(t, m)); got != "{{{3 1} 100} true}" {
			t.Error("Send", m, got)
		}
		b.stands(t, "send , receive 1.2#2 0.0#3 -1.5#4 2.2#5")
	}
}

func TestP14_1RecvMeetsTheFirstThatSendsAlone(t *testing.T) {
	for _, r := range recvs() {
		b := some(t, true, five()...)
		if got := fmt.Sprint(b.recv(t, r)); got != "{{{3 1} 1 10 true} true}" {
			t.Error("Recv", r, got)
		}
		b.stands(t, "send 1.2#2 0.0#3 -1.5#4 2.2#5, receive ")
	}
}

func TestP14_1EachPartOfTheMessageAsItWasSent(t *testing.T) {
	for i, m := range msgs() {
		b := begin(t)
		if b.send(t, m) != (sent{}) || b.recv(t, ep.Recv{ID: id(8, i), Reply: i}) != (got{m, true}) {
			t.Fatal(m)
		}
		b.stands(t, "send , receive ")
	}
	b := begin(t)
	for _, m := range msgs() {
		b.send(t, m)
	}
	if !slices.Equal(b.ep.Senders(), msgs()) {
		t.Error("Senders")
	}
	for _, m := range msgs() {
		if b.recv(t, ep.Recv{ID: id(8, 8)}) != (got{m, true}) {
			t.Fatal(m, "of many")
		}
	}
	b.stands(t, "send , receive ")
}

func TestP14_1EachPartOfTheReceiverAsItCame(t *testing.T) {
	for i, r := range recvs() {
		b := begin(t)
		if b.recv(t, r) != (got{}) || b.send(t, numbered(id(8, i), i)) != (sent{r, true}) {
			t.Fatal(r)
		}
		b.stands(t, "send , receive ")
	}
	b := begin(t)
	for _, r := range recvs() {
		b.recv(t, r)
	}
	if !slices.Equal(b.ep.Receivers(), recvs()) {
		t.Error("Receivers")
	}
	for _, r := range recvs() {
		if b.send(t, numbered(id(8, 8), 1)) != (sent{r, true}) {
			t.Fatal(r, "of many")
		}
	}
	b.stands(t, "send , receive ")
}

func TestP14_1TheyAreMetAsTheyCame(t *testing.T) {
	for _, sends := range sides {
		b := some(t, sends, five()...)
		for i, x := range []struct{ met, stands string }{
			{"3.1#1", "1.2#2 0.0#3 -1.5#4 2.2#5"}, {"1.2#2", "0.0#3 -1.5#4 2.2#5"}, {"0.0#3", "-1.5#4 2.2#5"}, {"-1.5#4", "2.2#5"}, {"2.2#5", ""},
		} {
			if met, is := b.come(t, !sends, id(9, i)); met != x.met || !is {
				t.Errorf("%d: %s, not %s", i, met, x.met)
			}
			b.stands(t, side(sends, x.stands))
		}
		// Now those of the other side wait.
		if met, is := b.come(t, !sends, id(9, 5)); met != "0.0#0" || is {
			t.Error("nobody:", met, is)
		}
		b.stands(t, side(!sends, "9.5#11"))
		b.come(t, !sends, id(9, 6))
		b.stands(t, side(!sends, "9.5#11 9.6#12"))
		if met, is := b.come(t, sends, id(3, 1)); met != "9.5#11" || !is {
			t.Error(met, is)
		}
		b.ends(t, sends)
	}
}

// One that met another one does not wait itself.
func TestP14_1OneThatMeetsWaitsNot(t *testing.T) {
	for _, sends := range sides {
		for _, x := range ids() {
			b := some(t, !sends, id(9, 9))
			if met, is := b.come(t, sends, x); met != "9.9#1" || !is || b.drop(t, x) || b.drop(t, id(9, 9)) {
				t.Fatal(x, met, is)
			}
			b.stands(t, "send , receive ")
		}
	}
}

func TestP14_1OneThatWaitsAlreadyWaitsOnceMore(t *testing.T) {
	for _, sends := range sides {
		b := some(t, sends, id(7, 7), id(1, 1), id(7, 7), id(7, 7), id(2, 2))
		b.stands(t, side(sends, "7.7#1 1.1#2 7.7#3 7.7#4 2.2#5"))
		for i, want := range []string{"7.7#1", "1.1#2", "7.7#3", "7.7#4", "2.2#5"} {
			if met, is := b.come(t, !sends, id(9, i)); met != want || !is {
				t.Error(met, is, want)
			}
		}
		b.stands(t, "send , receive ")
		b = some(t, sends, id(7, 7), id(7, 7))
		b.stands(t, side(sends, "7.7#1 7.7#2"))
		b.ends(t, false)
	}
}

// Nor does one take the place of another where all its parts are the same.
func TestP14_1TheSameOnceMore(t *testing.T) {
	b := begin(t)
	for range 3 {
		b.send(t, numbered(id(7, 7), 5))
	}
	b.stands(t, "send 7.7#5 7.7#5 7.7#5, receive ")
	for range 3 {
		if g := fmt.Sprint(b.recv(t, ep.Recv{ID: id(1, 1)})); g != "{{{7 7} 5 50 true} true}" {
			t.Error(g)
		}
	}
	for range 3 {
		b.recv(t, ep.Recv{ID: id(7, 7), Reply: 500})
	}
	b.stands(t, "send , receive 7.7#5 7.7#5 7.7#5")
	if g := fmt.Sprint(b.send(t, ep.Msg{})); g != "{{{7 7} 500} true}" {
		t.Error(g)
	}
	if !b.drop(t, id(7, 7)) {
		t.Error("Drop")
	}
	b.stands(t, "send , receive ")
}

// Whom it meets is told by who waits alone: that may be itself.
func TestP14_1OneMeetsItself(t *testing.T) {
	for _, sends := range sides {
		b := some(t, sends, id(7, 7), id(7, 7))
		if met, is := b.come(t, !sends, id(7, 7)); met != "7.7#1" || !is {
			t.Error(met, is)
		}
		b.stands(t, side(sends, "7.7#2"))
		b.come(t, sends, id(1, 1))
		if met, is := b.come(t, !sends, id(1, 1)); met != "7.7#2" || !is {
			t.Error(met, is)
		}
		b.stands(t, side(sends, "1.1#4"))
		b.ends(t, sends)
	}
}

func TestP14_1DropOfEach(t *testing.T) {
	for _, x := range []struct {
		id         api.ID
		want, next string
	}{
		{id(3, 1), "1.2#2 0.0#3 -1.5#4 2.2#5", "1.2#2"}, {id(1, 2), "3.1#1 0.0#3 -1.5#4 2.2#5", "3.1#1"}, {id(0, 0), "3.1#1 1.2#2 -1.5#4 2.2#5", "3.1#1"},
		{id(-1, 5), "3.1#1 1.2#2 0.0#3 2.2#5", "3.1#1"}, {id(2, 2), "3.1#1 1.2#2 0.0#3 -1.5#4", "3.1#1"},
	} {
		for _, sends := range sides {
			for _, back := range []bool{false, true} {
				b := some(t, sends, five()...)
				if !b.drop(t, x.id) || b.drop(t, x.id) {
					t.Errorf("Drop(%v)", x.id)
				}
				b.stands(t, side(sends, x.want))
				if met, is := b.come(t, !sends, id(9, 9)); met != x.next || !is {
					t.Errorf("Drop(%v): then %s is met, not %s", x.id, met, x.next)
				}
				b.ends(t, back)
			}
		}
	}
}

func TestP14_1DropOfTheOnlyOne(t *testing.T) {
	for _, x := range ids() {
		for _, sends := range sides {
			b := some(t, sends, x)
			if !b.drop(t, x) || b.drop(t, x) {
				t.Fatal("Drop", x)
			}
			b.stands(t, "send , receive ")
			if met, is := b.come(t, !sends, x); met != "0.0#0" || is || !b.drop(t, x) {
				t.Fatal("behind Drop", x)
			}
			b.stands(t, "send , receive ")
		}
	}
}

func TestP14_1DropOfOneThatWaitsMoreThanOnce(t *testing.T) {
	a, b, c := id(7, 7), id(0, 0), id(2, 7)
	for _, x := range []struct {
		l             []api.ID
		ofA, ofB, ofC string
	}{
		{[]api.ID{a, a}, "", "7.7#1 7.7#2", "7.7#1 7.7#2"},
		{[]api.ID{a, b, a}, "0.0#2", "7.7#1 7.7#3", "7.7#1 0.0#2 7.7#3"},
		{[]api.ID{b, a, a, c}, "0.0#1 2.7#4", "7.7#2 7.7#3 2.7#4", "0.0#1 7.7#2 7.7#3"},
		{[]api.ID{a, a, a, b, b, b}, "0.0#4 0.0#5 0.0#6", "7.7#1 7.7#2 7.7#3", "7.7#1 7.7#2 7.7#3 0.0#4 0.0#5 0.0#6"},
		{[]api.ID{a, c, b, a, b, c, a}, "2.7#2 0.0#3 0.0#5 2.7#6", "7.7#1 2.7#2 7.7#4 2.7#6 7.7#7", "7.7#1 0.0#3 7.7#4 0.0#5 7.7#7"},
	} {
		for _, sends := range sides {
			for i, want := range []string{x.ofA, x.ofB, x.ofC} {
				e, one := some(t, sends, x.l...), []api.ID{a, b, c}[i]
				if is := slices.Contains(x.l, one); e.drop(t, one) != is || e.drop(t, one) {
					t.Error("Drop", x.l, one)
				}
				e.stands(t, side(sends, want))
				e.ends(t, i == 1)
			}
		}
	}
}

func TestP14_1DropOfOneThatDoesNotWait(t *testing.T) {
	for _, sends := range sides {
		b := some(t, sends, five()...)
		for _, x := range ids() {
			if !slices.Contains(five(), x) && b.drop(t, x) {
				t.Fatal("Drop", x)
			}
		}
		b.stands(t, side(sends, "3.1#1 1.2#2 0.0#3 -1.5#4 2.2#5"))
		b.ends(t, sends)
	}
}

// One that goes is told by its ID, not by what it came with.
func TestP14_1DropAsksForTheIDAlone(t *testing.T) {
	b := begin(t)
	b.send(t, ep.Msg{ID: id(1, 2), Word: 3, Badge: 4})
	b.send(t, ep.Msg{ID: id(3, 4), Word: 1, Badge: 2})
	if b.drop(t, id(4, 3)) || b.drop(t, id(2, 1)) || b.drop(t, id(3, 3)) || !b.drop(t, id(1, 2)) {
		t.Error("of senders")
	}
	b.stands(t, "send 3.4#1, receive ")
	b = begin(t)
	b.recv(t, ep.Recv{ID: id(1, 2), Reply: 300})
	b.recv(t, ep.Recv{ID: id(1, 3), Reply: 200})
	if b.drop(t, id(300, 300)) || b.drop(t, id(1, 300)) || b.drop(t, id(2, 1)) || !b.drop(t, id(1, 3)) {
		t.Error("of receivers")
	}
	b.stands(t, "send , receive 1.2#3")
}

func TestP14_1DropInEachOrder(t *testing.T) {
	l := []api.ID{id(3, 1), id(1, 2), id(0, 0), id(-1, 5), id(2, 2), id(1, 1), id(4, 2)}
	for _, step := range []int{1, 2, 3, 4, 5, 6} {
		for first := range l {
			for _, sends := range sides {
				b := some(t, sends, l...)
				for i := range l {
					if !b.drop(t, l[(first+i*step)%len(l)]) {
						t.Error("Drop", first, i, step)
					}
				}
				b.stands(t, "send , receive ")
			}
		}
	}
}

func TestP14_1MetAndComesAgain(t *testing.T) {
	for _, sends := range sides {
		b := some(t, sends, five()...)
		for i := range 12 {
			x := b.model[0].id
			if _, is := b.come(t, !sends, id(9, 9)); !is || b.drop(t, x) {
				t.Error(i, x, is)
			}
			if _, is := b.come(t, sends, x); is {
				t.Error(i, x, is)
			}
		}
		b.stands(t, side(sends, "0.0#21 -1.5#23 2.2#25 3.1#27 1.2#29"))
		b.ends(t, sends)
	}
}

func TestP14_1DroppedAndComesAgain(t *testing.T) {
	for _, x := range []struct {
		id   api.ID
		want string
	}{
		{id(3, 1), "1.2#2 0.0#3 -1.5#4 2.2#5 3.1#6"}, {id(1, 2), "3.1#1 0.0#3 -1.5#4 2.2#5 1.2#6"}, {id(0, 0), "3.1#1 1.2#2 -1.5#4 2.2#5 0.0#6"},
		{id(-1, 5), "3.1#1 1.2#2 0.0#3 2.2#5 -1.5#6"}, {id(2, 2), "3.1#1 1.2#2 0.0#3 -1.5#4 2.2#6"},
	} {
		for _, sends := range sides {
			for _, back := range []bool{false, true} {
				b := some(t, sends, five()...)
				if !b.drop(t, x.id) {
					t.Errorf("Drop(%v)", x.id)
				}
				if _, is := b.come(t, sends, x.id); is {
					t.Errorf("%v", x.id)
				}
				b.stands(t, side(sends, x.want))
				b.ends(t, back)
			}
		}
	}
}

// Some of those that came are gone, by being met, when others are dropped, come, or are met.
func TestP14_1MetDroppedAndCome(t *testing.T) {
	for _, sends := range sides {
		for n := range 12 {
			for met := range n + 1 {
				for at := met; at < n; at++ {
					b := begin(t)
					for i := range n {
						b.come(t, sends, id(i, n))
					}
					for i := range met {
						if got, is := b.come(t, !sends, id(9, 9)); got != short(id(i, n), i+1) || !is {
							t.Fatal(n, met, got)
						}
					}
					if b.drop(t, id(met-1, n)) || !b.drop(t, id(at, n)) {
						t.Fatal("Drop", n, met, at)
					}
					b.come(t, sends, id(met-1, n))
					b.ends(t, at%2 == 0)
				}
			}
		}
	}
}

func TestP14_1AllOfZerosIsAsGoodAsAny(t *testing.T) {
	b := begin(t)
	b.send(t, ep.Msg{})
	b.stands(t, "send 0.0#0, receive ")
	b.send(t, ep.Msg{})
	b.stands(t, "send 0.0#0 0.0#0, receive ")
	if b.recv(t, ep.Recv{}) != (got{ep.Msg{}, true}) || !b.drop(t, api.ID{}) || b.drop(t, api.ID{}) {
		t.Error("of senders")
	}
	b.stands(t, "send , receive ")
	if b.recv(t, ep.Recv{}) != (got{}) || b.recv(t, ep.Recv{}) != (got{}) {
		t.Error("Recv")
	}
	b.stands(t, "send , receive 0.0#0 0.0#0")
	if b.send(t, ep.Msg{}) != (sent{ep.Recv{}, true}) || !b.drop(t, api.ID{}) || b.drop(t, api.ID{}) || b.send(t, ep.Msg{}) != (sent{}) {
		t.Error("of receivers")
	}
	b.stands(t, "send 0.0#0, receive ")
	for _, sends := range sides {
		b := some(t, sends, id(1, 0), id(0, 0), id(0, 1), id(0, 0))
		if !b.drop(t, id(0, 0)) || b.drop(t, id(0, 0)) {
			t.Error("Drop")
		}
		b.come(t, sends, id(0, 0))
		b.stands(t, side(sends, "1.0#1 0.1#3 0.0#5"))
		b.ends(t, sends)
	}
}

func TestP14_1IDsThatDifferInOneNumber(t *testing.T) {
	l := []api.ID{id(1, 2), id(1, 3), id(2, 2), id(2, 1), id(1, 1), id(-1, 2), id(1, -2), id(1, 0), id(0, 2)}
	for _, sends := range sides {
		b := some(t, sends, id(1, 2))
		for _, x := range l[1:] {
			if b.drop(t, x) {
				t.Error(x)
			}
			b.come(t, sends, x)
		}
		b.stands(t, side(sends, "1.2#1 1.3#2 2.2#3 2.1#4 1.1#5 -1.2#6 1.-2#7 1.0#8 0.2#9"))
		if !b.drop(t, id(1, 2)) || !b.drop(t, id(2, 2)) || !b.drop(t, id(1, 0)) {
			t.Error("Drop")
		}
		b.stands(t, side(sends, "1.3#2 2.1#4 1.1#5 -1.2#6 1.-2#7 0.2#9"))
		b.ends(t, sends)
	}
}

func TestP14_1EachNumberFarFromAll(t *testing.T) {
	for _, sends := range sides {
		b := begin(t)
		for _, x := range ids() {
			if b.drop(t, x) {
				t.Fatal("Drop", x)
			}
			if _, is := b.come(t, sends, x); is {
				t.Fatal(x)
			}
		}
		for i, x := range ids() {
			if i%3 == 0 && (!b.drop(t, x) || b.drop(t, x)) {
				t.Fatal("Drop", x)
			}
		}
		for i, x := range ids() {
			if i%3 == 0 {
				continue
			}
			if met, is := b.come(t, !sends, id(math.MinInt, math.MaxInt)); met != short(x, i+1) || !is {
				t.Fatal(x, met, is)
			}
		}
		b.stands(t, "send , receive ")
	}
}

// refused are Drops that tell false and change nothing.
func refused(t *testing.T, e *ep.Endpoint) {
	t.Helper()
	there := map[api.ID]bool{}
	for _, m := range e.Senders() {
		there[m.ID] = true
	}
	for _, r := range e.Receivers() {
		there[r.ID] = true
	}
	for _, x := range ids() {
		if !there[x] && e.Drop(x) {
			t.Fatal("Drop", x)
		}
	}
}

// What is refused changes nothing that a later call tells: one endpoint has refused calls ahead of each of its calls, the other has none.
func TestP14_1WhatIsRefusedChangesNothing(t *testing.T) {
	for seed := 1; seed <= 20; seed++ {
		d := draw(seed * 7919)
		var e, plain ep.Endpoint
		for i := range 80 {
			refused(t, &e)
			x, g, want := d.id(), any(nil), any(nil)
			switch d.below(7) {
			case 0, 1, 2:
				g, want = toldSent(e.Send(numbered(x, i))), toldSent(plain.Send(numbered(x, i)))
			case 3:
				g, want = e.Drop(x), plain.Drop(x)
			default:
				g, want = toldGot(e.Recv(ep.Recv{ID: x, Reply: i})), toldGot(plain.Recv(ep.Recv{ID: x, Reply: i}))
			}
			if g != want || !slices.Equal(e.Senders(), plain.Senders()) || !slices.Equal(e.Receivers(), plain.Receivers()) {
				t.Fatal(seed, i, x, g, want)
			}
		}
	}
}

// spoil writes all over a list that was handed out, into its spare room too.
func spoil[T any](l []T, x T) {
	l = l[:cap(l)]
	for i := range l {
		l[i] = x
	}
	_ = append(l[:0], x)
	_ = append(l, x)
}

// spoilt spoils both lists of an endpoint.
func (b *both) spoilt(t *testing.T) {
	t.Helper()
	m, r := numbered(id(99, 99), 99), ep.Recv{ID: id(99, 99), Reply: 9900}
	spoil(b.ep.Senders(), m)
	spoil(b.ep.Senders()[:0], m)
	spoil(b.ep.Receivers(), r)
	spoil(b.ep.Receivers()[:0], r)
	b.check(t, "spoilt", "")
}

func TestP14_1SendersAndReceiversAreNewMemory(t *testing.T) {
	for _, sends := range sides {
		for n := range 20 {
			for met := range n + 1 {
				b := begin(t)
				for i := range n {
					b.come(t, sends, id(i%3, n-i))
					b.spoilt(t)
				}
				for range met {
					b.come(t, !sends, id(9, 9))
					b.spoilt(t)
				}
				b.drop(t, id(1, 1))
				b.spoilt(t)
				b.come(t, sends, id(5, 5))
				b.spoilt(t)
				b.ends(t, n%2 == 0)
			}
		}
	}
}

// apart says whether of two lists one shows what is written into, or appended to, the other one.
func apart[T comparable](t *testing.T, ask func() []T, x, y T) {
	t.Helper()
	first, second, want := ask(), ask(), slices.Clone(ask())
	spoil(first, x)
	if !slices.Equal(second, want) {
		t.Fatal("of two lists, one shows what is written into the other:", second)
	}
	first, second = append(ask(), x), append(ask(), y)
	if n := len(want); first[n] != x || second[n] != y || !slices.Equal(ask(), want) {
		t.Fatal("of two lists, one shows what is appended to the other:", first, second)
	}
}

func TestP14_1ListsAreApart(t *testing.T) {
	for _, sends := range sides {
		for n := range 20 {
			b := some(t, sends, ids()[:n]...)
			for len(b.model) > n/2 {
				b.come(t, !sends, id(9, 9))
				apart(t, b.ep.Senders, numbered(id(99, 99), 99), numbered(id(98, 98), 98))
				apart(t, b.ep.Receivers, ep.Recv{ID: id(99, 99)}, ep.Recv{ID: id(98, 98)})
				b.check(t, "apart", n)
			}
			b.ends(t, n%2 == 0)
		}
	}
}

func TestP14_1ListsStayAsTheyWereHandedOut(t *testing.T) {
	for _, sends := range sides {
		b := some(t, sends, five()...)
		m, r := b.ep.Senders(), b.ep.Receivers()
		want := fmt.Sprint(m, r)
		moreM, moreR := append(m, numbered(id(8, 8), 8)), append(r, ep.Recv{ID: id(8, 8), Reply: 8})
		wantMore := fmt.Sprint(moreM, moreR)
		b.come(t, !sends, id(9, 9))
		b.drop(t, id(-1, 5))
		for _, x := range []api.ID{id(3, 1), id(7, 7), id(6, 6)} {
			b.come(t, sends, x)
		}
		b.come(t, !sends, id(9, 9))
		if got := fmt.Sprint(m, r); got != want {
			t.Error(got, "not", want)
		}
		if got := fmt.Sprint(moreM, moreR); got != wantMore {
			t.Error(got, "not", wantMore)
		}
		b.stands(t, side(sends, "0.0#3 2.2#5 3.1#7 7.7#8 6.6#9"))
	}
}

func TestP14_1TwoEndpointsAreApart(t *testing.T) {
	a, b, none := begin(t), begin(t), begin(t)
	for i, x := range ids() {
		a.come(t, i%4 != 3, x)
		switch i % 5 {
		case 0, 1:
			b.come(t, false, x)
		case 2:
			b.come(t, true, x)
		case 3:
			b.drop(t, x)
		case 4:
			a.drop(t, x)
		}
		a.check(t, "of the other", x)
		b.check(t, "of the other", x)
	}
	none.stands(t, "send , receive ")
	a.ends(t, false)
	b.check(t, "of the other", "")
	b.ends(t, true)
	none.stands(t, "send , receive ")
}
