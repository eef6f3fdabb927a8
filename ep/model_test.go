package ep_test

import (
	"fmt"
	"math"
	"slices"
	"strings"
	"testing"

	"ringkern/api"
	"ringkern/ep"
)

// far are numbers beyond every bound, some of which a difference, a change of sign, or a cut to fewer bits, would carry to one that is within.
func far() []int {
	return []int{math.MinInt, math.MinInt + 1, -1 << 62, -1<<32 + 1, -1 << 32, math.MinInt32, -1 << 16, -256, -255, -16, -2, -1,
		4, 8, 16, 255, 256, 257, 1 << 16, 1<<16 + 1, math.MaxInt32, 1 << 31, 1 << 32, 1<<32 + 1, 1 << 62, math.MaxInt - 1, math.MaxInt}
}

func id(ring, seq int) api.ID { return api.ID{Ring: ring, Seq: seq} }

// ids are IDs that differ in one number, in both, or have them the other way round.
func ids() []api.ID {
	var out []api.ID
	for _, n := range append(far(), 2, 3) {
		out = append(out, id(n, 0), id(0, n), id(n, 1), id(1, n), id(n, n))
	}
	for _, n := range []int{math.MinInt, -1, 2, math.MaxInt} {
		out = append(out, id(n, n-5), id(n, 3), id(3, n))
	}
	return append(out, id(0, 0), id(0, 1), id(1, 0), id(1, 1), id(2, 4), id(4, 2))
}

// msgs are messages that differ in one part, each of which is none, one, or far from all.
func msgs() []ep.Msg {
	out := []ep.Msg{{}, {Call: true}, {ID: id(1, 2), Word: 3, Badge: 4, Call: true}, {ID: id(2, 1), Word: 4, Badge: 3}}
	for _, x := range ids() {
		out = append(out, ep.Msg{ID: x}, ep.Msg{ID: x, Word: 5, Badge: 6, Call: true})
	}
	for _, n := range far() {
		out = append(out, ep.Msg{Badge: n}, ep.Msg{ID: id(1, 2), Word: 3, Badge: n, Call: true}, ep.Msg{ID: id(n, n), Badge: n, Word: math.MaxUint32})
	}
	for i := range 32 {
		out = append(out, ep.Msg{Word: 1 << i}, ep.Msg{ID: id(1, 2), Word: math.MaxUint32 - 1<<i, Badge: 4})
	}
	return out
}

// recvs are receivers of the same kind.
func recvs() []ep.Recv {
	out := []ep.Recv{{}, {ID: id(1, 2), Reply: 3}, {ID: id(2, 1), Reply: 3}}
	for _, x := range ids() {
		out = append(out, ep.Recv{ID: x}, ep.Recv{ID: x, Reply: 6})
	}
	for _, n := range far() {
		out = append(out, ep.Recv{Reply: n}, ep.Recv{ID: id(1, 2), Reply: n}, ep.Recv{ID: id(n, n), Reply: n})
	}
	return out
}

// numbered is a message whose parts beside the ID differ from those of one of another number.
func numbered(x api.ID, n int) ep.Msg {
	return ep.Msg{ID: x, Word: uint32(n), Badge: 10 * n, Call: n%2 == 1}
}

// waiter is one that waits: on which side, and with what.
type waiter struct {
	sends bool
	id    api.ID
	word  uint32
	num   int // the badge, or the reply
	call  bool
}

func sender(m ep.Msg) waiter { return waiter{true, m.ID, m.Word, m.Badge, m.Call} }

func receiver(r ep.Recv) waiter { return waiter{false, r.ID, 0, r.Reply, false} }

// model is what an endpoint should have: whoever waits, of both sides in one row.
type model []waiter

// meet is whom one of a side meets: the first of the other one; where there is none it waits.
func (m *model) meet(x waiter) (waiter, bool) {
	for i, y := range *m {
		if y.sends != x.sends {
			var left model
			for j, z := range *m {
				if j != i {
					left = append(left, z)
				}
			}
			*m = left
			return y, true
		}
	}
	*m = append(*m, x)
	return waiter{}, false
}

func (m *model) drop(x api.ID) bool {
	var left model
	for _, y := range *m {
		if y.id.Ring != x.Ring || y.id.Seq != x.Seq {
			left = append(left, y)
		}
	}
	is := len(left) != len(*m)
	*m = left
	return is
}

func (m model) senders() (out []ep.Msg) {
	for _, x := range m {
		if x.sends {
			out = append(out, ep.Msg{ID: x.id, Word: x.word, Badge: x.num, Call: x.call})
		}
	}
	return out
}

func (m model) receivers() (out []ep.Recv) {
	for _, x := range m {
		if !x.sends {
			out = append(out, ep.Recv{ID: x.id, Reply: x.num})
		}
	}
	return out
}

// sent is what Send tells.
type sent struct {
	to ep.Recv
	is bool
}

func toldSent(to ep.Recv, is bool) sent { return sent{to, is} }

// got is what Recv tells.
type got struct {
	msg ep.Msg
	is  bool
}

func toldGot(msg ep.Msg, is bool) got { return got{msg, is} }

// both is an endpoint and what it should have.
type both struct {
	ep    *ep.Endpoint
	model model
	n     int // how many messages and receivers were numbered
}

func begin(t *testing.T) *both {
	t.Helper()
	b := &both{ep: &ep.Endpoint{}}
	b.check(t, "begin", "")
	return b
}

// five is several, whose numbers neither rise nor fall, with the one of zeros in their midst.
func five() []api.ID { return []api.ID{id(3, 1), id(1, 2), id(0, 0), id(-1, 5), id(2, 2)} }

// some has these, that wait to send or to receive, in this order, numbered from 1 on.
func some(t *testing.T, sends bool, l ...api.ID) *both {
	t.Helper()
	b := begin(t)
	for _, x := range l {
		if _, is := b.come(t, sends, x); is {
			t.Fatal("nobody waits on the other side:", x)
		}
	}
	return b
}

func (b *both) send(t *testing.T, m ep.Msg) sent {
	t.Helper()
	g := toldSent(b.ep.Send(m))
	w, is := b.model.meet(sender(m))
	b.step(t, "Send", m, g, sent{ep.Recv{ID: w.id, Reply: w.num}, is})
	return g
}

func (b *both) recv(t *testing.T, r ep.Recv) got {
	t.Helper()
	g := toldGot(b.ep.Recv(r))
	w, is := b.model.meet(receiver(r))
	b.step(t, "Recv", r, g, got{ep.Msg{ID: w.id, Word: w.word, Badge: w.num, Call: w.call}, is})
	return g
}

// come sends, or receives, with the next number; it is whom that met, and the number that this one had.
func (b *both) come(t *testing.T, sends bool, x api.ID) (string, bool) {
	t.Helper()
	b.n++
	if sends {
		g := b.send(t, numbered(x, b.n))
		return short(g.to.ID, g.to.Reply/100), g.is
	}
	g := b.recv(t, ep.Recv{ID: x, Reply: 100 * b.n})
	return short(g.msg.ID, int(g.msg.Word)), g.is
}

func (b *both) drop(t *testing.T, x api.ID) bool {
	t.Helper()
	g := b.ep.Drop(x)
	b.step(t, "Drop", x, g, b.model.drop(x))
	return g
}

// step holds an answer, and then all that can be asked, against the model.
func (b *both) step(t *testing.T, call string, x, got, want any) {
	t.Helper()
	if got != want {
		t.Fatalf("%s(%v): %v, not %v", call, x, got, want)
	}
	b.check(t, call, x)
}

// check asks twice, as asking changes nothing.
func (b *both) check(t *testing.T, call string, x any) {
	t.Helper()
	for range 2 {
		s, r := b.ep.Senders(), b.ep.Receivers()
		if !slices.Equal(s, b.model.senders()) {
			t.Fatalf("%s(%v): Senders: %v, not %v", call, x, s, b.model.senders())
		}
		if !slices.Equal(r, b.model.receivers()) {
			t.Fatalf("%s(%v): Receivers: %v, not %v", call, x, r, b.model.receivers())
		}
		if len(s) > 0 && len(r) > 0 {
			t.Fatalf("%s(%v): both wait: %v %v", call, x, s, r)
		}
	}
}

// short is one with its number, as 3.1#4.
func short(x api.ID, n int) string { return fmt.Sprint(x.Ring, ".", x.Seq, "#", n) }

// shown is who waits, shortly: send and receive, each with its own in order.
func (b *both) shown() string {
	var send, receive []string
	for _, m := range b.ep.Senders() {
		send = append(send, short(m.ID, int(m.Word)))
	}
	for _, r := range b.ep.Receivers() {
		receive = append(receive, short(r.ID, r.Reply/100))
	}
	return "send " + strings.Join(send, " ") + ", receive " + strings.Join(receive, " ")
}

// stands holds who waits against what is written out, as the model could be wrong; the parts that it doesn't show check holds.
func (b *both) stands(t *testing.T, want string) {
	t.Helper()
	b.check(t, "at the end", "")
	if got := b.shown(); got != want {
		t.Errorf("there are: %s; not: %s", got, want)
	}
}

// side is what stands says where those wait on one side alone.
func side(sends bool, l string) string {
	if sends {
		return "send " + l + ", receive "
	}
	return "send , receive " + l
}

// ends meets, or drops from the back, one behind the other, and holds what is left at each step against the model: what the lists show could be right, and what is kept beside them wrong.
func (b *both) ends(t *testing.T, back bool) {
	t.Helper()
	for len(b.model) > 0 {
		last := b.model[len(b.model)-1]
		if back {
			b.drop(t, last.id)
		} else if _, is := b.come(t, !last.sends, id(88, 88)); !is {
			t.Fatal("nobody is met")
		}
	}
	b.drop(t, id(77, 77))
	b.drop(t, id(88, 88))
	if b.send(t, ep.Msg{}).is || !b.recv(t, ep.Recv{}).is || b.recv(t, ep.Recv{}).is || !b.send(t, ep.Msg{}).is {
		t.Error("somebody is left")
	}
	b.stands(t, "send , receive ")
}
