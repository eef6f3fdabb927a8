package look_test

import (
	"testing"

	"ringkern/api"
)

// draw is a row of numbers that look like none, the same at each run.
type draw uint64

func (d *draw) below(n int) int {
	*d ^= *d << 13
	*d ^= *d >> 7
	*d ^= *d << 17
	return int(uint64(*d) >> 11 % uint64(n))
}

func (d *draw) digits(n int) string {
	out := ""
	for range n {
		out += string(rune('0' + d.below(2)))
	}
	return out
}

// guard has often no bits, so that there are ways of many nodes, too.
func (d *draw) guard() string {
	if d.below(2) == 0 {
		return ""
	}
	return d.digits(d.below(9))
}

// world has a few nodes, with more of them in their slots than of other things.
func (d *draw) world(t *testing.T) *world {
	w := newWorld()
	for range 60 + d.below(30) {
		p, c := at(1+d.below(6), d.below(api.Slots)), node(1+d.below(6), d.guard())
		c.Rights = d.below(8)
		if d.below(5) == 0 {
			c = ofKind(1 + d.below(api.Ring))
		}
		if _, is := w.held[p]; !is {
			w.put(t, p, c, none)
		}
	}
	return w
}

// value goes from a root on for some nodes, as the table leads.
func (d *draw) value(w *world, root api.Cap) string {
	out := ""
	for c, left := root, 1+d.below(api.MaxNodes); left > 0 && c.Kind == api.Node; left-- {
		if c.Size > 0 {
			out += digits(c.Badge, c.Size)
		}
		slot := d.below(api.Slots)
		out += digits(slot, 4)
		c = w.held[at(c.Obj, slot)]
	}
	return out
}

// spoilt is a value with a bit turned, or some bits fewer or more, one time in three.
func (d *draw) spoilt(value string) string {
	switch i := d.below(len(value)); d.below(9) {
	case 0:
		return value[:i] + string('0'+'1'-rune(value[i])) + value[i+1:]
	case 1:
		return value[:i+1]
	case 2:
		return value + d.digits(1+d.below(5))
	}
	return value
}

func TestP6_1DrawnWaysAgainstTheReference(t *testing.T) {
	counts, longest := map[int]int{}, 0
	for seed := 1; seed <= 40; seed++ {
		d := draw(seed * 7919)
		w := d.world(t)
		w.unchanged(t, func() {
			for range 1000 {
				root := node(1+d.below(6), d.guard())
				value := d.spoilt(d.value(w, root))
				if len(value) > api.MaxBits {
					continue
				}
				kind := d.below(api.Ring + 2)
				w.check(t, root, address(value), 0, kind, api.Node)
				g := w.cap(root, address(value), kind)
				if g.code == api.Fine {
					longest = max(longest, len(value))
				}
				counts[g.code]++
			}
		})
	}
	for _, code := range []int{api.Fine, api.ELook, api.EEmpty, api.EKind} {
		if counts[code] < 500 {
			t.Error("of code", code, "there were", counts[code])
		}
	}
	if longest != api.MaxBits {
		t.Error("the longest way that led to something has bits:", longest)
	}
}

// Words of any bits, of which most are no address.
func TestP6_1DrawnWordsAgainstTheReference(t *testing.T) {
	d, w, l := draw(1), town(t), roots()
	w.unchanged(t, func() {
		for range 200000 {
			a := uint32(d.below(1 << 32))
			if d.below(2) == 0 {
				a = a&^0xff | uint32(d.below(26))
			}
			w.check(t, l[d.below(len(l))], a, d.below(api.Ring+2))
		}
	})
}
