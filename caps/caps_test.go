package caps_test

import (
	"math"
	"testing"

	"ringkern/api"
	"ringkern/caps"
)

// far are numbers beyond every bound but a badge's, some of which a sum, a difference or a shift would carry round.
func far() []int {
	return []int{math.MinInt, math.MinInt + 1, math.MinInt + api.MaxUnits, -1 << 62, math.MinInt32, -1 << 16, -64, -8, -2, -1,
		128, 256, 1 << 16, math.MaxInt32 - 1, math.MaxInt32, math.MaxInt32 + 1, math.MaxUint32, 1 << 32, 1<<32 + 1,
		1 << 62, math.MaxInt - api.MaxUnits, math.MaxInt - 1, math.MaxInt}
}

func kinds() []int {
	return append(far(), 0, 1, 2, 3, 4, 5, 6, 7, 8, 9, 10, 11)
}

func units() []int {
	return append(far(), 0, 1, 2, 32, api.MaxUnits-1, api.MaxUnits, api.MaxUnits+1)
}

// sizes has those at which a shift by it, in words of 8 to 64 bits, gives 0 or goes below 0.
func sizes() []int {
	return append(far(), 0, 1, 2, 3, 7, 8, 9, 15, 16, 24, 31, 32, 33, 62, 63, 64, 65)
}

func badges() []int {
	return append(far(), 0, 1, 2, 3, 4, 7, 8, 9, 127, 255, 257)
}

func rights() []int {
	return append(far(), 0, 1, 2, 3, 4, 5, 6, 7, 8, 9, 15)
}

// words are those that Badge is given: badges, guards of each Size at its bounds, and Sizes that none has.
func words() []uint32 {
	out := []uint32{0, 1, 2, 7, 8, 9, 255, 256, 257, 1<<31 - 2, 1<<31 - 1, 1 << 31, 1<<31 + 1, 1<<32 - 2, 1<<32 - 1, 0xffffff00, 0x80000008, 0x01000008}
	for size := uint32(0); size < 256; size++ {
		out = append(out, size, 1<<8|size, 0xff<<8|size, 0x100<<8|size, 0xffffff<<8|size)
		if size <= 24 {
			out = append(out, (1<<size-1)<<8|size, 1<<size<<8|size)
		}
	}
	return out
}

// bounds is what a kind's Size and Badge may be at a unit, by counting up and not by sums and shifts.
type bounds struct{ leastSize, mostSize, mostBadge int }

func boundsOf(kind, obj, size int) bounds {
	switch kind {
	case api.Untyped:
		room := 0
		for u := obj; u <= api.MaxUnits; u++ {
			room++
		}
		return bounds{leastSize: 1, mostSize: room}
	case api.Node:
		guards := 1
		for i := 0; i < size && i < 8; i++ {
			guards *= 2
		}
		return bounds{mostSize: 8, mostBadge: guards - 1}
	case api.Endpoint, api.Notif:
		return bounds{mostBadge: math.MaxInt32}
	}
	return bounds{}
}

// isRight is what Check should tell.
func isRight(c api.Cap) bool {
	if c.Kind < 1 || c.Kind > 9 || c.Rights < 0 || c.Rights > 7 || c.Obj < 1 || c.Obj > 64 {
		return false
	}
	b := boundsOf(c.Kind, c.Obj, c.Size)
	return c.Size >= b.leastSize && c.Size <= b.mostSize && c.Badge >= 0 && c.Badge <= b.mostBadge
}

// right is a capability of a kind that Check takes, with a guard if it is a node.
func right(kind int) api.Cap {
	c := api.Cap{Kind: kind, Obj: 5, Rights: 7}
	switch kind {
	case api.Untyped:
		c.Size = 3
	case api.Node:
		c.Size, c.Badge = 3, 5
	}
	return c
}

// all is one capability of each kind, of those that are none too.
func all() []api.Cap {
	var out []api.Cap
	for _, kind := range kinds() {
		out = append(out, right(kind))
	}
	return out
}

// changed is c with another number in one field, at each number of far and at those that are near.
func changed(c api.Cap, set func(*api.Cap, int)) []api.Cap {
	var out []api.Cap
	for _, n := range badges() {
		d := c
		set(&d, n)
		out = append(out, d)
	}
	return out
}

func setKind(c *api.Cap, n int)   { c.Kind = n }
func setObj(c *api.Cap, n int)    { c.Obj = n }
func setSize(c *api.Cap, n int)   { c.Size = n }
func setBadge(c *api.Cap, n int)  { c.Badge = n }
func setRights(c *api.Cap, n int) { c.Rights = n }

func TestP3_1CheckAtTheEdgesOfEachKind(t *testing.T) {
	for _, x := range []struct {
		c    api.Cap
		want bool
	}{
		{api.Cap{Kind: api.Untyped, Obj: 1, Size: 1}, true},
		{api.Cap{Kind: api.Untyped, Obj: 1, Size: 0}, false},
		{api.Cap{Kind: api.Untyped, Obj: 1, Size: 64}, true},
		{api.Cap{Kind: api.Untyped, Obj: 1, Size: 65}, false},
		{api.Cap{Kind: api.Untyped, Obj: 30, Size: 35}, true},
		{api.Cap{Kind: api.Untyped, Obj: 30, Size: 36}, false},
		{api.Cap{Kind: api.Untyped, Obj: 64, Size: 1}, true},
		{api.Cap{Kind: api.Untyped, Obj: 64, Size: 2}, false},
		{api.Cap{Kind: api.Untyped, Obj: 64, Size: math.MaxInt}, false},
		{api.Cap{Kind: api.Untyped, Obj: math.MaxInt, Size: 2}, false},
		{api.Cap{Kind: api.Untyped, Obj: 1, Size: 1, Badge: 1}, false},
		{api.Cap{Kind: api.Node, Obj: 1, Size: 0, Badge: 0}, true},
		{api.Cap{Kind: api.Node, Obj: 1, Size: 0, Badge: 1}, false},
		{api.Cap{Kind: api.Node, Obj: 1, Size: 1, Badge: 1}, true},
		{api.Cap{Kind: api.Node, Obj: 1, Size: 1, Badge: 2}, false},
		{api.Cap{Kind: api.Node, Obj: 1, Size: 8, Badge: 255}, true},
		{api.Cap{Kind: api.Node, Obj: 1, Size: 8, Badge: 256}, false},
		{api.Cap{Kind: api.Node, Obj: 1, Size: 8, Badge: -1}, false},
		{api.Cap{Kind: api.Node, Obj: 1, Size: 9, Badge: 0}, false},
		{api.Cap{Kind: api.Node, Obj: 1, Size: 62, Badge: 0}, false},
		{api.Cap{Kind: api.Node, Obj: 1, Size: -1, Badge: 0}, false},
		{api.Cap{Kind: api.Frame, Obj: 64}, true},
		{api.Cap{Kind: api.Frame, Obj: 65}, false},
		{api.Cap{Kind: api.Frame, Obj: 0}, false},
		{api.Cap{Kind: api.Frame, Obj: 1, Rights: 7}, true},
		{api.Cap{Kind: api.Frame, Obj: 1, Rights: 8}, false},
		{api.Cap{Kind: api.Frame, Obj: 1, Rights: -1}, false},
		{api.Cap{Kind: api.Endpoint, Obj: 1, Badge: 1<<31 - 1}, true},
		{api.Cap{Kind: api.Endpoint, Obj: 1, Badge: 1 << 31}, false},
		{api.Cap{Kind: api.Endpoint, Obj: 1, Badge: 1 << 32}, false},
		{api.Cap{Kind: api.Notif, Obj: 1, Badge: 1<<31 - 1}, true},
		{api.Cap{Kind: api.Notif, Obj: 1, Badge: 1 << 31}, false},
		{api.Cap{Kind: api.Notif, Obj: 1, Size: 1}, false},
		{api.Cap{Kind: api.Ring, Obj: 1}, true},
		{api.Cap{Kind: api.Ring + 1, Obj: 1}, false},
		{api.Cap{Kind: 0, Obj: 1}, false},
		{api.Cap{}, false},
	} {
		if got := caps.Check(x.c); got != x.want {
			t.Errorf("Check(%+v): %v, not %v", x.c, got, x.want)
		}
	}
}

func TestP3_1CheckAtAllNumbers(t *testing.T) {
	for _, kind := range kinds() {
		for _, obj := range units() {
			for _, size := range sizes() {
				for _, badge := range badges() {
					c := api.Cap{Kind: kind, Obj: obj, Size: size, Badge: badge, Rights: 7}
					if got := caps.Check(c); got != isRight(c) {
						t.Fatalf("Check(%+v): %v, not %v", c, got, isRight(c))
					}
				}
			}
		}
	}
}

func TestP3_1CheckOfRights(t *testing.T) {
	for _, c := range all() {
		for _, r := range rights() {
			c.Rights = r
			if got := caps.Check(c); got != isRight(c) {
				t.Errorf("Check(%+v): %v, not %v", c, got, isRight(c))
			}
		}
	}
}

func TestP3_1CheckOfEachUntyped(t *testing.T) {
	for obj := 1; obj <= api.MaxUnits; obj++ {
		for size := -1; size <= api.MaxUnits+1; size++ {
			c := api.Cap{Kind: api.Untyped, Obj: obj, Size: size}
			want := size >= 1 && obj+size-1 <= api.MaxUnits
			if got := caps.Check(c); got != want {
				t.Errorf("Check(%+v): %v, not %v", c, got, want)
			}
		}
	}
}

func TestP3_1CheckOfEachGuard(t *testing.T) {
	guards := []int{1, 2, 4, 8, 16, 32, 64, 128, 256}
	for size, n := range guards {
		for badge := -1; badge <= 600; badge++ {
			c := api.Cap{Kind: api.Node, Obj: 2, Size: size, Badge: badge}
			if got, want := caps.Check(c), badge >= 0 && badge < n; got != want {
				t.Errorf("Check(%+v): %v, not %v", c, got, want)
			}
		}
	}
}

func TestP3_2LessExample(t *testing.T) {
	c := api.Cap{Kind: api.Frame, Obj: 1, Rights: 7}
	if got := caps.Less(c, 2); got != (api.Cap{Kind: api.Frame, Obj: 1, Rights: 2}) {
		t.Error("Less of rights 7 by 2:", got)
	}
}

// both is the rights that two numbers have, one by one; of a number below 0 the lowest bits are those that it has modulo 8.
func both(a, b int) int {
	a, b = ((a%8)+8)%8, ((b%8)+8)%8
	out := 0
	for _, r := range []int{api.Read, api.Write, api.Grant} {
		if a/r%2 == 1 && b/r%2 == 1 {
			out += r
		}
	}
	return out
}

func TestP3_2LessIsTheRightsOfBothAndAllElseOfC(t *testing.T) {
	for _, c := range all() {
		for _, have := range rights() {
			for _, by := range rights() {
				c.Rights = have
				want := c
				want.Rights = both(have, by)
				if got := caps.Less(c, by); got != want {
					t.Fatalf("Less(%+v, %d): %+v, not %+v", c, by, got, want)
				}
			}
		}
	}
}

func TestP3_2LessKeepsNumbersThatCantBe(t *testing.T) {
	for _, set := range []func(*api.Cap, int){setKind, setObj, setSize, setBadge} {
		for _, c := range changed(right(api.Node), set) {
			want := c
			want.Rights = 5
			if got := caps.Less(c, 13); got != want {
				t.Errorf("Less(%+v, 13): %+v, not %+v", c, got, want)
			}
		}
	}
}

func TestP3_2LessNeverGivesBack(t *testing.T) {
	for have := range 8 {
		c := api.Cap{Kind: api.Frame, Obj: 1, Rights: have}
		for by := range 8 {
			if got := caps.Less(caps.Less(c, by), -1); got != caps.Less(c, by) {
				t.Errorf("Less by %d, then by all, of rights %d: %d", by, have, got.Rights)
			}
		}
	}
}

// badged is what Badge should answer.
func badged(c api.Cap, n uint32) (api.Cap, int) {
	d := c
	switch c.Kind {
	case api.Endpoint, api.Notif:
		d.Badge = int(n)
		switch {
		case c.Badge != 0, n == 0:
			return api.Cap{}, api.EBadge
		case n/2 > 1<<30-1:
			return api.Cap{}, api.ERange
		}
		return d, api.Fine
	case api.Node:
		d.Size, d.Badge = int(n%256), int(n/256)
		if !isRight(d) {
			return api.Cap{}, api.ERange
		}
		return d, api.Fine
	}
	return api.Cap{}, api.EKind
}

func checkBadge(t *testing.T, c api.Cap, n uint32) {
	t.Helper()
	want, wantCode := badged(c, n)
	if got, code := caps.Badge(c, n); got != want || code != wantCode {
		t.Errorf("Badge(%+v, %#x): %+v, %d, not %+v, %d", c, n, got, code, want, wantCode)
	}
}

func TestP3_2BadgeExamples(t *testing.T) {
	end := api.Cap{Kind: api.Endpoint, Obj: 5, Rights: 3}
	node := api.Cap{Kind: api.Node, Obj: 6, Size: 2, Badge: 3, Rights: 5}
	for _, x := range []struct {
		c    api.Cap
		n    uint32
		want api.Cap
		code int
	}{
		{end, 1, api.Cap{Kind: api.Endpoint, Obj: 5, Badge: 1, Rights: 3}, api.Fine},
		{end, 1<<31 - 1, api.Cap{Kind: api.Endpoint, Obj: 5, Badge: 1<<31 - 1, Rights: 3}, api.Fine},
		{end, 1 << 31, api.Cap{}, api.ERange},
		{end, 1<<32 - 1, api.Cap{}, api.ERange},
		{end, 0, api.Cap{}, api.EBadge},
		{api.Cap{Kind: api.Notif, Obj: 5, Badge: 4}, 4, api.Cap{}, api.EBadge},
		{api.Cap{Kind: api.Notif, Obj: 5, Badge: 4}, 0, api.Cap{}, api.EBadge},
		{api.Cap{Kind: api.Notif, Obj: 5, Badge: 4}, 1 << 31, api.Cap{}, api.EBadge},
		{api.Cap{Kind: api.Notif, Obj: 5, Badge: -1}, 4, api.Cap{}, api.EBadge},
		{node, 0, api.Cap{Kind: api.Node, Obj: 6, Rights: 5}, api.Fine},
		{node, 0x0f04, api.Cap{Kind: api.Node, Obj: 6, Size: 4, Badge: 15, Rights: 5}, api.Fine},
		{node, 0x1004, api.Cap{}, api.ERange},
		{node, 0xff08, api.Cap{Kind: api.Node, Obj: 6, Size: 8, Badge: 255, Rights: 5}, api.Fine},
		{node, 0x10008, api.Cap{}, api.ERange},
		{node, 0x100, api.Cap{}, api.ERange},
		{node, 9, api.Cap{}, api.ERange},
		{node, 1 << 31, api.Cap{}, api.ERange},
		{node, 1<<32 - 1, api.Cap{}, api.ERange},
		{api.Cap{Kind: api.Node, Obj: 0}, 0, api.Cap{}, api.ERange},
		{api.Cap{Kind: api.Node, Obj: 1, Rights: 8}, 0, api.Cap{}, api.ERange},
		{api.Cap{Kind: api.Frame, Obj: 5}, 1, api.Cap{}, api.EKind},
		{api.Cap{Kind: api.Untyped, Obj: 5, Size: 1, Badge: 1}, 0, api.Cap{}, api.EKind},
		{api.Cap{Kind: api.Ring + 1, Obj: 5}, 1 << 31, api.Cap{}, api.EKind},
		{api.Cap{}, 0, api.Cap{}, api.EKind},
	} {
		if got, code := caps.Badge(x.c, x.n); got != x.want || code != x.code {
			t.Errorf("Badge(%+v, %#x): %+v, %d, not %+v, %d", x.c, x.n, got, code, x.want, x.code)
		}
	}
}

func TestP3_2BadgeOfEachKindByEachWord(t *testing.T) {
	for _, c := range all() {
		for _, n := range words() {
			checkBadge(t, c, n)
		}
	}
}

func TestP3_2BadgeOfNumbersThatCantBe(t *testing.T) {
	for _, kind := range []int{api.Frame, api.Node, api.Endpoint, api.Notif, api.Untyped} {
		for _, set := range []func(*api.Cap, int){setObj, setSize, setBadge, setRights} {
			for _, c := range changed(right(kind), set) {
				for _, n := range []uint32{0, 1, 0x0f04, 0x1004, 1<<31 - 1, 1 << 31} {
					checkBadge(t, c, n)
				}
			}
		}
	}
}

func TestP3_2BadgeIsGivenOnce(t *testing.T) {
	for _, kind := range []int{api.Endpoint, api.Notif} {
		c, code := caps.Badge(right(kind), 7)
		if code != api.Fine || c.Badge != 7 {
			t.Fatal("the first badge of kind", kind, c, code)
		}
		for _, n := range []uint32{0, 7, 8, 1 << 31} {
			if got, code := caps.Badge(c, n); got != (api.Cap{}) || code != api.EBadge {
				t.Error("the second badge of kind", kind, n, got, code)
			}
		}
	}
}

func TestP3_2AGuardIsGivenAnew(t *testing.T) {
	c := right(api.Node)
	for size := uint32(0); size <= 8; size++ {
		var code int
		if c, code = caps.Badge(c, (1<<size-1)<<8|size); code != api.Fine || c.Size != int(size) || c.Badge != 1<<size-1 {
			t.Fatal("the greatest guard of", size, "bits:", c, code)
		}
	}
}

func TestP3_2WhatBadgeGivesIsRight(t *testing.T) {
	for _, c := range all() {
		for _, n := range words() {
			if got, code := caps.Badge(c, n); code == api.Fine && !caps.Check(got) {
				t.Errorf("Badge(%+v, %#x): %+v, which Check denies", c, n, got)
			}
		}
	}
}

func TestP3_2NamesHangsOnKindObjAndAnUntypedsSize(t *testing.T) {
	for _, a := range all() {
		for _, x := range []struct {
			name string
			set  func(*api.Cap, int)
			of   func(api.Cap) int
			one  bool
		}{
			{"Kind", setKind, func(c api.Cap) int { return c.Kind }, false},
			{"Obj", setObj, func(c api.Cap) int { return c.Obj }, false},
			{"Size", setSize, func(c api.Cap) int { return c.Size }, a.Kind != api.Untyped},
			{"Badge", setBadge, func(c api.Cap) int { return c.Badge }, true},
			{"Rights", setRights, func(c api.Cap) int { return c.Rights }, true},
		} {
			for _, b := range changed(a, x.set) {
				want := x.one || x.of(a) == x.of(b)
				if got, back := caps.Names(a, b), caps.Names(b, a); got != want || back != want {
					t.Errorf("%s: Names(%+v, %+v): %v, back %v, not %v", x.name, a, b, got, back, want)
				}
			}
		}
	}
}

func TestP3_2NamesOfAllPairs(t *testing.T) {
	for _, a := range all() {
		for _, b := range all() {
			if got := caps.Names(a, b); got != (a.Kind == b.Kind) {
				t.Errorf("Names(%+v, %+v): %v", a, b, got)
			}
			b.Obj++
			if caps.Names(a, b) {
				t.Errorf("Names(%+v, %+v): true", a, b)
			}
		}
	}
}

func TestP3_2NamesOfUntypedsWithinEachOther(t *testing.T) {
	a := api.Cap{Kind: api.Untyped, Obj: 4, Size: 4}
	for obj := 1; obj <= 10; obj++ {
		for size := 0; size <= 10; size++ {
			b := api.Cap{Kind: api.Untyped, Obj: obj, Size: size, Rights: 1}
			if got, want := caps.Names(a, b), obj == 4 && size == 4; got != want {
				t.Errorf("Names(%+v, %+v): %v, not %v", a, b, got, want)
			}
		}
	}
}

func TestP3_2RangeOfAnUntyped(t *testing.T) {
	for _, obj := range units() {
		for _, size := range sizes() {
			for _, other := range badges() {
				c := api.Cap{Kind: api.Untyped, Obj: obj, Size: size, Badge: other, Rights: other}
				if got := caps.Range(c); got != (api.Range{Base: obj, Size: size}) {
					t.Fatalf("Range(%+v): %+v", c, got)
				}
			}
		}
	}
}

func TestP3_2RangeOfOthers(t *testing.T) {
	for _, kind := range kinds() {
		if kind == api.Untyped {
			continue
		}
		for _, obj := range units() {
			for _, size := range sizes() {
				c := api.Cap{Kind: kind, Obj: obj, Size: size, Badge: size, Rights: 7}
				if got := caps.Range(c); got != (api.Range{}) {
					t.Fatalf("Range(%+v): %+v", c, got)
				}
			}
		}
	}
}
