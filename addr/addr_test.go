package addr_test

import (
	"math"
	"math/big"
	"testing"

	"ringkern/addr"
	"ringkern/api"
)

// far are numbers beyond every bound of a value and a depth, some of which a sum, a difference or a shift would carry round.
func far() []int {
	return []int{math.MinInt, math.MinInt + 1, math.MinInt + 12, math.MinInt + 256, -1 << 62, -1<<32 - 1, -1 << 32, -1<<32 + 4, math.MinInt32,
		-1 << 24, -1 << 16, -256, -252, -64, -60, -8, -4, -2, -1,
		1 << 24, 1<<24 + 5, math.MaxInt32, math.MaxInt32 + 1, math.MaxUint32, 1 << 32, 1<<32 + 4, 1<<32 + 24, 1<<33 + 5,
		1 << 56, 1<<56 + 5, 1 << 62, math.MaxInt - 255, math.MaxInt - 12, math.MaxInt - 1, math.MaxInt}
}

func depths() []int {
	out := append(far(), 31, 32, 33, 60, 63, 64, 65, 127, 128, 252, 255, 256, 260, 512)
	for d := range api.MaxBits + 3 {
		out = append(out, d)
	}
	return out
}

// values has each power of 2 and those beside it, and bits that no two places of it share.
func values() []int {
	out := append(far(), 0, 5, 10, 15, 0x5a, 0xa5, 0x504, 0x12345, 0x6789ab, 0xabcdef, 0xffffff)
	for i := range 34 {
		out = append(out, 1<<i-1, 1<<i, 1<<i+1)
	}
	return out
}

// double is 2^n, by doubling and not by shifts.
func double(n int) int {
	out := 1
	for range n {
		out *= 2
	}
	return out
}

// node is a Node with that guard.
func node(size, guard int) api.Cap {
	return api.Cap{Kind: api.Node, Obj: 1, Size: size, Badge: guard, Rights: 7}
}

// isNode tells whether c is a right Node.
func isNode(c api.Cap) bool {
	return c.Kind == api.Node && c.Obj >= 1 && c.Obj <= 64 && c.Rights >= 0 && c.Rights <= 7 &&
		c.Size >= 0 && c.Size <= 8 && c.Badge >= 0 && c.Badge < double(c.Size)
}

// digits are a value's binary ones, so many, the highest first; false where it has more, or there can't be so many.
func digits(value, depth int) ([]int, bool) {
	if depth < 0 || depth > 24 || value < 0 {
		return nil, false
	}
	out := make([]int, depth)
	for i := range out {
		out[depth-1-i] = value % 2
		value /= 2
	}
	return out, value == 0
}

func number(digits []int) int {
	n := 0
	for _, d := range digits {
		n = n*2 + d
	}
	return n
}

// answer is what Split and Step tell.
type answer struct {
	first, second int
	is            bool
}

func wantStep(c api.Cap, value, depth int) answer {
	ds, ok := digits(value, depth)
	if !ok || !isNode(c) || len(ds) < c.Size+4 || number(ds[:c.Size]) != c.Badge {
		return answer{}
	}
	return answer{number(ds[c.Size : c.Size+4]), len(ds[c.Size+4:]), true}
}

func step(c api.Cap, value, depth int) answer {
	slot, left, is := addr.Step(c, value, depth)
	return answer{slot, left, is}
}

func checkStep(t *testing.T, c api.Cap, value, depth int) {
	t.Helper()
	if got, want := step(c, value, depth), wantStep(c, value, depth); got != want {
		t.Fatalf("Step(%+v, %#x, %d): %+v, not %+v", c, value, depth, got, want)
	}
}

func wantSplit(a uint32) answer {
	value, depth := int(a/256), int(a%256)
	if depth < 4 || depth > 24 || value >= double(depth) {
		return answer{}
	}
	return answer{value, depth, true}
}

func split(a uint32) answer {
	value, depth, is := addr.Split(a)
	return answer{value, depth, is}
}

// wantJoin reckons without bounds, so that nothing goes round but where the chapter says so.
func wantJoin(value, depth int) uint32 {
	word := big.NewInt(1 << 32)
	v := new(big.Int).Mod(big.NewInt(int64(value)), word)
	d := new(big.Int).Mod(big.NewInt(int64(depth)), word)
	v.Mul(v, big.NewInt(256)).Mod(v, word)
	v.Add(v, d.Mod(d, big.NewInt(256)))
	return uint32(v.Uint64())
}

func TestP4_1JoinExamples(t *testing.T) {
	for _, x := range []struct {
		value, depth int
		want         uint32
	}{
		{5, 4, 0x504},
		{0, 0, 0},
		{0, 4, 4},
		{0xffffff, api.MaxBits, 0xffffff18},
		{1<<24 - 1, 255, 0xffffffff},
		{1 << 24, 8, 8},
		{1<<24 + 5, 4, 0x504},
		{1 << 32, 4, 4},
		{1<<32 + 5, 1<<32 + 4, 0x504},
		{-1, 4, 0xffffff04},
		{-1, 255, 0xffffffff},
		{-1 << 32, -1 << 32, 0},
		{5, 256, 0x500},
		{5, 260, 0x504},
		{5, -1, 0x5ff},
		{5, -252, 0x504},
		{5, 3, 0x503},
		{5, 25, 0x519},
		{math.MaxInt, math.MaxInt, 0xffffffff},
		{math.MinInt, math.MinInt, 0},
		{math.MinInt + 5, math.MinInt + 4, 0x504},
	} {
		if got := addr.Join(x.value, x.depth); got != x.want {
			t.Errorf("Join(%#x, %d): %#x, not %#x", x.value, x.depth, got, x.want)
		}
	}
}

func TestP4_1JoinOfAllNumbers(t *testing.T) {
	for _, value := range append(values(), depths()...) {
		for _, depth := range append(values(), depths()...) {
			if got, want := addr.Join(value, depth), wantJoin(value, depth); got != want {
				t.Fatalf("Join(%#x, %#x): %#x, not %#x", value, depth, got, want)
			}
		}
	}
}

func TestP4_1SplitExamples(t *testing.T) {
	for _, x := range []struct {
		a    uint32
		want answer
	}{
		{0x504, answer{5, 4, true}},
		{4, answer{0, 4, true}},
		{0xf04, answer{15, 4, true}},
		{0x1004, answer{}},
		{3, answer{}},
		{0x503, answer{}},
		{0x703, answer{}},
		{0, answer{}},
		{0x100, answer{}},
		{0x1f05, answer{31, 5, true}},
		{0x2005, answer{}},
		{0x7fffff17, answer{1<<23 - 1, 23, true}},
		{0x80000017, answer{}},
		{0x18, answer{0, api.MaxBits, true}},
		{0xffffff18, answer{1<<24 - 1, api.MaxBits, true}},
		{0x19, answer{}},
		{0xffffff19, answer{}},
		{0x20, answer{}},
		{0x40, answer{}},
		{0xff, answer{}},
		{0xffffffff, answer{}},
	} {
		if got := split(x.a); got != x.want {
			t.Errorf("Split(%#x): %+v, not %+v", x.a, got, x.want)
		}
	}
}

func TestP4_1SplitAtEachDepthsBounds(t *testing.T) {
	for depth := range uint32(256) {
		for _, value := range values() {
			a := uint32(value)<<8 | depth
			if got, want := split(a), wantSplit(a); got != want {
				t.Fatalf("Split(%#x): %+v, not %+v", a, got, want)
			}
		}
	}
}

func TestP4_1SplitOfEachSmallAddress(t *testing.T) {
	for a := range uint32(1 << 20) {
		if got, want := split(a), wantSplit(a); got != want {
			t.Fatalf("Split(%#x): %+v, not %+v", a, got, want)
		}
	}
}

func TestP4_1SplitGivesWhatJoinTook(t *testing.T) {
	for depth := 4; depth <= api.MaxBits; depth++ {
		last := double(depth) - 1
		for _, value := range []int{0, 1, 10, last / 2, last/2 + 1, last - 1, last} {
			if got := split(addr.Join(value, depth)); got != (answer{value, depth, true}) {
				t.Errorf("Split of Join(%#x, %d): %+v", value, depth, got)
			}
		}
	}
}

func TestP4_2StepExamples(t *testing.T) {
	plain := node(0, 0)
	for _, x := range []struct {
		name         string
		c            api.Cap
		value, depth int
		want         answer
	}{
		{"no guard, nothing left", plain, 5, 4, answer{5, 0, true}},
		{"the first slot", plain, 0, 4, answer{0, 0, true}},
		{"the last slot", plain, 15, 4, answer{15, 0, true}},
		{"no guard, four bits left", plain, 0xa5, 8, answer{10, 4, true}},
		{"one bit left", plain, 0x15, 5, answer{10, 1, true}},
		{"the greatest value", plain, 0xffffff, api.MaxBits, answer{15, 20, true}},
		{"a bit fewer than a slot", plain, 0, 3, answer{}},
		{"no bits", plain, 0, 0, answer{}},
		{"no bits, and a value", plain, 1, 0, answer{}},
		{"2^depth", plain, 16, 4, answer{}},
		{"a value below 0", plain, -1, 4, answer{}},
		{"2^MaxBits", plain, 1 << 24, api.MaxBits, answer{}},
		{"a depth above MaxBits", plain, 0, api.MaxBits + 1, answer{}},
		{"a depth below 0", plain, 0, -1, answer{}},
		{"a guard, nothing left", node(3, 5), 0x5a, 7, answer{10, 0, true}},
		{"a guard, two bits left", node(3, 5), 0x16b, 9, answer{10, 2, true}},
		{"another guard", node(3, 4), 0x5a, 7, answer{}},
		{"a guard that stands behind the slot", node(3, 5), 0x35, 7, answer{}},
		{"a guard in the lowest bits alone", node(3, 5), 0x05, 7, answer{}},
		{"a guard of zeros", node(3, 0), 0x0a, 7, answer{10, 0, true}},
		{"a guard of zeros, a bit too few", node(3, 0), 0, 6, answer{}},
		{"a guard, its bits alone", node(3, 5), 5, 3, answer{}},
		{"a guard with more bits before it", node(3, 5), 0xda, 8, answer{}},
		{"eight bits of guard, nothing left", node(8, 0x81), 0x81c, 12, answer{12, 0, true}},
		{"eight bits of guard, a bit too few", node(8, 0), 0, 11, answer{}},
		{"eight bits of guard, twelve left", node(8, 255), 0xff9876, api.MaxBits, answer{9, 12, true}},
		{"eight bits of guard, another", node(8, 254), 0xff9876, api.MaxBits, answer{}},
		{"the last unit, no rights", api.Cap{Kind: api.Node, Obj: api.MaxUnits}, 5, 4, answer{5, 0, true}},
	} {
		if got := step(x.c, x.value, x.depth); got != x.want {
			t.Errorf("%s: Step(%+v, %#x, %d): %+v, not %+v", x.name, x.c, x.value, x.depth, got, x.want)
		}
	}
}

func TestP4_2StepInEachNodeByEachShortValue(t *testing.T) {
	for size := range 6 {
		for guard := range double(size) {
			for depth := range 11 {
				for value := range double(depth) + 1 {
					checkStep(t, node(size, guard), value, depth)
				}
			}
		}
	}
}

// The bits that are left are all zeros and all ones; the guard is the node's and those beside it.
func TestP4_2StepByEachGuardAtEachDepth(t *testing.T) {
	for size := range 9 {
		for guard := range double(size) {
			for depth := size + 4; depth <= api.MaxBits; depth++ {
				left := depth - size - 4
				for slot := range api.Slots {
					head := (guard*16 + slot) * double(left)
					for _, value := range []int{head, head + double(left) - 1} {
						if got := step(node(size, guard), value, depth); got != (answer{slot, left, true}) {
							t.Fatalf("Step of guard %#x of %d bits, %#x, %d: %+v", guard, size, value, depth, got)
						}
						checkStep(t, node(size, guard), value+16*double(left), depth)
						checkStep(t, node(size, guard), value-16*double(left), depth)
						checkStep(t, node(size, guard), value, depth-1)
						checkStep(t, node(size, guard), value, depth+1)
					}
				}
			}
		}
	}
}

func TestP4_2StepByAllNumbers(t *testing.T) {
	for _, c := range []api.Cap{node(0, 0), node(1, 0), node(1, 1), node(3, 5), node(4, 0), node(4, 15), node(8, 0), node(8, 255)} {
		for _, value := range append(values(), depths()...) {
			for _, depth := range depths() {
				checkStep(t, c, value, depth)
			}
		}
	}
}

// wrongs are numbers of which some are wrong for a kind, a unit, a size, a guard or rights, and far ones.
func wrongs() []int {
	out := far()
	for n := -1; n <= 66; n++ {
		out = append(out, n)
	}
	return append(out, 127, 128, 255, 256, 257)
}

func TestP4_2StepInWhatIsNoRightNode(t *testing.T) {
	for _, set := range []func(*api.Cap, int){
		func(c *api.Cap, n int) { c.Kind = n },
		func(c *api.Cap, n int) { c.Obj = n },
		func(c *api.Cap, n int) { c.Size = n },
		func(c *api.Cap, n int) { c.Badge = n },
		func(c *api.Cap, n int) { c.Rights = n },
	} {
		for _, n := range wrongs() {
			for _, c := range []api.Cap{node(0, 0), node(3, 0), node(3, 5), node(8, 0), node(8, 255)} {
				set(&c, n)
				for _, depth := range []int{-1, 0, 3, 4, 7, 8, 12, 16, api.MaxBits, api.MaxBits + 1, math.MinInt, math.MaxInt} {
					for _, value := range []int{0, 5, 15, 0x5a, 0xa5, 0xff9, 0xff9876, 0xffffff, -1, math.MinInt, math.MaxInt} {
						checkStep(t, c, value, depth)
					}
				}
			}
		}
	}
}

func TestP4_2StepInOtherKinds(t *testing.T) {
	for kind := -1; kind <= api.Ring+1; kind++ {
		c := api.Cap{Kind: kind, Obj: 1, Rights: 7}
		if kind == api.Untyped {
			c.Size = 1
		}
		for _, depth := range []int{4, 5, 8, api.MaxBits} {
			if _, _, is := addr.Step(c, 0, depth); is != (kind == api.Node) {
				t.Errorf("Step in kind %d, depth %d: %v", kind, depth, is)
			}
		}
	}
	checkStep(t, api.Cap{}, 0, 4)
}

// The guard can't be told from the value's bits where it has more than the node's Size says.
func TestP4_2StepInANodeWithAGuardTooGreat(t *testing.T) {
	for size := range 10 {
		for _, guard := range []int{double(size), double(size) + 1, -1, -double(size)} {
			for depth := range api.MaxBits + 1 {
				for _, value := range []int{0, 5, double(depth) / 2, double(depth) - 1} {
					if got := step(node(size, guard), value, depth); got != (answer{}) {
						t.Errorf("Step of guard %d of %d bits, %#x, %d: %+v", guard, size, value, depth, got)
					}
				}
			}
		}
	}
}

// A way through nodes of several guards, as Split gives it and each step leaves it.
func TestP4_2StepsOneAfterTheOther(t *testing.T) {
	value, depth, is := addr.Split(addr.Join(0xb5a7c9, api.MaxBits))
	if !is {
		t.Fatal("Split: false")
	}
	for _, x := range []struct {
		c          api.Cap
		slot, left int
	}{
		{node(4, 0xb), 5, 16},
		{node(0, 0), 0xa, 12},
		{node(8, 0x7c), 9, 0},
	} {
		slot, left, is := addr.Step(x.c, value, depth)
		if slot != x.slot || left != x.left || !is {
			t.Fatalf("Step(%+v, %#x, %d): %d, %d, %v", x.c, value, depth, slot, left, is)
		}
		value, depth = value%double(left), left
	}
	if got := step(node(0, 0), value, depth); got != (answer{}) {
		t.Error("a step where no bits are left:", got)
	}
}
