package look_test

import (
	"math"
	"slices"
	"strconv"
	"strings"
	"testing"

	"ringkern/api"
	"ringkern/look"
	"ringkern/slots"
)

var none api.Place

func at(node, slot int) api.Place { return api.Place{Node: node, Slot: slot} }

// node is a Node with that guard, written in binary digits.
func node(obj int, guard string) api.Cap {
	c := api.Cap{Kind: api.Node, Obj: obj, Size: len(guard), Rights: 7}
	if guard != "" {
		c.Badge = number(guard)
	}
	return c
}

func number(digits string) int {
	n, err := strconv.ParseInt(digits, 2, 64)
	if err != nil {
		panic(err)
	}
	return int(n)
}

// digits are a number's binary ones, so many at least.
func digits(n, width int) string {
	s := strconv.FormatInt(int64(n), 2)
	return strings.Repeat("0", max(0, width-len(s))) + s
}

// address is that of the value's digits, with blanks where a reader wants them.
func address(value string) uint32 {
	value = strings.ReplaceAll(value, " ", "")
	return uint32(number(value)*256 + len(value))
}

// far are numbers beyond every bound, some of which a sum, a shift or a cut to fewer bits would carry to one that is within.
func far() []int {
	return []int{math.MinInt, math.MinInt + 1, math.MinInt + 3, -1 << 62, -1<<32 + 2, -1 << 32, math.MinInt32, -256, -16, -3, -2, -1,
		256, 258, 1 << 16, 1<<16 + 2, math.MaxInt32, 1 << 32, 1<<32 + 2, 1<<32 + 3, 1 << 62, math.MaxInt - 1, math.MaxInt}
}

// allKinds is 0, each kind, and such as are none.
func allKinds() []int {
	out := append(far(), api.Ring+1, api.Ring+2, 64)
	for kind := range api.Ring + 1 {
		out = append(out, kind)
	}
	return out
}

// world is a table and what was put into it, which the reference goes by.
type world struct {
	table *slots.Table
	held  map[api.Place]api.Cap
}

func newWorld() *world {
	return &world{&slots.Table{}, map[api.Place]api.Cap{}}
}

func (w *world) put(t *testing.T, p api.Place, c api.Cap, parent api.Place) {
	t.Helper()
	if !w.table.Put(p, c, parent) {
		t.Fatalf("Put(%v, %+v, %v)", p, c, parent)
	}
	w.held[p] = c
}

// rightNode is what a node has to be on a way.
func rightNode(c api.Cap) bool {
	return c.Kind == api.Node && c.Obj >= 1 && c.Obj <= 64 && c.Rights >= 0 && c.Rights <= 7 &&
		c.Size >= 0 && c.Size <= 8 && c.Badge >= 0 && len(digits(c.Badge, c.Size)) == max(1, c.Size) && (c.Size > 0 || c.Badge == 0)
}

// found is what Find tells.
type found struct {
	p    api.Place
	code int
}

// got is what Cap tells.
type got struct {
	c    api.Cap
	p    api.Place
	code int
}

// way takes digits from the front of a text, a node's guard and four for a slot, until none are left.
func (w *world) way(c api.Cap, value string) found {
	if !rightNode(c) {
		return found{none, api.ELook}
	}
	guard := ""
	if c.Size > 0 {
		guard = digits(c.Badge, c.Size)
	}
	rest, ok := strings.CutPrefix(value, guard)
	if !ok || len(rest) < 4 {
		return found{none, api.ELook}
	}
	p := at(c.Obj, number(rest[:4]))
	if rest[4:] == "" {
		return found{p, api.Fine}
	}
	return w.way(w.held[p], rest[4:])
}

func (w *world) wantFind(root api.Cap, a uint32) found {
	value, depth := int(a/256), int(a%256)
	if depth < 4 || depth > 24 || len(digits(value, depth)) != depth {
		return found{none, api.ELook}
	}
	return w.way(root, digits(value, depth))
}

func (w *world) wantCap(root api.Cap, a uint32, kind int) got {
	f := w.wantFind(root, a)
	c, is := w.held[f.p]
	switch {
	case f.code != api.Fine:
		return got{api.Cap{}, none, api.ELook}
	case !is:
		return got{api.Cap{}, none, api.EEmpty}
	case kind == 0 || kind == c.Kind:
		return got{c, f.p, api.Fine}
	}
	return got{api.Cap{}, none, api.EKind}
}

func (w *world) find(root api.Cap, a uint32) found {
	p, code := look.Find(w.table, root, a)
	return found{p, code}
}

func (w *world) cap(root api.Cap, a uint32, kind int) got {
	c, p, code := look.Cap(w.table, root, a, kind)
	return got{c, p, code}
}

// check holds Find, and Cap by each of the kinds, against the reference.
func (w *world) check(t *testing.T, root api.Cap, a uint32, kinds ...int) found {
	t.Helper()
	f := w.find(root, a)
	if want := w.wantFind(root, a); f != want {
		t.Fatalf("Find(%+v, %#x): %+v, not %+v", root, a, f, want)
	}
	for _, kind := range kinds {
		if g, want := w.cap(root, a, kind), w.wantCap(root, a, kind); g != want {
			t.Fatalf("Cap(%+v, %#x, %d): %+v, not %+v", root, a, kind, g, want)
		}
	}
	return f
}

// row is all that a table can be asked of one place.
type row struct {
	p, parent       api.Place
	c               api.Cap
	is              bool
	children, below string
}

func places(l []api.Place) string {
	var b strings.Builder
	for _, p := range l {
		b.WriteString(strconv.Itoa(p.Node) + "." + strconv.Itoa(p.Slot) + " ")
	}
	return b.String()
}

// picture is all that a table can be asked, of each place that may be and of some that can't.
func picture(x *slots.Table) []row {
	asked := append(x.All(), none, at(0, 1), at(1, -1), at(1, 16), at(65, 0))
	for n := range api.MaxUnits {
		for s := range api.Slots {
			asked = append(asked, at(n+1, s))
		}
	}
	var out []row
	for _, p := range asked {
		r := row{p: p, parent: x.Parent(p)}
		r.c, r.is = x.Get(p)
		if r.is { // each list is found by going over the whole table
			r.children, r.below = places(x.Children(p)), places(x.Below(p))
		}
		out = append(out, r)
	}
	return out
}

// unchanged tells whether the table is, behind what is done, as it was ahead of it.
func (w *world) unchanged(t *testing.T, do func()) {
	t.Helper()
	before := picture(w.table)
	do()
	if !slices.Equal(picture(w.table), before) {
		t.Fatal("the table is another one")
	}
}
