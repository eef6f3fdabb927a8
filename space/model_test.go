package space_test

import (
	"fmt"
	"math"
	"slices"
	"testing"

	"ringkern/api"
	"ringkern/space"
)

func page(space, n int) api.Page { return api.Page{Space: space, Page: n} }

func to(frame, rights int) api.Map1 { return api.Map1{Frame: frame, Rights: rights} }

// far are numbers beyond every bound, some of which a sum, a difference, or a cut to fewer bits, would carry to one that is within.
func far() []int {
	return []int{math.MinInt, math.MinInt + 1, math.MinInt + 3, -1 << 62, -1<<32 + 1, -1 << 32, math.MinInt32, -1 << 16, -512, -256, -255, -64, -8, -3, -2, -1,
		api.MaxUnits + 1, 128, 255, 256, 257, 1 << 16, 1<<16 + 1, math.MaxInt32, 1 << 31, 1 << 32, 1<<32 + 1, 1<<32 + 3, 1 << 62, math.MaxInt - 1, math.MaxInt}
}

// units are what a space and a frame may be, and what may be taken for one.
func units() []int { return append(far(), 0, 1, 2, 3, 63, 64) }

// pageNumbers are what a page may be, and what may be taken for one.
func pageNumbers() []int { return append(far(), 0, 1, 2, 6, 7, 8, 9, 15, 16) }

// noPages are pages that can't be, with those that a careless bound would take.
func noPages() []api.Page {
	out := []api.Page{{}, page(0, 1), page(0, 7), page(0, 8), page(1, 8), page(2, 8), page(2, 9), page(64, 8), page(63, 16), page(65, 0), page(65, 7), page(65, 8)}
	for _, n := range far() {
		out = append(out, page(n, 0), page(n, 7), page(n, n), page(1, n), page(2, n), page(64, n))
	}
	return out
}

// pages are those that may be, by space, then page.
func pages() []api.Page {
	var out []api.Page
	for s := 1; s <= 64; s++ {
		for n := range 8 {
			out = append(out, page(s, n))
		}
	}
	return out
}

// scattered is each page that may be, once, in an order that is neither rising nor falling: 389 has no divisor in common with their number.
func scattered() []api.Page {
	var out []api.Page
	l := pages()
	for i := range l {
		out = append(out, l[i*389%len(l)])
	}
	return out
}

// cell is what the model has of a page.
type cell struct {
	is bool
	f  api.Map1
}

// model is what maps should have, a row a space, a cell for each page that there may be, so that going over it is going up.
type model [64][8]cell

// at is nil of a page that can't be.
func (m *model) at(p api.Page) *cell {
	for s := range m {
		for n := range m[s] {
			if p == page(s+1, n) {
				return &m[s][n]
			}
		}
	}
	return nil
}

func (m *model) get(p api.Page) (api.Map1, bool) {
	c := m.at(p)
	if c == nil {
		return api.Map1{}, false
	}
	return c.f, c.is
}

func (m *model) set(p api.Page, f api.Map1) bool {
	c := m.at(p)
	isFrame := slices.ContainsFunc(pages(), func(q api.Page) bool { return q.Space == f.Frame })
	if c == nil || c.is || !isFrame || !slices.Contains([]int{1, 2, 3}, f.Rights) {
		return false
	}
	*c = cell{true, f}
	return true
}

func (m *model) clear(p api.Page) bool {
	return m.clearThose(func(q api.Page, _ api.Map1) bool { return q == p }) == 1
}

func (m *model) drop(frame int) int {
	return m.clearThose(func(_ api.Page, f api.Map1) bool { return f.Frame == frame })
}

func (m *model) empty(space int) int {
	return m.clearThose(func(p api.Page, _ api.Map1) bool { return p.Space == space })
}

func (m *model) clearThose(wanted func(api.Page, api.Map1) bool) int {
	n := 0
	for _, p := range m.all() {
		if c := m.at(p); wanted(p, c.f) {
			*c = cell{}
			n++
		}
	}
	return n
}

func (m *model) all() []api.Page {
	var out []api.Page
	for s := range m {
		for n, c := range m[s] {
			if c.is {
				out = append(out, page(s+1, n))
			}
		}
	}
	return out
}

// look finds the page by going over the space, and the right that lacks bit by bit.
func (m *model) look(space int, a uint32, n, rights int) (int, int, bool) {
	for i := range 8 {
		first, behind := uint64(i*512), uint64(i*512+512)
		if uint64(a) < first || behind <= uint64(a) {
			continue
		}
		f, is := m.get(page(space, i))
		// What is not below 0 has a bit to spare, so that this sum can't go round.
		if !is || n < 0 || uint64(a)+uint64(n) > behind || lacks(f.Rights, rights) {
			break
		}
		return f.Frame, int(uint64(a) - first), true
	}
	return 0, 0, false
}

func lacks(rights, wanted int) bool {
	for bit := range 64 {
		if wanted>>bit&1 == 1 && rights>>bit&1 == 0 {
			return true
		}
	}
	return false
}

// both is maps and what they should have.
type both struct {
	maps  *space.Maps
	model model
}

func newBoth() *both { return &both{maps: &space.Maps{}} }

// line is one page that maps begin with.
type line struct {
	p api.Page
	f api.Map1
}

func begin(t *testing.T, l ...line) *both {
	t.Helper()
	b := newBoth()
	for _, x := range l {
		b.set(t, x.p, x.f)
	}
	return b
}

// some has several spaces and frames, a frame on several pages with various rights, pages at both ends, and numbers that are a space, a frame and a page in one.
func some(t *testing.T) *both {
	t.Helper()
	return begin(t, line{page(10, 3), to(3, 1)}, line{page(3, 7), to(10, 2)}, line{page(3, 0), to(7, 3)}, line{page(64, 7), to(3, 3)}, line{page(1, 0), to(64, 1)},
		line{page(3, 3), to(3, 2)}, line{page(2, 7), to(1, 3)}, line{page(64, 0), to(64, 2)}, line{page(3, 1), to(7, 1)}, line{page(7, 1), to(2, 3)}, line{page(1, 7), to(3, 1)})
}

// full has each page that there may be; neighbours have frames and rights unlike each other's.
func full(t *testing.T) *both {
	t.Helper()
	b := newBoth()
	for _, p := range scattered() {
		f := to((p.Space*7+p.Page*13)%64+1, 1+(p.Space+p.Page)%3)
		if !b.maps.Set(p, f) || !b.model.set(p, f) {
			t.Fatal("Set", p, f)
		}
	}
	b.check(t, "of all pages")
	return b
}

func (b *both) set(t *testing.T, p api.Page, f api.Map1) bool {
	t.Helper()
	got := b.maps.Set(p, f)
	b.step(t, fmt.Sprintf("Set(%v, %v)", p, f), got, b.model.set(p, f))
	return got
}

func (b *both) clear(t *testing.T, p api.Page) bool {
	t.Helper()
	got := b.maps.Clear(p)
	b.step(t, fmt.Sprintf("Clear(%v)", p), got, b.model.clear(p))
	return got
}

func (b *both) drop(t *testing.T, frame int) int {
	t.Helper()
	got := b.maps.Drop(frame)
	b.step(t, fmt.Sprintf("Drop(%d)", frame), got, b.model.drop(frame))
	return got
}

func (b *both) empty(t *testing.T, space int) int {
	t.Helper()
	got := b.maps.Empty(space)
	b.step(t, fmt.Sprintf("Empty(%d)", space), got, b.model.empty(space))
	return got
}

// step holds an answer, and then all that can be asked, against the model, so that a refused call is seen to change nothing.
func (b *both) step(t *testing.T, what string, got, want any) {
	t.Helper()
	if got != want {
		t.Fatalf("%s: %v, not %v", what, got, want)
	}
	b.check(t, what)
}

// check asks each page that there may be, and those beside them, by each call that tells something of it.
func (b *both) check(t *testing.T, what string) {
	t.Helper()
	if got, want := b.maps.All(), b.model.all(); !slices.Equal(got, want) {
		t.Fatalf("%s: All: %v, not %v", what, got, want)
	}
	for s := range 66 {
		for n := -1; n < 9; n++ {
			p := page(s, n)
			var want cell
			if 1 <= s && s <= 64 && 0 <= n && n < 8 {
				want = b.model[s-1][n]
			}
			if f, is := b.maps.Get(p); is != want.is || f != want.f {
				t.Fatalf("%s: Get(%v): %v, %v, not %+v", what, p, f, is, want)
			}
			if frame, off, is := b.maps.Look(s, uint32(n*512+5), 1, 0); is != want.is || frame != want.f.Frame || is != (off == 5) {
				t.Fatalf("%s: Look at %v: %d, %d, %v, not %+v", what, p, frame, off, is, want)
			}
		}
	}
}

// found is what Look tells.
type found struct {
	frame, off int
	is         bool
}

func told(frame, off int, is bool) found { return found{frame, off, is} }

func (b *both) look(t *testing.T, space int, a uint32, n, rights int) found {
	t.Helper()
	got, want := told(b.maps.Look(space, a, n, rights)), told(b.model.look(space, a, n, rights))
	if got != want {
		t.Fatalf("Look(%d, %#x, %d, %#x): %v, not %v", space, a, n, rights, got, want)
	}
	return got
}

// stays holds the pages that are mapped, and to what, against what is written out: the model could be wrong.
func (b *both) stays(t *testing.T, want string) {
	t.Helper()
	l := b.maps.All()
	var maps []api.Map1
	for _, p := range l {
		f, _ := b.maps.Get(p)
		maps = append(maps, f)
	}
	if got := fmt.Sprint(l, maps); got != want {
		t.Errorf("there are %s, not %s", got, want)
	}
}
