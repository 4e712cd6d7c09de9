package view

import (
	"math"
	"math/big"
	"slices"
	"testing"

	"quincunx/shape"
)

// The document's limits, written out so that the package's own numbers are tested too.
const (
	cells  = 1 << 20
	dims   = 6
	widest = 1 << 20
	last   = 1 << 24
)

// odd are numbers that are no axis, no place and no length of any shape, and no stride.
func odd() []int {
	return []int{-cells - 1, -(1 << 32), -(1<<32 + 1), math.MinInt, math.MinInt + 1, math.MaxInt, math.MaxInt - 1, cells + 1, 1 << 32, 1<<32 + 1, 1 << 62, -(1 << 62)}
}

// of tells a view, its lists as they are handed in.
func of(s shape.Shape, off int, strides ...int) View {
	return View{Shape: s, Strides: strides, Off: off}
}

// same tells whether two views have the same shape, strides and Off.
func same(v, w View) bool {
	return slices.Equal(v.Shape, w.Shape) && slices.Equal(v.Strides, w.Strides) && v.Off == w.Off
}

// copied tells a view in lists of its own.
func copied(v View) View {
	return View{Shape: slices.Clone(v.Shape), Strides: slices.Clone(v.Strides), Off: v.Off}
}

// right tells what the chapter says of which views are right.
func right(v View) bool {
	if len(v.Shape) > dims || len(v.Strides) != len(v.Shape) || v.Off < 0 || v.Off > last {
		return false
	}
	p := big.NewInt(1)
	for i, n := range v.Shape {
		if n < 0 || n > cells || v.Strides[i] < -widest || v.Strides[i] > widest {
			return false
		}
		p.Mul(p, big.NewInt(int64(n)))
	}
	return p.Cmp(big.NewInt(cells)) <= 0
}

// next goes to the next place with the last axis fastest, and tells whether there is one.
func next(s shape.Shape, at []int) bool {
	for i := len(s) - 1; i >= 0; i-- {
		at[i]++
		if at[i] < s[i] {
			return true
		}
		at[i] = 0
	}
	return false
}

// places tells all places of a shape of few cells, in order.
func places(s shape.Shape) [][]int {
	if slices.Contains(s, 0) {
		return nil
	}
	at := make([]int, len(s))
	all := [][]int{slices.Clone(at)}
	for next(s, at) {
		all = append(all, slices.Clone(at))
	}
	return all
}

// stands tells where a place's cell stands, reckoned by going on step by step.
func stands(v View, at []int) int {
	place := v.Off
	for i, n := range at {
		for range n {
			place += v.Strides[i]
		}
	}
	return place
}

// row tells where all cells of a view stand, in order.
func row(v View) []int {
	var l []int
	for _, at := range places(v.Shape) {
		l = append(l, stands(v, at))
	}
	return l
}

// lists tells all lists of just n of the given numbers.
func lists(n int, from ...int) [][]int {
	all := [][]int{{}}
	for range n {
		var longer [][]int
		for _, l := range all {
			for _, x := range from {
				longer = append(longer, append(slices.Clone(l), x))
			}
		}
		all = longer
	}
	return all
}

// few tells views of few cells, all right: of all small shapes and strides of many kinds.
func few() []View {
	all := []View{{}, of(nil, 7), of(shape.Shape{}, last), of(shape.Shape{2, 3}, 2, 3, -1), of(shape.Shape{1, 2, 1, 3, 2, 1}, 9, 5, 6, 0, 2, 1, -4), of(shape.Shape{2, 1, 2, 1, 2}, 30, -8, 77, 4, -9, 1)}
	for n := 1; n <= 3; n++ {
		for _, s := range lists(n, 0, 1, 2, 3) {
			dense := make([]int, n)
			stride := 1
			for i := n - 1; i >= 0; i-- {
				dense[i] = stride
				stride *= max(s[i], 1)
			}
			back, wide, still := slices.Clone(dense), slices.Clone(dense), slices.Clone(dense)
			for i := range dense {
				back[i] = -dense[i]
				wide[i] = 2*dense[i] + i
			}
			still[n/2] = 0
			turned := slices.Clone(dense)
			slices.Reverse(turned)
			for _, l := range [][]int{dense, back, wide, still, turned} {
				all = append(all, of(s, 0, l...), of(s, 40, l...))
			}
		}
	}
	return all
}

// edge tells views that are right at the ends of what may be.
func edge() []View {
	return []View{
		of(shape.Shape{cells}, 0, 1), of(shape.Shape{cells}, last, widest), of(shape.Shape{cells}, last, -widest), of(shape.Shape{cells}, 0, 0),
		of(shape.Shape{1024, 1024}, 0, 1024, 1), of(shape.Shape{1024, 1024}, 5, widest, -widest), of(shape.Shape{0, cells, cells}, last, widest, -widest, widest),
		of(shape.Shape{cells, cells, cells, cells, cells, 0}, 1, widest, widest, widest, widest, widest, widest), of(shape.Shape{cells, cells, 0, cells, cells, cells}, 1, -widest, -widest, -widest, -widest, -widest, -widest),
		of(shape.Shape{1, 1, 1, 1, 1, 1}, last, -widest, widest, 0, 1, -1, 2), of(shape.Shape{16, 16, 16, 16, 16, 1}, 3, 1, 2, 3, 4, 5, 6), of(shape.Shape{1}, 0, widest), of(shape.Shape{0}, last, -widest), of(shape.Shape{2}, 0, -1), of(nil, 0), of(nil, last),
	}
}

// wrong tells views that are not right, each for one cause.
func wrong() []View {
	all := []View{
		of(shape.Shape{2}, 0), of(nil, 0, 1), of(shape.Shape{2, 3}, 0, 1), of(shape.Shape{2, 3}, 0, 6, 3, 1), of(shape.Shape{0}, 0), of(shape.Shape{1}, 0, 1, 1), of(shape.Shape{2}, 0, make([]int, 5000)...),
		of(nil, -1), of(nil, last+1), of(shape.Shape{2}, -1, 1), of(shape.Shape{2}, last+1, -1), of(shape.Shape{0}, -1, 1), of(shape.Shape{2}, math.MinInt, 1), of(shape.Shape{2}, math.MaxInt, 1),
		of(shape.Shape{cells, 2}, 0, 0, 0), of(shape.Shape{1024, 1025}, 0, 0, 0), of(shape.Shape{cells, cells, cells, cells, cells, cells}, 0, 1, 1, 1, 1, 1, 1), of(shape.Shape{2, 16, 16, 16, 16, 16}, 0, 1, 1, 1, 1, 1, 1),
		of(shape.Shape{1, 1, 1, 1, 1, 1, 1}, 0, 1, 1, 1, 1, 1, 1, 1), of(make(shape.Shape, 7), 0, make([]int, 7)...), of(slices.Repeat(shape.Shape{1}, 5000), 0, make([]int, 5000)...), of(slices.Repeat(shape.Shape{1}, 5000), 0),
		of(shape.Shape{-1}, 0, 1), of(shape.Shape{0, -1}, 0, 1, 1), of(shape.Shape{-1, -1}, 0, 1, 1), of(shape.Shape{2, 3}, 0, 3, widest+1), of(shape.Shape{2, 3}, 0, -widest-1, 1),
	}
	for _, n := range odd() {
		all = append(all, of(shape.Shape{n}, 0, 1), of(shape.Shape{0, n}, 0, 1, 1), of(shape.Shape{3}, 0, n), of(shape.Shape{0}, 0, n), of(shape.Shape{1, 1}, 0, 1, n), of(shape.Shape{2, 0}, 0, n, 1), of(shape.Shape{n}, n, n))
		if n < 0 || n > last {
			all = append(all, of(nil, n), of(shape.Shape{3}, n, 1))
		}
	}
	return all
}

// told holds what a call told against what it should; of a view that would not be right it should tell none.
func told(t *testing.T, v View, name string, l []int, got View, ok bool, want View, there bool) {
	t.Helper()
	there = there && right(want)
	if !there {
		want = View{}
	}
	if ok != there || !same(got, want) {
		t.Errorf("%v: %s %v: %v %v, not %v %v", v, name, l, got, ok, want, there)
	}
	if !ok && (got.Shape != nil || got.Strides != nil) {
		t.Errorf("%v: %s %v: lists beside false: %v", v, name, l, got)
	}
}

// from holds each cell of a view against the cell of another one that it should be.
func from(t *testing.T, v, got View, name string, which func(at []int) []int) {
	t.Helper()
	old := row(v)
	for _, at := range places(got.Shape) {
		is, ok := got.Offset(at)
		was, there := v.Offset(which(slices.Clone(at)))
		if !ok || !there || is != was || !slices.Contains(old, is) {
			t.Fatalf("%v: %s: %v: its cell %v stands at %d %v, not at %d %v", v, name, got, at, is, ok, was, there)
		}
	}
}

// P801, P802: which views are right, at both ends of all that may be.
func TestRight(t *testing.T) {
	for _, v := range append(few(), edge()...) {
		if !right(v) || !v.Right() {
			t.Errorf("%v is right", v)
		}
	}
	for _, v := range wrong() {
		if right(v) || v.Right() {
			t.Errorf("%v is not right", v)
		}
	}
	for _, off := range []int{-1, 0, 1, last - 1, last, last + 1} {
		if v := of(shape.Shape{2}, off, 1); v.Right() != (off >= 0 && off <= 1<<24) {
			t.Errorf("%v: %v", v, v.Right())
		}
	}
	for _, stride := range []int{0, 1, widest - 1, widest, widest + 1} {
		for _, n := range []int{0, 1, 2} {
			up, down := of(shape.Shape{n}, 0, stride), of(shape.Shape{n}, 0, -stride)
			if want := stride <= 1<<20; up.Right() != want || down.Right() != want {
				t.Errorf("%v: %v, %v: %v", up, up.Right(), down, down.Right())
			}
		}
	}
}

// P801: a view that is not right has nothing, whatever is asked of it.
func TestWrong(t *testing.T) {
	numbers := append(odd(), -2, -1, 0, 1, 2, 3, 6, 7, cells)
	ats := append(lists(1, -1, 0, 1), nil, []int{0, 0}, make([]int, 6), make([]int, 7), []int{0, 1}, []int{1, 0})
	none := func(v View, name string, got View, ok bool) {
		t.Helper()
		if ok || !same(got, View{}) || got.Shape != nil || got.Strides != nil {
			t.Errorf("%v: %s: %v %v", v, name, got, ok)
		}
	}
	for _, v := range wrong() {
		low, high, some := v.Bounds()
		if some || low != 0 || high != 0 || v.Dense() {
			t.Errorf("%v: Bounds %d %d %v, Dense %v", v, low, high, some, v.Dense())
		}
		for _, at := range ats {
			if place, ok := v.Offset(at); ok || place != 0 {
				t.Errorf("%v: Offset %v: %d %v", v, at, place, ok)
			}
			w, ok := v.Permute(at)
			none(v, "Permute", w, ok)
		}
		for _, s := range []shape.Shape{nil, {}, {0}, {1}, {2}, {3}, {2, 3}, v.Shape} {
			w, ok := v.Reshape(s)
			none(v, "Reshape", w, ok)
		}
		for _, n := range numbers {
			if v.Fits(n) {
				t.Errorf("%v: Fits %d", v, n)
			}
			w, ok := v.Flip(n)
			none(v, "Flip", w, ok)
			for _, axis := range []int{-1, 0, 1} {
				w, ok = v.Slice(axis, 0, n, 1)
				none(v, "Slice", w, ok)
				w, ok = v.Slice(axis, n, 0, 1)
				none(v, "Slice of none", w, ok)
				w, ok = v.Drop(axis, n)
				none(v, "Drop", w, ok)
				w, ok = v.Expand(axis, n)
				none(v, "Expand", w, ok)
				w, ok = v.Window(axis, n)
				none(v, "Window", w, ok)
			}
		}
	}
}

// P802: a shape's own view; none of a shape whose view would not be right.
func TestNew(t *testing.T) {
	for _, v := range few() {
		got, ok := New(v.Shape)
		if !ok || !slices.Equal(got.Shape, v.Shape) || !slices.Equal(got.Strides, v.Shape.Strides()) || got.Off != 0 {
			t.Errorf("%v: %v %v", v.Shape, got, ok)
		}
		for i, place := range row(got) {
			if place != i {
				t.Errorf("%v: the cell %d stands at %d", got, i, place)
			}
		}
	}
	for _, c := range []struct {
		s    shape.Shape
		want []int
	}{
		{nil, nil}, {shape.Shape{}, nil}, {shape.Shape{0}, []int{1}}, {shape.Shape{2, 3}, []int{3, 1}}, {shape.Shape{4, 0, 5}, []int{5, 5, 1}},
		{shape.Shape{cells}, []int{1}}, {shape.Shape{1, cells}, []int{cells, 1}}, {shape.Shape{cells, 1}, []int{1, 1}}, {shape.Shape{0, cells}, []int{cells, 1}}, {shape.Shape{cells, 0, cells, 1}, []int{cells, cells, 1, 1}},
		{shape.Shape{1, 1, 1, 1, 1, 1}, []int{1, 1, 1, 1, 1, 1}}, {shape.Shape{16, 16, 16, 16, 16, 1}, []int{65536, 4096, 256, 16, 1, 1}},
	} {
		if got, ok := New(c.s); !ok || !same(got, View{Shape: c.s, Strides: c.want}) {
			t.Errorf("%v: %v %v", c.s, got, ok)
		}
	}
	bad := []shape.Shape{{0, cells, 2}, {2, 0, cells, cells}, {cells, 2}, {1024, 1025}, {-1}, {0, -1}, {cells + 1}, {1, 1, 1, 1, 1, 1, 1}, make(shape.Shape, 7), slices.Repeat(shape.Shape{1}, 5000), {math.MinInt}, {math.MaxInt, 0}, {math.MaxInt, math.MaxInt}}
	for _, s := range bad {
		if got, ok := New(s); ok || !same(got, View{}) {
			t.Errorf("%v: %v %v", s, got, ok)
		}
	}
}

// P802: where cells stand, the least and the greatest place, and in which rows they all are.
func TestOffsets(t *testing.T) {
	for _, v := range few() {
		all := row(v)
		for i, at := range places(v.Shape) {
			if place, ok := v.Offset(at); !ok || place != all[i] {
				t.Errorf("%v: Offset %v: %d %v, not %d", v, at, place, ok, all[i])
			}
		}
		low, high, some := v.Bounds()
		if len(all) == 0 {
			if some || low != 0 || high != 0 {
				t.Errorf("%v: Bounds %d %d %v", v, low, high, some)
			}
		} else if !some || low != slices.Min(all) || high != slices.Max(all) {
			t.Errorf("%v: Bounds %d %d %v of %v", v, low, high, some, all)
		}
		for n := -3; n <= 130; n++ {
			in := !slices.ContainsFunc(all, func(place int) bool { return place < 0 || place >= n })
			if v.Fits(n) != in {
				t.Errorf("%v: Fits %d: %v", v, n, !in)
			}
		}
		for _, n := range odd() {
			if v.Fits(n) != (len(all) == 0 || n > 0 && slices.Min(all) >= 0 && slices.Max(all) < n) {
				t.Errorf("%v: Fits %d: %v", v, n, v.Fits(n))
			}
		}
	}
}

// P802: the greatest views' places, which pass 32 bits.
func TestFarOffsets(t *testing.T) {
	for _, c := range []struct {
		v         View
		low, high int
	}{
		{of(shape.Shape{cells}, last, widest), last, last + (cells-1)*widest}, {of(shape.Shape{cells}, last, -widest), last - (cells-1)*widest, last}, {of(shape.Shape{cells}, 5, 0), 5, 5},
		{of(shape.Shape{1024, 1024}, 5, widest, -widest), 5 - 1023*widest, 5 + 1023*widest}, {of(shape.Shape{2}, 0, -1), -1, 0}, {of(shape.Shape{1}, 3, widest), 3, 3}, {of(nil, last), last, last}, {of(shape.Shape{2, 3}, 2, 3, -1), 0, 5},
	} {
		low, high, some := c.v.Bounds()
		if low != c.low || high != c.high || !some {
			t.Errorf("%v: Bounds %d %d %v", c.v, low, high, some)
		}
		if c.v.Fits(high) || c.v.Fits(high+1) != (low >= 0) || c.v.Fits(math.MaxInt) != (low >= 0) || c.v.Fits(0) || c.v.Fits(-1) {
			t.Errorf("%v: Fits", c.v)
		}
	}
	v := of(shape.Shape{cells}, last, -widest)
	if place, ok := v.Offset([]int{cells - 1}); !ok || place != last-(cells-1)*widest {
		t.Errorf("%d %v", place, ok)
	}
	for _, v := range edge() {
		some := !slices.Contains(v.Shape, 0)
		if low, high, ok := v.Bounds(); ok != some || !ok && (low != 0 || high != 0) {
			t.Errorf("%v: Bounds %d %d %v", v, low, high, ok)
		}
		if !some && (!v.Fits(0) || !v.Fits(-1) || !v.Fits(math.MinInt) || !v.Fits(math.MaxInt)) {
			t.Errorf("%v fits any row", v)
		}
	}
}

// P802: what is no place has no cell.
func TestNoOffset(t *testing.T) {
	for _, v := range few() {
		for _, n := range append(odd(), -1, 3, 4) {
			for i := range v.Shape {
				at := make([]int, len(v.Shape))
				at[i] = n
				if place, ok := v.Offset(at); ok || place != 0 {
					t.Errorf("%v: Offset %v: %d %v", v, at, place, ok)
				}
			}
		}
		for i, n := range v.Shape {
			at := make([]int, len(v.Shape))
			at[i] = n
			if place, ok := v.Offset(at); ok || place != 0 {
				t.Errorf("%v: Offset %v: %d %v", v, at, place, ok)
			}
		}
		for _, n := range []int{0, 1, 2, 3, 4, 7, 5000} {
			want := n == len(v.Shape) && !slices.Contains(v.Shape, 0)
			if place, ok := v.Offset(make([]int, n)); ok != want || ok && place != v.Off || !ok && place != 0 {
				t.Errorf("%v: Offset of %d numbers: %d %v", v, n, place, ok)
			}
		}
	}
	if place, ok := (View{}).Offset(nil); place != 0 || !ok {
		t.Errorf("no axes: %d %v", place, ok)
	}
}

// The document's example.
func TestExample(t *testing.T) {
	v, ok := New(shape.Shape{2, 3})
	if !ok {
		t.Fatal(v)
	}
	if w, ok := v.Flip(1); !ok || !same(w, of(shape.Shape{2, 3}, 2, 3, -1)) {
		t.Errorf("%v %v", w, ok)
	}
}
