package odo

import (
	"math"
	"slices"
	"testing"

	"quincunx/shape"
	"quincunx/view"
)

// The document's limits, written out so that the package's own numbers are tested too.
const (
	cells  = 1 << 20
	widest = 1 << 20
	last   = 1 << 24
)

// of tells a view, its lists as they are handed in.
func of(s shape.Shape, off int, strides ...int) view.View {
	return view.View{Shape: s, Strides: strides, Off: off}
}

// copied tells a view in lists of its own.
func copied(v view.View) view.View {
	return view.View{Shape: slices.Clone(v.Shape), Strides: slices.Clone(v.Strides), Off: v.Off}
}

// same tells whether two views have the same shape, strides and Off.
func same(v, w view.View) bool {
	return slices.Equal(v.Shape, w.Shape) && slices.Equal(v.Strides, w.Strides) && v.Off == w.Off
}

// lists tells all lists of just n of the given numbers.
func lists(n int, from ...int) [][]int {
	all := [][]int{{}}
	for range n {
		var longer [][]int
		for _, l := range all {
			for _, x := range from {
				longer = append(longer, append(slices.Clone(l), x))
			}
		}
		all = longer
	}
	return all
}

// places tells all places of a shape of few cells, in order: for each number of the first axis those of the others.
func places(s shape.Shape) [][]int {
	if len(s) == 0 {
		return [][]int{{}}
	}
	rest := places(s[1:])
	var all [][]int
	for i := range s[0] {
		for _, at := range rest {
			all = append(all, append([]int{i}, at...))
		}
	}
	return all
}

// row tells where all cells of a view of few cells stand, in order, each one asked of the view.
func row(t *testing.T, v view.View) []int {
	t.Helper()
	var l []int
	for _, at := range places(v.Shape) {
		place, ok := v.Offset(at)
		if !ok {
			t.Fatalf("%v: no cell at %v", v, at)
		}
		l = append(l, place)
	}
	return l
}

// few tells views of few cells, of none to six axes.
func few() []view.View {
	all := []view.View{
		{}, of(nil, 7), of(shape.Shape{}, last, []int{}...), of(shape.Shape{2, 3, 2, 1, 3, 2}, 5, 36, 12, 6, 6, 2, 1), of(shape.Shape{2, 1, 2, 2, 2, 3}, 500, -1, 7, 0, 100, -3, 12), of(shape.Shape{1, 1, 1, 1, 1, 1}, 5, 9, 8, 7, 6, 5, 4),
		of(shape.Shape{0, 0, 0, 0, 0, 0}, 5, 9, 8, 7, 6, 5, 4), of(shape.Shape{2, 2, 2, 2, 2, 0}, 0, 1, 1, 1, 1, 1, 1), of(shape.Shape{0, 2, 2, 2, 2, 2}, 0, 1, 1, 1, 1, 1, 1), of(shape.Shape{40}, 3, -2), of(shape.Shape{5, 7}, 0, 7, 1), of(shape.Shape{5, 7}, 0, 1, 5), of(shape.Shape{2, 3, 4, 5}, 119, -60, -20, -5, -1),
		of(shape.Shape{3}, last, widest), of(shape.Shape{3}, 0, -widest), of(shape.Shape{2, 3}, 9, -widest, widest),
	}
	for n := 1; n <= 3; n++ {
		for _, s := range lists(n, 0, 1, 2, 3) {
			for _, strides := range [][]int{{6, 3, 1}, {1, 2, 9}, {-4, 5, 0}, {0, 0, -1}} {
				all = append(all, of(s, 20, strides[:n]...))
			}
		}
	}
	return all
}

// none tells right views without cells, some of whose sizes would pass int if they were reckoned.
func none() []view.View {
	return []view.View{
		of(shape.Shape{0}, 0, 1), of(shape.Shape{0, 3}, 4, 3, 1), of(shape.Shape{3, 0}, 4, 1, 1), of(shape.Shape{0, cells}, 0, 1, 1), of(shape.Shape{cells, 0}, 0, 1, 1), of(shape.Shape{cells, cells, cells, cells, cells, 0}, 0, 1, 1, 1, 1, 1, 1),
		of(shape.Shape{0, cells, cells, cells, cells, cells}, 0, 1, 1, 1, 1, 1, 1), of(shape.Shape{cells, 0, 1 << 19, 1 << 19, 1 << 5}, 0, 1, 1, 1, 1, 1), of(shape.Shape{cells, cells, cells, 7, 0}, 0, 1, 1, 1, 1, 1),
	}
}

// wrong tells views that are not right, each for one cause, as far as that is so.
func wrong() []view.View {
	return []view.View{
		of(shape.Shape{2}, 0), of(nil, 0, 1), of(shape.Shape{2, 3}, 0, 1), of(shape.Shape{2, 3}, 0, 6, 3, 1), of(shape.Shape{0}, 0), of(shape.Shape{2}, 0, make([]int, 5000)...), of(nil, -1), of(nil, last+1), of(shape.Shape{2}, -1, 1), of(shape.Shape{2}, last+1, -1), of(shape.Shape{0}, -1, 1),
		of(shape.Shape{2}, math.MinInt, 1), of(shape.Shape{2}, math.MaxInt, 1), of(shape.Shape{cells, 2}, 0, 0, 0), of(shape.Shape{1024, 1025}, 0, 0, 0), of(shape.Shape{cells, cells, cells, cells, cells, cells}, 0, 1, 1, 1, 1, 1, 1), of(slices.Repeat(shape.Shape{1}, 7), 0, slices.Repeat([]int{1}, 7)...),
		of(make(shape.Shape, 7), 0, make([]int, 7)...), of(slices.Repeat(shape.Shape{1}, 5000), 0, make([]int, 5000)...), of(shape.Shape{-1}, 0, 1), of(shape.Shape{0, -1}, 0, 1, 1), of(shape.Shape{-1, -1}, 0, 1, 1), of(shape.Shape{-2, -3}, 0, 1, 1), of(shape.Shape{2, 3}, 0, 3, widest+1), of(shape.Shape{2, 3}, 0, -widest-1, 1),
		of(shape.Shape{1 << 32, 1 << 32}, 0, 1, 1), of(shape.Shape{math.MaxInt}, 0, 1), of(shape.Shape{math.MinInt}, 0, 1), of(shape.Shape{2}, 0, math.MinInt), of(shape.Shape{2}, 0, math.MaxInt), of(shape.Shape{cells + 1}, 0, 0), of(shape.Shape{cells + 1, 0}, 0, 0, 0),
	}
}

// empty holds an Odo to have nothing, also when it is asked again.
func empty(t *testing.T, name string, o *Odo) {
	t.Helper()
	for range 3 {
		if n, at := o.Left(), o.At(); n != 0 || len(at) != 0 {
			t.Errorf("%s: Left %d, At %v", name, n, at)
		}
		if place, ok := o.Next(); ok || place != 0 {
			t.Errorf("%s: Next %d %v", name, place, ok)
		}
	}
}

// P902, P904: each cell once, in order, where Offset says; At and Left ahead of, at, and behind each.
func TestNext(t *testing.T) {
	for _, v := range few() {
		o, all, want := New(v), places(v.Shape), row(t, v)
		if at := o.At(); len(at) != 0 || o.Left() != len(all) {
			t.Errorf("%v: ahead of the first: At %v, Left %d", v, at, o.Left())
		}
		for i, at := range all {
			if o.Left() != len(all)-i {
				t.Errorf("%v: ahead of %d: Left %d", v, i, o.Left())
			}
			if place, ok := o.Next(); !ok || place != want[i] {
				t.Fatalf("%v: Next %d: %d %v, not %d", v, i, place, ok, want[i])
			}
			for range 2 {
				if got := o.At(); !slices.Equal(got, at) || o.Left() != len(all)-i-1 {
					t.Fatalf("%v: at %d: At %v, not %v, Left %d", v, i, got, at, o.Left())
				}
			}
		}
		if place, ok := o.Next(); ok || place != 0 {
			t.Errorf("%v: behind the last one: %d %v", v, place, ok)
		}
		empty(t, "behind the last one", o)
	}
}

// P902: the greatest views, whose places pass 32 bits, and the last place of each.
func TestFar(t *testing.T) {
	for _, v := range []view.View{of(shape.Shape{cells}, last, widest), of(shape.Shape{cells}, last, -widest), of(shape.Shape{1024, 1024}, 5, widest, -widest), of(shape.Shape{16, 16, 16, 16, 16, 1}, 0, -widest, 1, 0, widest, 3, 9), of(shape.Shape{1, cells, 1}, 0, 1, widest, 1), of(shape.Shape{cells}, 9, 0)} {
		o, l := New(v), Collect(v)
		if o.Left() != cells || len(l) != cells {
			t.Fatalf("%v: Left %d, Collect of %d", v, o.Left(), len(l))
		}
		i := 0
		for place := range Offsets(v) {
			next, ok := o.Next()
			want, there := v.Offset(o.At())
			if !ok || !there || next != want || place != want || l[i] != want {
				t.Fatalf("%v: %d: Next %d %v, Offsets %d, Collect %d, not %d", v, i, next, ok, place, l[i], want)
			}
			i++
		}
		end := make([]int, len(v.Shape))
		for axis, n := range v.Shape {
			end[axis] = n - 1
		}
		if !slices.Equal(o.At(), end) || i != cells {
			t.Errorf("%v: it ends at %v, with %d cells", v, o.At(), i)
		}
		if place, ok := o.Next(); ok || place != 0 {
			t.Errorf("%v: behind the last one: %d %v", v, place, ok)
		}
		empty(t, "behind the last one", o)
	}
}

// P901: what At tells is its own, and what was handed to New is neither kept nor changed.
func TestAtApart(t *testing.T) {
	v := of(shape.Shape{2, 3, 2}, 9, 6, 2, 1)
	want, all := row(t, v), places(v.Shape)
	asked := copied(v)
	o := New(asked)
	if !same(asked, v) {
		t.Errorf("New changed what it was handed: %v", asked)
	}
	asked.Shape[0], asked.Shape[2], asked.Strides[1], asked.Strides[2] = 0, 9, -5, 77
	var told [][]int
	for i := range want {
		if place, ok := o.Next(); !ok || place != want[i] {
			t.Fatalf("%d: %d %v, not %d", i, place, ok, want[i])
		}
		one, two := o.At(), o.At()
		if cap(one) != len(one) {
			t.Errorf("At %d has room behind it: %d of %d", i, len(one), cap(one))
		}
		one[0], one[2] = 50, -50
		_ = append(two[:1], 8, 8, 8)
		if at := o.At(); !slices.Equal(at, all[i]) {
			t.Errorf("At %d shares what it told: %v", i, at)
		}
		told = append(told, o.At())
	}
	for i, at := range told {
		if !slices.Equal(at, all[i]) {
			t.Errorf("what At told at %d has changed: %v", i, at)
		}
	}
}

// P901: two Odos of one view go on each by itself.
func TestOdosApart(t *testing.T) {
	v := of(shape.Shape{2, 2}, 0, 1, 2)
	a, b := New(v), New(v)
	a.Next()
	a.Next()
	if place, ok := b.Next(); place != 0 || !ok || b.Left() != 3 || a.Left() != 2 || !slices.Equal(a.At(), []int{0, 1}) || !slices.Equal(b.At(), []int{0, 0}) {
		t.Errorf("%d %v: %d %d %v %v", place, ok, a.Left(), b.Left(), a.At(), b.At())
	}
}

// P901: a nil Odo, and one that New did not make; a copy is none that New made, and the one it was copied from goes on.
func TestNotMade(t *testing.T) {
	var nothing *Odo
	empty(t, "nil", nothing)
	empty(t, "zero", &Odo{})
	empty(t, "new", new(Odo))
	o := New(of(shape.Shape{2, 2}, 0, 1, 2))
	o.Next()
	o.Next()
	other := *o
	empty(t, "copy", &other)
	if place, ok := o.Next(); place != 1 || !ok || o.Left() != 1 || !slices.Equal(o.At(), []int{1, 0}) {
		t.Errorf("%d %v, Left %d, At %v", place, ok, o.Left(), o.At())
	}
}

// P901, P902: of a view that is not right, and of one without cells, there are no places; New answers an Odo.
func TestNoPlaces(t *testing.T) {
	for i, v := range append(wrong(), none()...) {
		if v.Right() != (i >= len(wrong())) {
			t.Fatalf("%v: Right %v", v, v.Right())
		}
		o := New(v)
		if o == nil {
			t.Fatalf("%v: New tells no Odo", v)
		}
		empty(t, "no places", o)
		if l := Collect(v); len(l) != 0 {
			t.Errorf("%v: Collect %v", v, l)
		}
		for place := range Offsets(v) {
			t.Fatalf("%v: Offsets yields %d", v, place)
		}
		for a, b := range Pairs(v, v) {
			t.Fatalf("%v: Pairs yields %d %d", v, a, b)
		}
		right := of(v.Shape, 0, make([]int, len(v.Shape))...)
		for a, b := range Pairs(v, right) {
			t.Fatalf("%v: Pairs with %v yields %d %d", v, right, a, b)
		}
		for a, b := range Pairs(right, v) {
			t.Fatalf("%v: Pairs behind %v yields %d %d", v, right, a, b)
		}
	}
	for _, v := range wrong() {
		for axis := -1; axis <= 7; axis++ {
			for w := range Lines(v, axis) {
				t.Fatalf("%v: Lines %d yields %v", v, axis, w)
			}
		}
	}
}

// The document's example.
func TestExample(t *testing.T) {
	v, _ := view.New(shape.Shape{2, 2})
	w, ok := v.Permute([]int{1, 0})
	if got := Collect(w); !ok || !slices.Equal(got, []int{0, 2, 1, 3}) {
		t.Errorf("%v", got)
	}
}
