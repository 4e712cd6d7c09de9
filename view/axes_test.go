package view

import (
	"math"
	"slices"
	"testing"

	"quincunx/shape"
)

// axes are numbers of axes, some of which a view of up to six has.
func axes() []int {
	return append(odd(), -2, -1, 0, 1, 2, 3, 4, 5, 6, 7)
}

// has tells whether a view has such an axis.
func has(v View, axis int) bool {
	return axis >= 0 && axis < len(v.Shape)
}

// sliced tells what Slice should of small numbers, gone through place by place.
func sliced(v View, axis, from, n, step int) (View, bool) {
	if !has(v, axis) || n < 0 {
		return View{}, false
	}
	for i := range n {
		if place := from + i*step; place < 0 || place >= v.Shape[axis] {
			return View{}, false
		}
	}
	w := copied(v)
	if n > 0 {
		w.Off += from * v.Strides[axis]
	}
	w.Shape[axis], w.Strides[axis] = n, step*v.Strides[axis]
	return w, true
}

// P803, P804: n places of each axis, in all ways about its ends.
func TestSlice(t *testing.T) {
	for _, v := range few() {
		for axis := -1; axis <= len(v.Shape); axis++ {
			for from0 := -2; from0 <= 4; from0++ {
				for n := -1; n <= 4; n++ {
					for step := -3; step <= 3; step++ {
						want, there := sliced(v, axis, from0, n, step)
						got, ok := v.Slice(axis, from0, n, step)
						told(t, v, "Slice", []int{axis, from0, n, step}, got, ok, want, there)
						if ok {
							from(t, v, got, "Slice", func(at []int) []int {
								at[axis] = from0 + step*at[axis]
								return at
							})
						}
					}
				}
			}
		}
		for _, axis := range odd() {
			if got, ok := v.Slice(axis, 0, 0, 1); ok || !same(got, View{}) {
				t.Errorf("%v: Slice of %d: %v %v", v, axis, got, ok)
			}
		}
	}
}

// P803: slices at the ends of what may be: of steps, of strides, of Off, of cells, and of int.
func TestSliceEdges(t *testing.T) {
	three, none := of(shape.Shape{3}, 10, 1), of(shape.Shape{0}, 10, 1)
	for _, c := range []struct {
		v                   View
		axis, from, n, step int
		want                View
		ok                  bool
	}{
		{three, 0, math.MaxInt, 0, 1, of(shape.Shape{0}, 10, 1), true}, {three, 0, math.MinInt, 0, -widest, of(shape.Shape{0}, 10, -widest), true}, {none, 0, math.MinInt, 0, widest, of(shape.Shape{0}, 10, widest), true}, {none, 0, 0, 0, 0, of(shape.Shape{0}, 10, 0), true},
		{three, 0, 5, 0, widest + 1, View{}, false}, {three, 0, 0, 0, -widest - 1, View{}, false}, {three, 0, 0, 1, widest + 1, View{}, false}, {three, 0, 0, 1, -widest - 1, View{}, false},
		{three, 0, 2, 1, widest, of(shape.Shape{1}, 12, widest), true}, {three, 0, 2, 1, -widest, of(shape.Shape{1}, 12, -widest), true}, {three, 0, 0, 2, widest, View{}, false}, {three, 0, 2, 2, -widest, View{}, false},
		{of(shape.Shape{3}, 0, 2), 0, 1, 1, widest / 2, of(shape.Shape{1}, 2, widest), true}, {of(shape.Shape{3}, 0, 2), 0, 1, 1, widest/2 + 1, View{}, false}, {of(shape.Shape{3}, 0, 2), 0, 1, 0, widest/2 + 1, View{}, false}, {of(shape.Shape{3}, 0, -2), 0, 0, 0, widest/2 + 1, View{}, false},
		{of(shape.Shape{3}, 0, widest), 0, 0, 3, 1, of(shape.Shape{3}, 0, widest), true}, {of(shape.Shape{3}, 0, widest), 0, 0, 2, 2, View{}, false}, {of(shape.Shape{3}, 0, widest), 0, 0, 1, widest, View{}, false}, {of(shape.Shape{3}, 0, widest), 0, 0, 0, -1, of(shape.Shape{0}, 0, -widest), true},
		{of(shape.Shape{3}, 0, 0), 0, 1, 1, widest, of(shape.Shape{1}, 0, 0), true}, {of(shape.Shape{3}, 0, 0), 0, 1, 1, widest + 1, View{}, false},
		{three, 0, 2, cells, 0, of(shape.Shape{cells}, 12, 0), true}, {three, 0, 2, cells + 1, 0, View{}, false}, {three, 0, 2, math.MaxInt, 0, View{}, false}, {three, 0, 0, math.MaxInt, 1, View{}, false}, {three, 0, 0, math.MinInt, 1, View{}, false}, {three, 0, 0, 1 << 32, 0, View{}, false},
		{of(shape.Shape{2, 3}, 0, 3, 1), 1, 0, cells / 2, 0, of(shape.Shape{2, cells / 2}, 0, 3, 0), true}, {of(shape.Shape{2, 3}, 0, 3, 1), 1, 0, cells/2 + 1, 0, View{}, false},
		{of(shape.Shape{0, 3}, 4, 3, 1), 1, 2, cells, 0, of(shape.Shape{0, cells}, 6, 3, 0), true}, {of(shape.Shape{0, 3}, 4, 3, 1), 1, 2, cells + 1, 0, View{}, false}, {of(shape.Shape{0, 3}, 4, 3, 1), 0, 0, 1, 0, View{}, false},
		{three, 0, math.MaxInt, 2, 1, View{}, false}, {three, 0, math.MinInt, 2, 1, View{}, false}, {three, 0, -1, 1, 1, View{}, false}, {three, 0, -1, 1, 0, View{}, false}, {three, 0, 3, 1, 0, View{}, false}, {three, 0, 1, 2, math.MinInt, View{}, false}, {three, 0, 1, 2, math.MaxInt, View{}, false}, {three, 0, 1, 3, math.MaxInt, View{}, false},
		{of(shape.Shape{cells}, 0, 1), 0, 0, cells, 1, of(shape.Shape{cells}, 0, 1), true}, {of(shape.Shape{cells}, 0, 1), 0, cells - 1, cells, -1, of(shape.Shape{cells}, cells-1, -1), true}, {of(shape.Shape{cells}, 0, 1), 0, 0, 2, cells - 1, of(shape.Shape{2}, 0, cells-1), true}, {of(shape.Shape{cells}, 0, 1), 0, 0, 2, cells, View{}, false}, {of(shape.Shape{cells}, 0, 1), 0, 1, cells, 1, View{}, false}, {of(shape.Shape{cells}, 0, 1), 0, 0, cells, widest, View{}, false},
		{of(shape.Shape{3}, last, 1), 0, 0, 3, 1, of(shape.Shape{3}, last, 1), true}, {of(shape.Shape{3}, last, 1), 0, 1, 1, 1, View{}, false}, {of(shape.Shape{3}, last, 1), 0, 1, 0, 1, of(shape.Shape{0}, last, 1), true}, {of(shape.Shape{3}, last-2, 1), 0, 2, 1, 1, of(shape.Shape{1}, last, 1), true},
		{of(shape.Shape{3}, 0, -1), 0, 0, 3, 1, of(shape.Shape{3}, 0, -1), true}, {of(shape.Shape{3}, 0, -1), 0, 1, 1, 1, View{}, false}, {of(shape.Shape{3}, 1, -1), 0, 1, 2, 1, of(shape.Shape{2}, 0, -1), true}, {of(shape.Shape{0, 3}, 0, 1, -1), 1, 1, 1, 1, View{}, false}, {of(shape.Shape{0, 3}, last, 1, 1), 1, 1, 1, 1, View{}, false}, {of(shape.Shape{0, 3}, 7, 1, -2), 1, 2, 1, 1, of(shape.Shape{0, 1}, 3, 1, -2), true},
		{of(shape.Shape{cells}, 0, widest), 0, cells - 1, 1, 1, View{}, false}, {of(shape.Shape{cells}, 0, widest), 0, 16, 1, 1, of(shape.Shape{1}, last, widest), true}, {of(shape.Shape{cells}, 0, widest), 0, 17, 1, 1, View{}, false}, {of(shape.Shape{cells}, last, -widest), 0, 16, 1, 1, of(shape.Shape{1}, 0, -widest), true},
	} {
		got, ok := c.v.Slice(c.axis, c.from, c.n, c.step)
		if ok != c.ok || !same(got, c.want) {
			t.Errorf("%v: Slice %d %d %d %d: %v %v, not %v", c.v, c.axis, c.from, c.n, c.step, got, ok, c.want)
		}
	}
}

// P803, P804: each axis the other way round, and back.
func TestFlip(t *testing.T) {
	for _, v := range append(few(), edge()...) {
		for _, axis := range axes() {
			there := has(v, axis)
			var want View
			if there {
				want = copied(v)
				want.Off += max(v.Shape[axis]-1, 0) * v.Strides[axis]
				want.Strides[axis] *= -1
			}
			got, ok := v.Flip(axis)
			told(t, v, "Flip", []int{axis}, got, ok, want, there)
			if !ok {
				continue
			}
			if back, ok := got.Flip(axis); !ok || !same(back, v) {
				t.Errorf("%v: flipped twice: %v %v", v, back, ok)
			}
		}
	}
	for _, v := range few() {
		for axis := range v.Shape {
			if got, ok := v.Flip(axis); ok {
				from(t, v, got, "Flip", func(at []int) []int {
					at[axis] = v.Shape[axis] - 1 - at[axis]
					return at
				})
			}
		}
	}
	if got, ok := of(shape.Shape{0}, 9, 4).Flip(0); !ok || got.Off != 9 || got.Strides[0] != -4 {
		t.Errorf("of 0 places: %v %v", got, ok)
	}
	if got, ok := of(shape.Shape{0, 3}, 9, 4, 2).Flip(1); !ok || !same(got, of(shape.Shape{0, 3}, 13, 4, -2)) {
		t.Errorf("beside 0 places: %v %v", got, ok)
	}
}

// P803, P804: axes in another order, of all lists of numbers about those that there are.
func TestPermute(t *testing.T) {
	all := [][]int{nil, {0, 1, 2, 3, 4}, {5, 4, 3, 2, 1, 0}, {1, 2, 3, 4, 5, 0}, {0, 1, 2, 3, 4, 0}, make([]int, 5000), {math.MinInt}, {math.MaxInt}, {1 << 32}, {0, math.MaxInt}, {4, 2, 0, 1, 3}}
	for n := 1; n <= 4; n++ {
		all = append(all, lists(n, -1, 0, 1, 2, 3)...)
	}
	for _, v := range append(few(), edge()...) {
		for _, l := range all {
			there := len(l) == len(v.Shape)
			want := View{Off: v.Off}
			for i, axis := range l {
				if there = there && has(v, axis) && !slices.Contains(l[:i], axis); !there {
					break
				}
				want.Shape, want.Strides = append(want.Shape, v.Shape[axis]), append(want.Strides, v.Strides[axis])
			}
			got, ok := v.Permute(l)
			told(t, v, "Permute", l, got, ok, want, there)
		}
	}
	for _, v := range few() {
		for _, l := range all {
			got, ok := v.Permute(l)
			if !ok {
				continue
			}
			from(t, v, got, "Permute", func(at []int) []int {
				was := make([]int, len(at))
				for i, axis := range l {
					was[axis] = at[i]
				}
				return was
			})
		}
	}
}

// P803, P804: without each axis, at each of its places and at those that there are not.
func TestDrop(t *testing.T) {
	for _, v := range append(few(), edge()...) {
		for _, axis := range axes() {
			for _, at := range append(odd(), -2, -1, 0, 1, 2, 3, 4, 16, 17, cells-1, cells) {
				there := has(v, axis) && at >= 0 && at < v.Shape[axis]
				var want View
				if there {
					want = copied(v)
					want.Off += at * v.Strides[axis]
					want.Shape, want.Strides = slices.Delete(want.Shape, axis, axis+1), slices.Delete(want.Strides, axis, axis+1)
				}
				got, ok := v.Drop(axis, at)
				told(t, v, "Drop", []int{axis, at}, got, ok, want, there)
			}
		}
	}
	for _, v := range few() {
		for axis, n := range v.Shape {
			for place := range n {
				if got, ok := v.Drop(axis, place); ok {
					from(t, v, got, "Drop", func(at []int) []int { return slices.Insert(at, axis, place) })
				}
			}
		}
	}
	if got, ok := of(shape.Shape{0, 3}, 9, 4, 2).Drop(1, 2); !ok || !same(got, of(shape.Shape{0}, 13, 4)) {
		t.Errorf("beside 0 places: %v %v", got, ok)
	}
	if got, ok := of(shape.Shape{0, 3}, last, 4, 2).Drop(1, 2); ok || !same(got, View{}) {
		t.Errorf("beside 0 places, too far: %v %v", got, ok)
	}
}

// P803, P804: one more axis anywhere, all of whose places are the same cells.
func TestExpand(t *testing.T) {
	for _, v := range append(few(), edge()...) {
		for _, axis := range axes() {
			for _, n := range append(odd(), -1, 0, 1, 2, 3, cells/2, cells/2+1, cells) {
				there := axis >= 0 && axis <= len(v.Shape)
				var want View
				if there {
					want = copied(v)
					want.Shape, want.Strides = slices.Insert(want.Shape, axis, n), slices.Insert(want.Strides, axis, 0)
				}
				got, ok := v.Expand(axis, n)
				told(t, v, "Expand", []int{axis, n}, got, ok, want, there)
			}
		}
	}
	for _, v := range few() {
		for axis := range len(v.Shape) + 1 {
			if got, ok := v.Expand(axis, 3); ok {
				from(t, v, got, "Expand", func(at []int) []int { return slices.Delete(at, axis, axis+1) })
			}
		}
	}
}

// P803, P804: all rows of a width, at least 1 and at most the axis's length.
func TestWindow(t *testing.T) {
	for _, v := range append(few(), edge()...) {
		for _, axis := range axes() {
			for _, width := range append(odd(), -1, 0, 1, 2, 3, 4, 16, 1024, cells-1, cells) {
				there := has(v, axis) && width >= 1 && width <= v.Shape[axis]
				var want View
				if there {
					want = copied(v)
					want.Shape[axis] -= width - 1
					want.Shape, want.Strides = slices.Insert(want.Shape, axis+1, width), slices.Insert(want.Strides, axis+1, v.Strides[axis])
				}
				got, ok := v.Window(axis, width)
				told(t, v, "Window", []int{axis, width}, got, ok, want, there)
			}
		}
	}
	for _, v := range few() {
		for axis, n := range v.Shape {
			for width := 1; width <= n; width++ {
				if got, ok := v.Window(axis, width); ok {
					from(t, v, got, "Window", func(at []int) []int {
						at[axis] += at[axis+1]
						return slices.Delete(at, axis+1, axis+2)
					})
				}
			}
		}
	}
	many := of(shape.Shape{1536}, 0, 1)
	if got, ok := many.Window(0, 768); !ok || !same(got, of(shape.Shape{769, 768}, 0, 1, 1)) {
		t.Errorf("%v %v", got, ok)
	}
	if got, ok := of(shape.Shape{2048}, 0, 1).Window(0, 1024); ok || !same(got, View{}) {
		t.Errorf("1025 rows of 1024 are too many: %v %v", got, ok)
	}
	if got, ok := of(shape.Shape{2047}, 0, 1).Window(0, 1024); !ok || !same(got, of(shape.Shape{1024, 1024}, 0, 1, 1)) {
		t.Errorf("1024 rows of 1024: %v %v", got, ok)
	}
	if got, ok := of(shape.Shape{0, 5}, 3, 5, -1).Window(1, 2); !ok || !same(got, of(shape.Shape{0, 4, 2}, 3, 5, -1, -1)) {
		t.Errorf("beside 0 places: %v %v", got, ok)
	}
}

// follow tells whether the cells of a view stand one behind the other, gone through one by one.
func follow(v View) bool {
	l := row(v)
	for i, place := range l {
		if place != l[0]+i {
			return false
		}
	}
	return true
}

// P803: which views' cells stand one behind the other.
func TestDense(t *testing.T) {
	for _, v := range few() {
		if v.Dense() != follow(v) {
			t.Errorf("%v: Dense %v", v, v.Dense())
		}
	}
	for _, s := range [][]int{{1, 2}, {2, 1}, {2, 2}, {1, 1}, {3, 0}, {2, 1, 2}, {1, 3, 2}, {2, 2, 2}} {
		for _, strides := range lists(len(s), -2, -1, 0, 1, 2, 3, 4) {
			v := of(s, 100, strides...)
			if v.Dense() != follow(v) {
				t.Errorf("%v: Dense %v", v, v.Dense())
			}
		}
	}
	for _, c := range []struct {
		v    View
		want bool
	}{
		{of(shape.Shape{cells}, last, 1), true}, {of(shape.Shape{cells}, 0, 2), false}, {of(shape.Shape{1024, 1024}, 0, 1024, 1), true}, {of(shape.Shape{1024, 1024}, 0, 1, 1024), false}, {of(shape.Shape{1, cells, 1}, 0, -7, 1, widest), true},
		{of(shape.Shape{0, cells, cells}, 0, 5, 6, 7), true}, {of(shape.Shape{cells, cells, 0, 2}, 9, 0, 0, 0, 0), true}, {of(nil, 5), true}, {of(shape.Shape{1, 1, 1, 1, 1, 1}, 5, 9, 8, 7, 6, 5, 4), true}, {of(shape.Shape{2}, 5, -1), false}, {of(shape.Shape{2}, 5, 0), false},
	} {
		if c.v.Dense() != c.want {
			t.Errorf("%v: Dense %v", c.v, !c.want)
		}
	}
}

// P803, P804: dense views as other shapes of as many cells: the same cells in the same order.
func TestReshape(t *testing.T) {
	shapes := []shape.Shape{nil, {cells}, {1, cells}, {1024, 1024}, {0, cells}, {0, cells, 2}, {0, cells, cells}, {0, 1, 5}, {2, 2, 2}, {3, 2, 3}, {1, 1, 1, 1, 1, 1}, {1, 1, 1, 1, 1, 1, 1}, {1, 1, 1, 2, 1, 3}, {-1}, {-2, -3}, {math.MaxInt}, {math.MinInt, 0}, {12}, {4, 3}, make(shape.Shape, 5000), {1 << 32, 1 << 32}, {2, 2, 2, 2, 2}}
	for n := 1; n <= 3; n++ {
		for _, l := range lists(n, 0, 1, 2, 3) {
			shapes = append(shapes, l)
		}
	}
	for _, v := range append(few(), edge()...) {
		dense := v.Dense()
		for _, s := range shapes {
			want, there := New(s)
			want.Off = v.Off
			have, _ := v.Shape.Size(cells)
			ask, _ := s.Size(cells)
			got, ok := v.Reshape(s)
			told(t, v, "Reshape", s, got, ok, want, there && dense && have == ask)
			if ok && same(got, want) && have < 100 && !slices.Equal(row(got), row(v)) {
				t.Errorf("%v: Reshape %v: its cells stand at %v", v, s, row(got))
			}
		}
	}
	for _, c := range []struct {
		v    View
		s    shape.Shape
		want View
	}{
		{of(shape.Shape{2, 3}, 9, 3, 1), shape.Shape{3, 2}, of(shape.Shape{3, 2}, 9, 2, 1)}, {of(shape.Shape{6}, 9, 1), shape.Shape{1, 6, 1}, of(shape.Shape{1, 6, 1}, 9, 6, 1, 1)}, {of(shape.Shape{1, 1}, last, -5, 0), nil, of(nil, last)}, {of(nil, 3), shape.Shape{1, 1}, of(shape.Shape{1, 1}, 3, 1, 1)},
		{of(shape.Shape{1, 3}, 0, 77, 1), shape.Shape{1, 3}, of(shape.Shape{1, 3}, 0, 3, 1)}, {of(shape.Shape{0, 2}, 4, 9, -9), shape.Shape{3, 0, 2}, of(shape.Shape{3, 0, 2}, 4, 2, 2, 1)}, {of(shape.Shape{0}, last, 0), shape.Shape{0, cells}, of(shape.Shape{0, cells}, last, cells, 1)},
	} {
		if got, ok := c.v.Reshape(c.s); !ok || !same(got, c.want) {
			t.Errorf("%v: Reshape %v: %v %v, not %v", c.v, c.s, got, ok, c.want)
		}
	}
	for _, v := range []View{of(shape.Shape{2, 3}, 9, 1, 2), of(shape.Shape{6}, 9, -1), of(shape.Shape{6}, 9, 0), of(shape.Shape{6}, 9, 2)} {
		if got, ok := v.Reshape(shape.Shape{6}); ok || !same(got, View{}) {
			t.Errorf("%v is not dense: %v %v", v, got, ok)
		}
	}
}

// P804: many changes, one after the other: each cell is one of those that were there at first.
func TestMany(t *testing.T) {
	for _, s := range []shape.Shape{{4, 3}, {2, 3, 2}, {12}, {1, 6, 2}} {
		v, ok := New(s)
		if !ok {
			t.Fatal(s)
		}
		round := []View{v}
		for range 3 {
			var more []View
			for _, w := range round {
				for _, got := range changes(w) {
					if low, high, some := got.Bounds(); some && (low < 0 || high >= 12) || !got.Fits(12) || !got.Right() {
						t.Fatalf("%v: %v: %d %d", w, got, low, high)
					}
					more = append(more, got)
				}
			}
			round = more
			if len(round) > 4000 {
				round = round[:4000]
			}
		}
	}
}

// changes tells some views of a view's cells, one or more of each kind.
func changes(v View) []View {
	var all []View
	add := func(w View, ok bool) {
		if ok {
			all = append(all, w)
		}
	}
	for axis, n := range v.Shape {
		add(v.Flip(axis))
		add(v.Slice(axis, n-1, (n+1)/2, -2))
		add(v.Window(axis, 2))
		add(v.Drop(axis, n/2))
		add(v.Expand(axis, 2))
	}
	back := make([]int, len(v.Shape))
	for i := range back {
		back[i] = len(back) - 1 - i
	}
	add(v.Permute(back))
	add(v.Reshape(shape.Shape{3, 4}))
	return all
}

// roomy tells numbers with room behind them, and a function that tells whether they and the room are as they were.
func roomy(l []int) ([]int, func() bool) {
	all := append(append(make([]int, 0, len(l)+9), l...), 70, 71, 72, 73, 74, 75, 76, 77, 78)
	was := slices.Clone(all)
	return all[:len(l)], func() bool { return slices.Equal(all, was) }
}

// spoil changes all of a view's lists, one after the other, and of the room behind them; false, where they share any of it.
func spoil(v View) bool {
	s, l := v.Shape[:cap(v.Shape)], v.Strides[:cap(v.Strides)]
	for i := range s {
		s[i] = -99
	}
	for i := range l {
		l[i] = -98
	}
	return !slices.Contains(s, -98)
}

// P801: nothing that is handed in is changed or kept, nor the room behind it, and no answers share anything.
func TestApart(t *testing.T) {
	for _, v := range []View{{}, of(nil, 3), of(shape.Shape{3}, 5, 1), of(shape.Shape{2, 3}, 0, 3, 1), of(shape.Shape{2, 3}, 9, 3, -2), of(shape.Shape{2, 0, 1}, 9, 3, -2, 1), of(shape.Shape{1, 2, 1, 2, 1}, 9, 4, 2, 2, 1, 1), of(shape.Shape{2, 2, 2, 2, 2, 2}, 0, 32, 16, 8, 4, 2, 1), of(shape.Shape{-1}, 0, 1), of(shape.Shape{2}, 0), of(shape.Shape{1, 1, 1, 1, 1, 1, 1}, 0, 1, 1, 1, 1, 1, 1, 1)} {
		back := make([]int, len(v.Shape))
		for i := range back {
			back[i] = len(back) - 1 - i
		}
		kept(t, v, "New", v.Shape, func(_ View, l []int) (View, bool) { return New(l) })
		kept(t, v, "Permute", back, func(v View, l []int) (View, bool) { return v.Permute(l) })
		kept(t, v, "Reshape", v.Shape, func(v View, l []int) (View, bool) { return v.Reshape(l) })
		for _, i := range []int{-1, 0, 1, 2, 5, 6, 7} {
			kept(t, v, "Slice", nil, func(v View, _ []int) (View, bool) { return v.Slice(i, 0, 1, 1) })
			kept(t, v, "Slice of none", nil, func(v View, _ []int) (View, bool) { return v.Slice(i, 9, 0, 2) })
			kept(t, v, "Flip", nil, func(v View, _ []int) (View, bool) { return v.Flip(i) })
			kept(t, v, "Drop", nil, func(v View, _ []int) (View, bool) { return v.Drop(i, 0) })
			kept(t, v, "Expand", nil, func(v View, _ []int) (View, bool) { return v.Expand(i, 2) })
			kept(t, v, "Window", nil, func(v View, _ []int) (View, bool) { return v.Window(i, 1) })
		}
		kept(t, v, "the others", make([]int, len(v.Shape)), func(v View, l []int) (View, bool) {
			place, ok := v.Offset(l)
			v.Bounds()
			v.Fits(9)
			v.Dense()
			v.Right()
			return View{Off: place}, ok
		})
	}
}

// kept tells whether a call, asked twice, tells the same, though its first answer is spoiled, and whether what it was handed is as it was.
func kept(t *testing.T, v View, name string, l []int, call func(v View, l []int) (View, bool)) {
	t.Helper()
	s, shapeIs := roomy(v.Shape)
	strides, stridesAre := roomy(v.Strides)
	l, listIs := roomy(l)
	v = View{Shape: s, Strides: strides, Off: v.Off}
	a, _ := call(v, l)
	b, _ := call(v, l)
	was := copied(b)
	if !spoil(a) {
		t.Errorf("%v: %s: the lists of its answer share memory", v, name)
	}
	if !same(b, was) {
		t.Errorf("%v: %s: two answers share memory", v, name)
	}
	spoil(b)
	if !shapeIs() || !stridesAre() || !listIs() {
		t.Errorf("%v: %s changed what it was handed, or its answer shares it", v, name)
	}
	if c, _ := call(v, l); !same(c, was) {
		t.Errorf("%v: %s: the answer hangs on an earlier one", v, name)
	}
}
