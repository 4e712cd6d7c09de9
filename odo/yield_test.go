package odo

import (
	"iter"
	"math"
	"slices"
	"sync"
	"testing"

	"quincunx/shape"
	"quincunx/view"
)

// again holds a sequence to yield just that, whole and anew each time, and to stop when it is told to.
func again[T any](t *testing.T, name string, seq iter.Seq[T], want []T, equal func(a, b T) bool) {
	t.Helper()
	for stop := range len(want) + 2 {
		var got []T
		seq(func(x T) bool {
			got = append(got, x)
			return len(got) != stop
		})
		most := len(want)
		if stop > 0 {
			most = min(stop, most)
		}
		if !slices.EqualFunc(got, want[:most], equal) {
			t.Fatalf("%s: told to stop at %d: %v of %v", name, stop, got, want)
		}
	}
}

// alike tells whether two numbers are the same.
func alike(a, b int) bool {
	return a == b
}

// P903, P904: all cells, in order, as many times as they are asked for.
func TestOffsets(t *testing.T) {
	for _, v := range append(few(), none()...) {
		want := []int{}
		if !slices.Contains(v.Shape, 0) {
			want = row(t, v)
		}
		if got := Collect(v); !slices.Equal(got, want) {
			t.Errorf("%v: Collect %v, not %v", v, got, want)
		}
		again(t, "Offsets", Offsets(v), want, alike)
	}
}

// P903: a sequence that is ranged over within itself, and by several at once, begins anew for each.
func TestOffsetsWithin(t *testing.T) {
	seq, want := Offsets(of(shape.Shape{2, 3}, 4, 1, 2)), []int{4, 6, 8, 5, 7, 9}
	i := 0
	for a := range seq {
		var inner []int
		for b := range seq {
			inner = append(inner, b)
		}
		if a != want[i] || !slices.Equal(inner, want) {
			t.Errorf("%d: %d, within it %v", i, a, inner)
		}
		i++
	}
	var all sync.WaitGroup
	for range 8 {
		all.Go(func() {
			if got := slices.Collect(seq); !slices.Equal(got, want) {
				t.Errorf("at once: %v", got)
			}
		})
	}
	all.Wait()
	if i != len(want) {
		t.Errorf("%d of %d", i, len(want))
	}
}

// P901: nothing that is handed in is changed, nor shared with what Collect tells.
func TestCollectApart(t *testing.T) {
	v := of(shape.Shape{2, 2}, 3, 1, 2)
	was, want := copied(v), []int{3, 5, 4, 6}
	a, b := Collect(v), Collect(v)
	for i := range a {
		a[i] = -1
	}
	if !slices.Equal(b, want) || !slices.Equal(Collect(v), want) || !same(v, was) {
		t.Errorf("%v %v %v", b, Collect(v), v)
	}
}

// P903: both places of each cell of two views with the same shape, whichever way they lie.
func TestPairs(t *testing.T) {
	type pair struct{ a, b int }
	for _, v := range few() {
		for _, strides := range [][]int{{5, 1, -3, 0, 7, 2}, {0, 0, 0, 0, 0, 0}, {-1, 30, 4, 2, -2, 1}} {
			w := of(slices.Clone(v.Shape), 77, strides[:len(v.Shape)]...)
			var want []pair
			other := row(t, w)
			for i, place := range row(t, v) {
				want = append(want, pair{place, other[i]})
			}
			var seq iter.Seq[pair] = func(yield func(pair) bool) {
				Pairs(v, w)(func(a, b int) bool { return yield(pair{a, b}) })
			}
			again(t, "Pairs", seq, want, func(a, b pair) bool { return a == b })
		}
	}
	seq := Pairs(of(shape.Shape{2, 2}, 0, 2, 1), of(shape.Shape{2, 2}, 9, 1, 2))
	want := []int{0, 9, 1, 11, 2, 10, 3, 12}
	for range 3 {
		var got []int
		for a, b := range seq {
			var inner []int
			for c, d := range seq {
				inner = append(inner, c, d)
			}
			got = append(got, a, b)
			if !slices.Equal(inner, want) {
				t.Errorf("within itself: %v", inner)
			}
		}
		if !slices.Equal(got, want) {
			t.Errorf("%v", got)
		}
	}
}

// P903: of views with other shapes there are no pairs, also where they have as many cells.
func TestNoPairs(t *testing.T) {
	all := []shape.Shape{nil, {1}, {1, 1}, {2}, {2, 1}, {1, 2}, {6}, {2, 3}, {3, 2}, {1, 6}, {6, 1}, {2, 3, 1}, {0}, {0, 2}, {2, 0}, {4}, {2, 2}}
	for i, s := range all {
		for k, r := range all {
			a, _ := view.New(s)
			b, _ := view.New(r)
			n := 0
			for x, y := range Pairs(a, b) {
				n++
				if x != y {
					t.Errorf("%v %v: %d %d", s, r, x, y)
				}
			}
			want := 0
			if i == k {
				want = len(Collect(a))
			}
			if n != want {
				t.Errorf("%v %v: %d pairs, not %d", s, r, n, want)
			}
		}
	}
}

// lines tells what Lines should of an axis that there is, reckoned from the strides.
func lines(v view.View, axis int) []view.View {
	var all []view.View
	for _, at := range places(slices.Delete(slices.Clone(v.Shape), axis, axis+1)) {
		off := v.Off
		for i, n := range slices.Insert(at, axis, 0) {
			off += n * v.Strides[i]
		}
		all = append(all, of(shape.Shape{v.Shape[axis]}, off, v.Strides[axis]))
	}
	return all
}

// P903: each axis alone, at each place of the others, also of one without places.
func TestLines(t *testing.T) {
	for _, v := range few() {
		was := copied(v)
		for axis := range v.Shape {
			again(t, "Lines", Lines(v, axis), lines(v, axis), same)
		}
		if !same(v, was) {
			t.Errorf("%v was %v", v, was)
		}
		for _, axis := range []int{-1, -2, len(v.Shape), len(v.Shape) + 1, 6, math.MinInt, math.MaxInt, 1 << 32, -(1 << 32)} {
			for w := range Lines(v, axis) {
				t.Errorf("%v: Lines %d yields %v", v, axis, w)
			}
		}
	}
}

// P904: all lines together have each cell once.
func TestLinesWhole(t *testing.T) {
	for _, v := range few() {
		want := slices.Sorted(Offsets(v))
		for axis, n := range v.Shape {
			var got []int
			for w := range Lines(v, axis) {
				if len(w.Shape) != 1 || w.Shape[0] != n {
					t.Errorf("%v: Lines %d yields %v", v, axis, w)
				}
				for i := range n {
					got = append(got, w.Off+i*w.Strides[0])
				}
			}
			slices.Sort(got)
			if !slices.Equal(got, want) {
				t.Errorf("%v: Lines %d have %v, not %v", v, axis, got, want)
			}
		}
	}
}

// P903: lines that are not right, as they begin ahead of the row or too far off, come too.
func TestLinesWrong(t *testing.T) {
	for _, c := range []struct {
		v    view.View
		axis int
		want []view.View
	}{
		{of(shape.Shape{2, 2}, 0, -1, 5), 1, []view.View{of(shape.Shape{2}, 0, 5), of(shape.Shape{2}, -1, 5)}},
		{of(shape.Shape{3, 2}, last, 1, -5), 1, []view.View{of(shape.Shape{2}, last, -5), of(shape.Shape{2}, last+1, -5), of(shape.Shape{2}, last+2, -5)}},
		{of(shape.Shape{2, 3}, 4, 1, -widest), 0, []view.View{of(shape.Shape{2}, 4, 1), of(shape.Shape{2}, 4-widest, 1), of(shape.Shape{2}, 4-2*widest, 1)}},
		{of(shape.Shape{2, 0}, 0, -3, 7), 1, []view.View{of(shape.Shape{0}, 0, 7), of(shape.Shape{0}, -3, 7)}},
		{of(shape.Shape{5}, 3, -2), 0, []view.View{of(shape.Shape{5}, 3, -2)}},
		{of(shape.Shape{0}, 3, -2), 0, []view.View{of(shape.Shape{0}, 3, -2)}},
	} {
		again(t, "Lines", Lines(c.v, c.axis), c.want, same)
	}
}

// P903: where the others have as many places as may be, or more; those of an axis of no places alone can have more.
func TestLinesMany(t *testing.T) {
	for _, c := range []struct {
		v          view.View
		axis, want int
	}{
		{of(shape.Shape{0, cells}, 5, 1, 2), 0, cells}, {of(shape.Shape{cells, 0}, 5, 2, 1), 1, cells}, {of(shape.Shape{1024, 0, 1024}, 5, 2048, 1, 2), 1, cells}, {of(shape.Shape{cells, 1}, 5, 2, 1), 1, cells}, {of(shape.Shape{cells}, 5, 2), 0, 1},
		{of(shape.Shape{0, cells, 2}, 5, 1, 2, 3), 0, 0}, {of(shape.Shape{1024, 0, 1025}, 5, 2, 1, 2), 1, 0}, {of(shape.Shape{cells, cells, cells, 0, cells, cells}, 5, 1, 1, 1, 1, 1, 1), 3, 0}, {of(shape.Shape{1 << 16, 1 << 16, 1 << 16, 1 << 16, 0}, 5, 1, 1, 1, 1, 1), 4, 0}, {of(shape.Shape{cells, 0, cells, cells, 1 << 4}, 5, 1, 1, 1, 1, 1), 1, 0},
		{of(shape.Shape{0, cells, cells}, 5, 1, 2, 3), 1, 0}, {of(shape.Shape{0, cells}, 5, 1, 2), 1, 0}, {of(shape.Shape{0, 0}, 5, 1, 2), 0, 0}, {of(shape.Shape{0, cells, 0, cells}, 5, 1, 2, 3, 4), 2, 0},
	} {
		if !c.v.Right() {
			t.Fatalf("%v is right", c.v)
		}
		n := 0
		for w := range Lines(c.v, c.axis) {
			if !same(w, of(shape.Shape{c.v.Shape[c.axis]}, 5+2*n, c.v.Strides[c.axis])) {
				t.Fatalf("%v: Lines %d yields %v as its line %d", c.v, c.axis, w, n)
			}
			n++
		}
		if n != c.want {
			t.Errorf("%v: Lines %d yields %d, not %d", c.v, c.axis, n, c.want)
		}
	}
}

// P901: each line is its own: what is done to one changes neither the view nor another line.
func TestLinesApart(t *testing.T) {
	v := of(shape.Shape{2, 3, 2}, 4, 6, 2, 1)
	was := copied(v)
	for axis := range v.Shape {
		want := lines(was, axis)
		seq := Lines(v, axis)
		for range 2 {
			var all []view.View
			i := 0
			for w := range seq {
				if !same(w, want[i]) {
					t.Fatalf("%v: Lines %d yields %v, not %v", v, axis, w, want[i])
				}
				all = append(all, copied(w))
				w.Shape[0], w.Strides[0] = 9, -9
				_, _ = append(w.Shape, 8), append(w.Strides, 8)
				i++
			}
			if i != len(want) || !slices.EqualFunc(all, want, same) || !same(v, was) {
				t.Errorf("%v: Lines %d: %v", v, axis, all)
			}
		}
		kept := slices.Collect(seq)
		kept[0].Shape[0], kept[0].Strides[0] = 9, -9
		if kept[0].Strides[0] != -9 || kept[0].Shape[0] != 9 || !slices.EqualFunc(kept[1:], want[1:], same) || !same(v, was) {
			t.Errorf("%v: Lines %d share: %v", v, axis, kept)
		}
	}
}
