package move

import (
	"math"
	"slices"
	"testing"

	"quincunx/api"
	"quincunx/buf"
	"quincunx/shape"
	"quincunx/view"
)

// The document's limits, written out so that the package's own numbers are tested too.
const (
	limit  = 1 << 20
	widest = 1 << 20
	last   = 1 << 24
)

// of tells a view, its lists as they are handed in.
func of(s shape.Shape, off int, strides ...int) view.View {
	return view.View{Shape: s, Strides: strides, Off: off}
}

// is tells a cell that has a number.
func is(v int64) buf.Cell {
	return buf.Cell{V: v, OK: true}
}

// cells tells n cells without an order to be seen, others for each seed, missing ones among them.
func cells(n int, seed uint64) []buf.Cell {
	l := make([]buf.Cell, n)
	for i := range l {
		seed = seed*6364136223846793005 + 1442695040888963407
		if seed>>62 != 0 {
			l[i] = is(int64(seed>>33) - 1<<30)
		}
	}
	return l
}

// lists tells all lists of just n of the given numbers.
func lists(n int, from ...int) [][]int {
	all := [][]int{{}}
	for range n {
		var longer [][]int
		for _, l := range all {
			for _, x := range from {
				longer = append(longer, append(slices.Clone(l), x))
			}
		}
		all = longer
	}
	return all
}

// few tells views of few cells, of none to six axes, all of them in a row, from 0 on.
func few() []view.View {
	all := []view.View{
		{}, of(nil, 7), of(shape.Shape{2, 3, 2, 1, 3, 2}, 5, 36, 12, 6, 6, 2, 1), of(shape.Shape{2, 1, 2, 2, 2, 3}, 500, -1, 7, 0, 100, -3, 12), of(shape.Shape{1, 1, 1, 1, 1, 1}, 5, 9, 8, 7, 6, 5, 4), of(shape.Shape{5, 7}, 0, 7, 1), of(shape.Shape{5, 7}, 0, 1, 5),
		of(shape.Shape{2, 3, 4, 5}, 119, -60, -20, -5, -1), of(shape.Shape{40}, 80, -2), of(shape.Shape{70}, 0, 3), of(shape.Shape{9, 9}, 0, 1, 1), of(shape.Shape{64, 2}, 64, -1, 1), of(shape.Shape{65}, 0, 0),
		of(shape.Shape{0}, last, widest), of(shape.Shape{0, 3}, 4, 3, 1), of(shape.Shape{limit, limit, 0}, 9, 1, 1, 1), of(shape.Shape{0, limit, limit, limit, limit, limit}, 0, 1, 1, 1, 1, 1, 1),
	}
	for n := 1; n <= 3; n++ {
		for _, s := range lists(n, 0, 1, 2, 3) {
			for _, strides := range [][]int{{6, 3, 1}, {1, 2, 9}, {-4, 5, 0}, {0, 0, -1}, {1, 1, -1}} {
				all = append(all, of(s, 20, strides[:n]...))
			}
		}
	}
	return all
}

// wrong tells views that are not right, whose cells would all be in a row of few, as far as they have any.
func wrong() []view.View {
	return []view.View{
		of(shape.Shape{2}, 0), of(nil, 0, 1), of(shape.Shape{2, 3}, 0, 1), of(shape.Shape{2, 3}, 0, 3, 1, 1), of(shape.Shape{0}, 0), of(nil, -1), of(nil, last+1), of(nil, math.MinInt), of(nil, math.MaxInt), of(shape.Shape{0}, -1, 1), of(shape.Shape{0}, last+1, 1),
		of(shape.Shape{-1}, 0, 1), of(shape.Shape{0, -1}, 0, 1, 1), of(shape.Shape{-1, -1}, 0, 1, 1), of(shape.Shape{math.MinInt}, 0, 1), of(shape.Shape{math.MaxInt}, 0, 0), of(shape.Shape{limit + 1}, 0, 0), of(shape.Shape{limit, 2}, 0, 0, 0), of(shape.Shape{limit + 1, 0}, 0, 0, 0), of(shape.Shape{1 << 32, 1 << 32}, 0, 0, 0),
		of(shape.Shape{1}, 0, widest+1), of(shape.Shape{1}, 0, -widest-1), of(shape.Shape{0}, 0, math.MaxInt), of(shape.Shape{1}, 0, math.MinInt), of(slices.Repeat(shape.Shape{1}, 7), 0, make([]int, 7)...), of(make(shape.Shape, 7), 0, make([]int, 7)...), of(slices.Repeat(shape.Shape{1}, 5000), 0, make([]int, 5000)...),
	}
}

// places tells where the cells of a view of few cells stand, in order, reckoned axis by axis.
func places(v view.View) []int {
	if slices.Contains(v.Shape, 0) {
		return nil
	}
	l := []int{v.Off}
	for axis, n := range v.Shape {
		var longer []int
		for _, place := range l {
			for i := range n {
				longer = append(longer, place+i*v.Strides[axis])
			}
		}
		l = longer
	}
	return l
}

// room tells how many cells a row has that is just long enough for these places.
func room(places []int) int {
	n := 0
	for _, place := range places {
		n = max(n, place+1)
	}
	return n
}

// taken tells the cells of a list at some places.
func taken(l []buf.Cell, places []int) []buf.Cell {
	t := make([]buf.Cell, len(places))
	for i, place := range places {
		t[i] = l[place]
	}
	return t
}

// holds holds a row to have just these cells.
func holds(t *testing.T, what string, b *buf.Buf, want []buf.Cell) {
	t.Helper()
	if b == nil || !slices.Equal(b.Cells(), want) {
		t.Fatalf("%s: %v, not %v", what, b.Cells(), want)
	}
}

// refused holds Gather and Pick to tell no row, but an error.
func refused(t *testing.T, what string, row *buf.Buf, err, want api.Errno) {
	t.Helper()
	if row != nil || err != want {
		t.Fatalf("%s: %v, error %d, not %d", what, row.Cells(), err, want)
	}
}

// unfit holds every call to tell ErrRange or false, ahead of all other errors, of a view that does not fit, and to change nothing.
func unfit(t *testing.T, b *buf.Buf, v view.View) {
	t.Helper()
	was := b.Cells()
	for _, most := range []int{math.MinInt, -1, 0, 1, 1000, math.MaxInt} {
		row, err := Gather(b, v, most)
		refused(t, "Gather", row, err, api.ErrRange)
	}
	for n := range 8 {
		if err := Scatter(b, v, buf.Of(make([]buf.Cell, n)...)); err != api.ErrRange {
			t.Errorf("%v: Scatter of %d: %d", v, n, err)
		}
	}
	if err := Scatter(b, v, nil); err != api.ErrRange {
		t.Errorf("%v: Scatter of nil: %d", v, err)
	}
	if err := Scatter(b, v, b); err != api.ErrRange {
		t.Errorf("%v: Scatter of the row itself: %d", v, err)
	}
	if err := Fill(b, v, is(5)); err != api.ErrRange {
		t.Errorf("%v: Fill: %d", v, err)
	}
	called := false
	f := func(x, c buf.Cell) buf.Cell { called = true; return c }
	if c, err := Fold(b, v, is(7), f); c != (buf.Cell{}) || err != api.ErrRange || called {
		t.Errorf("%v: Fold: %v %d, f was called: %v", v, c, err, called)
	}
	if c, err := Fold(b, v, is(7), nil); c != (buf.Cell{}) || err != api.ErrRange {
		t.Errorf("%v: Fold by nil: %v %d", v, c, err)
	}
	fine := of(v.Shape, 0, make([]int, len(v.Shape))...)
	if Equal(b, v, b, v) || Equal(b, v, b, fine) || Equal(b, fine, b, v) || Own(b, v) {
		t.Errorf("%v: Equal %v %v %v, Own %v", v, Equal(b, v, b, v), Equal(b, v, b, fine), Equal(b, fine, b, v), Own(b, v))
	}
	if !slices.Equal(b.Cells(), was) {
		t.Errorf("%v: the row has changed", v)
	}
}

// P1001: views that are not right, and those that have a cell ahead of the row, or behind it.
func TestUnfit(t *testing.T) {
	for _, v := range wrong() {
		unfit(t, nil, v)
		unfit(t, buf.Of(), v)
		unfit(t, buf.Of(cells(9, 1)...), v)
	}
	for _, v := range few() {
		if n := room(places(v)); n > 0 {
			unfit(t, buf.Of(cells(n-1, 2)...), v)
			unfit(t, nil, v)
		}
	}
	b := buf.Of(cells(9, 3)...)
	for _, v := range []view.View{of(nil, 9), of(nil, last), of(shape.Shape{2}, 8, 1), of(shape.Shape{2}, 0, -1), of(shape.Shape{2, 2}, 1, 5, -2), of(shape.Shape{3}, 8, widest), of(shape.Shape{limit}, last, -widest), of(shape.Shape{10}, 0, 1), of(shape.Shape{3, 3}, 1, 3, 1)} {
		unfit(t, b, v)
	}
}

// P1002: the cells of views, in order, as rows of their own.
func TestGather(t *testing.T) {
	for i, v := range few() {
		at := places(v)
		l := cells(room(at)+i%3, uint64(i))
		b, want := buf.Of(l...), taken(l, at)
		for _, most := range []int{len(at), len(at) + 1, limit, limit + 1, math.MaxInt} {
			row, err := Gather(b, v, most)
			if err != api.OK {
				t.Fatalf("%v: Gather of %d, at most %d: %d", v, len(at), most, err)
			}
			holds(t, "Gather", row, want)
			row.Fill(0, row.Len(), is(-3))
			holds(t, "what was gathered from", b, l)
		}
		for _, most := range []int{len(at) - 1, 0, -1, math.MinInt} {
			row, err := Gather(b, v, most)
			if len(at) > 0 {
				refused(t, "Gather", row, err, api.ErrLimit)
			} else if err != api.OK || row == nil || row.Len() != 0 {
				t.Errorf("%v: Gather of no cells, at most %d: %v %d", v, most, row, err)
			}
		}
		row, _ := Gather(b, v, limit)
		b.Fill(0, b.Len(), is(-4))
		holds(t, "what was gathered", row, want)
	}
}

// laid tells a list with cells laid at places, one by one.
func laid(l []buf.Cell, places []int, o []buf.Cell) []buf.Cell {
	l = slices.Clone(l)
	for i, place := range places {
		l[place] = o[i]
	}
	return l
}

// P1002: cells are laid in order, the last one of several stays, and all others are as they were.
func TestScatter(t *testing.T) {
	for i, v := range few() {
		at := places(v)
		l, m := cells(room(at)+i%3, uint64(i)), cells(len(at), uint64(i)+99)
		b, o := buf.Of(l...), buf.Of(m...)
		for _, n := range []int{len(at) - 1, len(at) + 1, 0, limit} {
			if other, err := buf.New(n, limit); err == api.OK && n != len(at) {
				if err := Scatter(b, v, other); err != api.ErrSize {
					t.Errorf("%v: Scatter of %d: %d", v, n, err)
				}
			}
		}
		holds(t, "what was not laid into", b, l)
		if err := Scatter(b, v, o); err != api.OK {
			t.Fatalf("%v: Scatter: %d", v, err)
		}
		holds(t, "Scatter", b, laid(l, at, m))
		holds(t, "what was laid", o, m)
		o.Fill(0, o.Len(), is(-5))
		holds(t, "what was laid into", b, laid(l, at, m))
	}
}

// P1002: a row's cells are laid into the row itself as if they were all taken first.
func TestScatterWithin(t *testing.T) {
	for _, v := range []view.View{of(shape.Shape{9}, 8, -1), of(shape.Shape{3, 3}, 0, 1, 3), of(shape.Shape{9}, 0, 0), of(shape.Shape{9}, 8, 0), of(shape.Shape{9}, 0, 1), of(shape.Shape{3, 3}, 2, 3, -1), of(shape.Shape{3, 3}, 0, 1, 1), of(shape.Shape{3, 3}, 4, 1, -1), of(shape.Shape{9, 1}, 8, -1, 5)} {
		for seed := range uint64(20) {
			l := cells(9, seed)
			b := buf.Of(l...)
			if err := Scatter(b, v, b); err != api.OK {
				t.Fatalf("%v: %d", v, err)
			}
			holds(t, "Scatter of the row itself", b, laid(l, places(v), l))
		}
	}
	b := buf.Of(cells(9, 1)...)
	if err := Scatter(b, of(shape.Shape{8}, 0, 1), b); err != api.ErrSize {
		t.Errorf("%d", err)
	}
	holds(t, "Scatter of a row that is too long", b, cells(9, 1))
}

// P1002: all cells of a view are that one, all others as they were.
func TestFill(t *testing.T) {
	for i, v := range few() {
		at := places(v)
		for _, c := range []buf.Cell{{}, {V: 8}, is(0), is(-6), is(math.MinInt64)} {
			l := cells(room(at)+i%3, uint64(i))
			b := buf.Of(l...)
			if err := Fill(b, v, c); err != api.OK {
				t.Fatalf("%v: %d", v, err)
			}
			holds(t, "Fill", b, laid(l, at, slices.Repeat([]buf.Cell{buf.Norm(c)}, len(at))))
		}
	}
}

// P1002: cells at places, those of places below 0 missing; ErrRange ahead of ErrLimit.
func TestPick(t *testing.T) {
	l := cells(5, 4)
	l[0], l[3] = is(9), buf.Cell{}
	b := buf.Of(l...)
	for n := range 5 {
		for _, at := range lists(n, -1, 0, 1, 3, 4) {
			want := make([]buf.Cell, n)
			for i, place := range at {
				if place >= 0 {
					want[i] = l[place]
				}
			}
			was := append(slices.Clone(at), 0, 7)
			for most := -1; most <= n+1; most++ {
				row, err := Pick(b, was[:n], most)
				if n > max(most, 0) {
					refused(t, "Pick", row, err, api.ErrLimit)
				} else if err != api.OK {
					t.Fatalf("Pick at %v: %d", at, err)
				} else {
					holds(t, "Pick", row, want)
					row.Fill(0, n, is(-7))
				}
			}
			if !slices.Equal(was[:n], at) || was[n] != 0 || was[n+1] != 7 {
				t.Errorf("Pick changed %v to %v", at, was)
			}
		}
	}
	holds(t, "what was picked from", b, l)
	for _, place := range []int{5, 6, 64, 1 << 32, math.MaxInt} {
		for _, at := range [][]int{{place}, {0, place}, {place, -1, 0}, {-1, -1, place}, slices.Repeat([]int{place}, 100)} {
			for _, most := range []int{math.MinInt, 0, 1, 2, 3, limit, math.MaxInt} {
				row, err := Pick(b, at, most)
				refused(t, "Pick", row, err, api.ErrRange)
			}
		}
	}
	row, err := Pick(b, []int{math.MinInt, math.MinInt + 1, -5, -6, -1 << 32}, 5)
	if err != api.OK {
		t.Fatalf("Pick at places far below 0: %d", err)
	}
	holds(t, "Pick at places far below 0", row, make([]buf.Cell, 5))
}

// P1003: the same shape and the same cells, wherever they stand.
func TestEqual(t *testing.T) {
	for i, v := range few() {
		at := places(v)
		l := cells(room(at), uint64(i))
		a := buf.Of(l...)
		b, _ := Gather(a, v, limit)
		w, ok := view.New(v.Shape)
		if !ok {
			w = of(v.Shape, 0, make([]int, len(v.Shape))...) // without cells, where its own strides would be too great
		}
		if !Equal(a, v, b, w) || !Equal(b, w, a, v) || !Equal(a, v, a, v) || !Equal(a, v, buf.Of(l...), v) {
			t.Errorf("%v: not equal", v)
		}
		holds(t, "what was held against another", a, l)
		for k := range at {
			c, _ := b.Get(k)
			for _, other := range []buf.Cell{{}, is(c.V), is(c.V + 1), is(-1)} {
				b.Put(k, other)
				if want := other == c; Equal(a, v, b, w) != want || Equal(b, w, a, v) != want {
					t.Fatalf("%v: Equal %v, with %v for %v at %d", v, !want, other, c, k)
				}
			}
			b.Put(k, c)
		}
	}
	if !Equal(buf.Of(buf.Cell{V: 3}), of(nil, 0), buf.Of(buf.Cell{V: 4}), of(shape.Shape{}, 0, []int{}...)) {
		t.Error("missing cells are not the same")
	}
}

// P1003: unlike shapes are not equal, also where they have the same cells, or none.
func TestEqualShapes(t *testing.T) {
	b := buf.Of(slices.Repeat([]buf.Cell{is(2)}, 12)...)
	all := []shape.Shape{{}, {1}, {1, 1}, {6}, {1, 6}, {6, 1}, {2, 3}, {3, 2}, {7}, {0}, {0, 1}, {1, 0}, {0, 2}, {2, 0}, {0, 0}}
	for i, s := range all {
		for k, r := range all {
			v, w := of(s, 1, make([]int, len(s))...), of(r, 3, make([]int, len(r))...)
			if Equal(b, v, b, w) != (i == k) {
				t.Errorf("%v, %v: %v", s, r, i != k)
			}
		}
	}
}

// P1003: f is handed what there is and each cell, in order; of no cells start comes back.
func TestFold(t *testing.T) {
	for i, v := range few() {
		at := places(v)
		l := cells(room(at)+i%3, uint64(i))
		b := buf.Of(l...)
		for _, start := range []buf.Cell{{}, is(0), is(17)} {
			was := start
			var got []buf.Cell
			f := func(x, c buf.Cell) buf.Cell {
				if x != was {
					t.Fatalf("%v: f is handed %v, not %v", v, x, was)
				}
				got = append(got, c)
				was = is(was.V*31 + c.V)
				if c.V%5 == 0 {
					was = buf.Cell{}
				}
				return was
			}
			c, err := Fold(b, v, start, f)
			if c != was || err != api.OK || !slices.Equal(got, taken(l, at)) {
				t.Errorf("%v: Fold: %v %d, not %v, of %v", v, c, err, was, got)
			}
			if c, err := Fold(b, v, start, nil); c != start || err != api.OK {
				t.Errorf("%v: Fold by nil: %v %d, not %v", v, c, err, start)
			}
		}
		holds(t, "what was folded", b, l)
	}
}

// P1003: is no place that of two cells?
func TestOwn(t *testing.T) {
	some, others := 0, 0
	for i, v := range few() {
		at := places(v)
		of := map[int]int{}
		for _, place := range at {
			of[place]++
		}
		want := len(of) == len(at)
		if want {
			some++
		} else {
			others++
		}
		for more := range 3 {
			l := cells(room(at)+more, uint64(i))
			b := buf.Of(l...)
			if got := Own(b, v); got != want {
				t.Errorf("%v: Own %v", v, got)
			}
			holds(t, "what Own was asked of", b, l)
		}
	}
	if some < 20 || others < 20 {
		t.Errorf("%d with places of their own, %d without", some, others)
	}
}

// P1001: a nil row is one of no cells: views without cells fit it, others don't.
func TestNil(t *testing.T) {
	for _, b := range []*buf.Buf{nil, buf.Of()} {
		for _, v := range []view.View{of(shape.Shape{0}, 0, 1), of(shape.Shape{2, 0}, 9, 1, 1), of(shape.Shape{0, limit, limit}, last, 1, 1, widest)} {
			for _, most := range []int{math.MinInt, 0, 5} {
				if row, err := Gather(b, v, most); row == nil || row.Len() != 0 || err != api.OK {
					t.Errorf("%v: Gather: %v %d", v, row, err)
				}
			}
			for _, o := range []*buf.Buf{nil, buf.Of(), b} {
				if err := Scatter(b, v, o); err != api.OK {
					t.Errorf("%v: Scatter: %d", v, err)
				}
				if !Equal(b, v, o, v) {
					t.Errorf("%v: not equal", v)
				}
			}
			if err := Scatter(b, v, buf.Of(is(1))); err != api.ErrSize {
				t.Errorf("%v: Scatter of one cell: %d", v, err)
			}
			if err := Fill(b, v, is(1)); err != api.OK {
				t.Errorf("%v: Fill: %d", v, err)
			}
			if c, err := Fold(b, v, is(3), func(x, c buf.Cell) buf.Cell { return c }); c != is(3) || err != api.OK {
				t.Errorf("%v: Fold: %v %d", v, c, err)
			}
			if !Own(b, v) {
				t.Errorf("%v: Own is false", v)
			}
		}
		row, err := Pick(b, []int{-1, -2}, 2)
		if err != api.OK {
			t.Errorf("Pick: %d", err)
		}
		holds(t, "Pick of no cells", row, make([]buf.Cell, 2))
		row, err = Pick(b, []int{-1, 0}, 0)
		refused(t, "Pick of no cells", row, err, api.ErrRange)
		if row, err := Pick(b, nil, -1); row == nil || row.Len() != 0 || err != api.OK {
			t.Errorf("Pick at no places: %v %d", row, err)
		}
	}
	if err := Scatter(buf.Of(is(1)), of(nil, 0), nil); err != api.ErrSize {
		t.Errorf("Scatter of nil: %d", err)
	}
}

// P1001: views and their lists are neither changed nor kept.
func TestViewApart(t *testing.T) {
	room := []int{2, 3, 9, 3, 1, 8}
	v := view.View{Shape: room[0:2], Strides: room[3:5]}
	a, b := buf.Of(cells(6, 1)...), buf.Of(cells(6, 2)...)
	Gather(a, v, 6)
	Scatter(a, v, b)
	Fill(b, v, is(1))
	Equal(a, v, b, v)
	Fold(a, v, is(1), func(x, c buf.Cell) buf.Cell { return c })
	Own(a, v)
	if !slices.Equal(room, []int{2, 3, 9, 3, 1, 8}) || v.Off != 0 {
		t.Errorf("%v %v", v, room)
	}
}

// P1004: what is gathered from where it was scattered, at places of its own, is what was scattered; other cells stay.
func TestThereAndBack(t *testing.T) {
	for i, v := range few() {
		at := places(v)
		l, m := cells(room(at)+5, uint64(i)), cells(len(at), uint64(i)+7)
		b, o := buf.Of(l...), buf.Of(m...)
		if !Own(b, v) {
			continue
		}
		if err := Scatter(b, v, o); err != api.OK {
			t.Fatalf("%v: %d", v, err)
		}
		row, err := Gather(b, v, len(at))
		if err != api.OK {
			t.Fatalf("%v: %d", v, err)
		}
		holds(t, "there and back", row, m)
		for place, c := range l {
			if got, _ := b.Get(place); !slices.Contains(at, place) && got != c {
				t.Fatalf("%v: the cell at %d is %v, not %v", v, place, got, c)
			}
		}
	}
}

// P1002, P1003: as many cells as there may be.
func TestMany(t *testing.T) {
	l := cells(limit, 5)
	b := buf.Of(l...)
	back, one := of(shape.Shape{1024, 1024}, limit-1, -1024, -1), of(shape.Shape{limit}, limit-1, 0)
	for _, most := range []int{limit, limit + 1, math.MaxInt} {
		row, err := Gather(b, back, most)
		if err != api.OK {
			t.Fatalf("Gather, at most %d: %d", most, err)
		}
		slices.Reverse(l)
		if !slices.Equal(row.Cells(), l) {
			t.Error("Gather: other cells")
		}
		slices.Reverse(l)
	}
	row, err := Gather(b, back, limit-1)
	refused(t, "Gather", row, err, api.ErrLimit)
	if !Own(b, back) || Own(b, one) || !Own(b, of(nil, limit-1)) || Own(b, of(nil, limit)) {
		t.Error("Own")
	}
	n := 0
	f := func(x, c buf.Cell) buf.Cell { n++; return c }
	if c, err := Fold(b, one, is(1), f); c != l[limit-1] || err != api.OK || n != limit {
		t.Errorf("Fold: %v %d, %d times", c, err, n)
	}
	if err := Scatter(b, back, b); err != api.OK {
		t.Errorf("Scatter: %d", err)
	}
	slices.Reverse(l)
	if !slices.Equal(b.Cells(), l) {
		t.Error("Scatter: other cells")
	}
	at := slices.Repeat([]int{limit - 1}, limit+1)
	if row, err := Pick(b, at[1:], math.MaxInt); err != api.OK || row.Len() != limit {
		t.Errorf("Pick: %d %d", row.Len(), err)
	}
	row, err = Pick(b, at, math.MaxInt)
	refused(t, "Pick", row, err, api.ErrLimit)
	at[limit] = limit
	row, err = Pick(b, at, math.MaxInt)
	refused(t, "Pick", row, err, api.ErrRange)
	if err := Fill(b, back, is(2)); err != api.OK || b.Missing() != 0 || !Equal(b, back, b, of(shape.Shape{1024, 1024}, 3, 0, 0)) {
		t.Errorf("Fill: %d, %d missing", err, b.Missing())
	}
}

// The document's example.
func TestExample(t *testing.T) {
	v, _ := view.New(shape.Shape{2, 2})
	w, _ := v.Permute([]int{1, 0})
	row, err := Gather(buf.Of(is(1), is(2), is(3), is(4)), w, 4)
	if err != api.OK {
		t.Fatal(err)
	}
	holds(t, "the example", row, []buf.Cell{is(1), is(3), is(2), is(4)})
}
