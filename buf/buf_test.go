package buf

import (
	"math"
	"slices"
	"testing"

	"quincunx/api"
)

// limit is how many cells the document lets a row have, written out so that the package's own number is tested too.
const limit = 1 << 20

// lengths are none, few, and those about the ends of words of truths.
func lengths() []int {
	return []int{0, 1, 2, 3, 7, 8, 9, 63, 64, 65, 127, 128, 129, 200}
}

// odd are numbers that are no places of a short row.
func odd() []int {
	return []int{-1, -2, -63, -64, -65, math.MinInt, math.MinInt + 1, math.MaxInt, math.MaxInt - 1, limit, limit + 1, 1 << 32}
}

// is tells a cell that has a number.
func is(v int64) Cell {
	return Cell{V: v, OK: true}
}

// raw are cells as they may be handed in, missing ones that have a number among them.
func raw() []Cell {
	return []Cell{{}, is(0), is(1), is(-1), {V: 5}, {V: math.MinInt64}, is(math.MinInt64), is(math.MaxInt64), {V: math.MaxInt64}}
}

// step tells the next of a row of numbers without an order to be seen.
func step(seed uint64) uint64 {
	return seed*6364136223846793005 + 1442695040888963407
}

// cells tells n cells without an order to be seen, others for each seed, missing ones with numbers among them.
func cells(n int, seed uint64) []Cell {
	l := make([]Cell, n)
	for i := range l {
		seed = step(seed)
		l[i] = Cell{V: int64(seed>>33) - 1<<30, OK: seed>>62 != 0}
	}
	return l
}

// rows tells rows of n cells: all missing, with numbers and without; all numbers; every other one; some without an order.
func rows(n int) [][]Cell {
	missing, vain, all, other := make([]Cell, n), make([]Cell, n), make([]Cell, n), make([]Cell, n)
	for i := range n {
		v := int64(i*i) - 7
		vain[i], all[i], other[i] = Cell{V: v}, is(v), Cell{V: v, OK: i%2 == 1}
	}
	return [][]Cell{missing, vain, all, other, cells(n, 1), cells(n, 2)}
}

// plain tells what is told of cells: missing ones have no number.
func plain(l []Cell) []Cell {
	o := make([]Cell, len(l))
	for i, c := range l {
		if c.OK {
			o[i] = c
		}
	}
	return o
}

// missing tells how many are.
func missing(l []Cell) int {
	n := 0
	for _, c := range l {
		if !c.OK {
			n++
		}
	}
	return n
}

// check looks whether all that b tells is that of the cells l.
func check(t *testing.T, what string, b *Buf, l []Cell) {
	t.Helper()
	if b == nil {
		t.Fatalf("%s: nil", what)
	}
	want := plain(l)
	if b.Len() != len(l) || b.Missing() != missing(l) || !slices.Equal(b.Cells(), want) {
		t.Fatalf("%s: %d, %d, %v, not %d, %d, %v", what, b.Len(), b.Missing(), b.Cells(), len(l), missing(l), want)
	}
	for i, c := range want {
		if got, ok := b.Get(i); got != c || !ok {
			t.Fatalf("%s: Get(%d): %v %v, not %v", what, i, got, ok, c)
		}
	}
	if !Same(b, Of(l...)) || !Same(Of(l...), b) {
		t.Fatalf("%s: not the same as %v", what, want)
	}
}

// Words: of a missing one the number is 0.
func TestNorm(t *testing.T) {
	for _, c := range raw() {
		if got := Norm(c); got != plain([]Cell{c})[0] {
			t.Errorf("Norm(%v): %v", c, got)
		}
	}
	if Norm(Cell{V: 7}) != (Cell{}) || Norm(is(7)) != is(7) || Norm(is(0)) != is(0) {
		t.Error("Norm")
	}
}

// P302.
func TestNew(t *testing.T) {
	for _, n := range lengths() {
		for _, most := range []int{n, n + 1, limit, limit + 1, math.MaxInt} {
			b, e := New(n, most)
			if e != api.OK {
				t.Fatalf("New(%d, %d): %d", n, most, e)
			}
			check(t, "New", b, make([]Cell, n))
		}
	}
	for _, c := range []struct {
		n, most int
		want    api.Errno
	}{
		{2, 9, api.OK}, {9, 9, api.OK}, {10, 9, api.ErrLimit}, {1, 0, api.ErrLimit}, {0, 0, api.OK},
		{0, -1, api.OK}, {0, math.MinInt, api.OK}, {1, -1, api.ErrLimit}, {1, math.MinInt, api.ErrLimit},
		{-1, 9, api.ErrSize}, {-1, 0, api.ErrSize}, {-1, -1, api.ErrSize}, {-1, -9, api.ErrSize}, {-9, -1, api.ErrSize},
		{math.MinInt, math.MinInt, api.ErrSize}, {math.MinInt, math.MaxInt, api.ErrSize},
		{limit - 1, limit, api.OK}, {limit, limit, api.OK}, {limit, limit - 1, api.ErrLimit}, {limit, math.MaxInt, api.OK},
		{limit + 1, limit, api.ErrLimit}, {limit + 1, limit + 1, api.ErrLimit}, {limit + 1, math.MaxInt, api.ErrLimit},
		{math.MaxInt, math.MaxInt, api.ErrLimit}, {math.MaxInt, -1, api.ErrLimit},
	} {
		b, e := New(c.n, c.most)
		if e != c.want || (b != nil) != (e == api.OK) {
			t.Fatalf("New(%d, %d): %v %d, not %d", c.n, c.most, b != nil, e, c.want)
		}
		if e == api.OK && (b.Len() != c.n || b.Missing() != c.n) {
			t.Errorf("New(%d, %d): %d cells, %d missing", c.n, c.most, b.Len(), b.Missing())
		}
	}
}

// The chapter's example.
func TestExample(t *testing.T) {
	b, _ := New(2, 9)
	if !b.Put(1, is(5)) {
		t.Error("Put")
	}
	check(t, "the example", b, []Cell{{}, is(5)})
}

// P302.
func TestOf(t *testing.T) {
	check(t, "Of()", Of(), nil)
	check(t, "Of(none)", Of([]Cell{}...), nil)
	check(t, "Of(raw)", Of(raw()...), raw())
	for _, n := range lengths() {
		for _, l := range rows(n) {
			room := append(slices.Clone(l), is(77), Cell{V: 78})
			was := slices.Clone(room)
			b := Of(room[:n]...)
			check(t, "Of", b, l)
			b.Fill(0, n, is(9))
			if !slices.Equal(room, was) {
				t.Fatal("Of changed its list or the room behind it")
			}
			b = Of(room[:n]...)
			for i := range room {
				room[i] = is(-9)
			}
			check(t, "Of of a list that changed", b, l)
		}
	}
	l := make([]Cell, limit+3)
	l[0], l[limit-1], l[limit], l[limit+2] = is(1), is(2), is(3), is(4)
	for _, n := range []int{limit, limit + 1, limit + 3} {
		b := Of(l[:n]...)
		last, ok := b.Get(limit - 1)
		if _, more := b.Get(limit); b.Len() != limit || b.Missing() != limit-2 || last != is(2) || !ok || more {
			t.Errorf("Of %d cells: %d, %d missing, %v", n, b.Len(), b.Missing(), last)
		}
	}
}

// P302.
func TestGetPut(t *testing.T) {
	for _, n := range lengths() {
		l := cells(n, 3)
		b := Of(l...)
		for i := range n {
			for _, c := range raw() {
				want := slices.Clone(l)
				want[i] = c
				if !b.Put(i, c) {
					t.Fatalf("Put(%d) of %d: false", i, n)
				}
				check(t, "Put", b, want)
			}
			b.Put(i, l[i])
		}
		for _, i := range append(odd(), n, n+1, n+64) {
			if c, ok := b.Get(i); c != (Cell{}) || ok {
				t.Fatalf("Get(%d) of %d: %v %v", i, n, c, ok)
			}
			for _, c := range raw() {
				if b.Put(i, c) {
					t.Fatalf("Put(%d) of %d: true", i, n)
				}
			}
		}
		check(t, "what Put refused", b, l)
	}
}

// P302: all from and to, also those that are no places, or not in order.
func TestFill(t *testing.T) {
	for _, n := range []int{0, 1, 3, 63, 64, 65} {
		for from := -2; from <= n+2; from++ {
			for to := -2; to <= n+2; to++ {
				for _, c := range []Cell{{}, {V: 4}, is(0), is(-6)} {
					l := cells(n, uint64(from*to))
					b, right := Of(l...), 0 <= from && from <= to && to <= n
					if b.Fill(from, to, c) != right {
						t.Fatalf("Fill(%d, %d) of %d: %v", from, to, n, !right)
					}
					for i := from; right && i < to; i++ {
						l[i] = c
					}
					check(t, "Fill", b, l)
				}
			}
		}
	}
	l := cells(200, 3)
	b := Of(l...)
	for _, i := range odd() {
		for _, k := range append(odd(), 0, 1, 200) {
			for _, c := range raw() {
				if b.Fill(i, k, c) || b.Fill(k, i, c) {
					t.Errorf("Fill(%d, %d): true", i, k)
				}
			}
		}
	}
	check(t, "what Fill refused", b, l)
}

// P302: as many cells as there may be.
func TestMany(t *testing.T) {
	b, _ := New(limit, limit)
	if !b.Fill(1, limit, is(3)) || b.Missing() != 1 || !b.Fill(0, limit-1, Cell{V: 8}) || b.Missing() != limit-1 || b.Fill(0, limit+1, is(1)) {
		t.Errorf("Fill: %d missing", b.Missing())
	}
	if c, ok := b.Get(limit - 1); c != is(3) || !ok || b.Put(limit, is(3)) {
		t.Errorf("Get: %v %v", c, ok)
	}
	if !b.Copy(0, b, limit-1, 1) || !b.Copy(1, b, 0, limit-1) || b.Copy(0, b, 0, limit+1) || b.Copy(1, b, 0, limit) || b.Copy(0, b, 1, limit) {
		t.Error("Copy")
	}
	if c, _ := b.Get(1); b.Missing() != limit-2 || c != is(3) {
		t.Errorf("Copy: %d missing", b.Missing())
	}
	c := b.Clone()
	if !Same(b, c) || !c.Put(limit-1, is(1)) || Same(b, c) || len(c.Cells()) != limit {
		t.Error("Clone")
	}
}

// laid tells to with n of the cells from laid into it, and whether there are these.
func laid(to []Cell, at int, of []Cell, from, n int) ([]Cell, bool) {
	if n < 0 || from < 0 || at < 0 || from+n > len(of) || at+n > len(to) {
		return to, false
	}
	taken, l := slices.Clone(of[from:from+n]), slices.Clone(to)
	for i, c := range taken {
		l[at+i] = c
	}
	return l, true
}

// P302: all small places and numbers of cells, from another row.
func TestCopy(t *testing.T) {
	for _, k := range []int{0, 1, 3, 6} {
		for _, m := range []int{0, 1, 4, 6} {
			to, of := cells(k, 5), cells(m, 6)
			for at := -2; at <= k+2; at++ {
				for from := -2; from <= m+2; from++ {
					for n := -2; n <= 8; n++ {
						b, o := Of(to...), Of(of...)
						want, right := laid(to, at, of, from, n)
						if b.Copy(at, o, from, n) != right {
							t.Fatalf("Copy(%d, %d, %d) of %d into %d: %v", at, from, n, m, k, !right)
						}
						check(t, "Copy", b, want)
						check(t, "what was copied", o, of)
					}
				}
			}
		}
	}
}

// P302: where the cells lie on each other in one row, they are as if they were taken first.
func TestCopyWithin(t *testing.T) {
	for _, k := range []int{1, 2, 5, 17} {
		for _, l := range rows(k) {
			for at := -1; at <= k+1; at++ {
				for from := -1; from <= k+1; from++ {
					for _, n := range []int{-1, 0, 1, 2, 3, k - max(at, from), k - max(at, from) + 1} {
						b := Of(l...)
						want, right := laid(l, at, l, from, n)
						if b.Copy(at, b, from, n) != right {
							t.Fatalf("Copy(%d, %d, %d) within %d: %v", at, from, n, k, !right)
						}
						check(t, "Copy within", b, want)
					}
				}
			}
		}
	}
}

// P302: the same over words of truths, where each cell is told from its neighbours.
func TestCopyFar(t *testing.T) {
	l := cells(300, 7)
	for _, p := range [][3]int{{0, 1, 299}, {1, 0, 299}, {0, 64, 236}, {64, 0, 236}, {63, 65, 200}, {65, 63, 200}, {5, 5, 295}, {0, 150, 150}, {150, 0, 150}, {300, 300, 0}, {300, 0, 0}, {0, 300, 0}} {
		want, _ := laid(l, p[0], l, p[1], p[2])
		one, other := Of(l...), Of(l...)
		if !one.Copy(p[0], one, p[1], p[2]) || !other.Copy(p[0], Of(l...), p[1], p[2]) {
			t.Fatalf("Copy %v: false", p)
		}
		check(t, "Copy within", one, want)
		check(t, "Copy from one that is alike", other, want)
	}
}

// P302: wrong places and numbers of cells; nothing is copied then.
func TestCopyOdd(t *testing.T) {
	l := cells(70, 8)
	b, o := Of(l...), Of(rows(70)[2]...)
	for _, i := range append(odd(), 71) {
		for _, p := range [][3]int{{i, 0, 0}, {0, i, 0}, {0, 0, i}, {i, i, 0}, {i, 0, 1}, {0, i, 1}, {1, 0, i}, {0, 1, i}, {i, i, i}, {70, 70, i}, {70, i, 0}, {i, 70, 0}, {i, 0, -i}, {0, i, -i}} {
			if b.Copy(p[0], o, p[1], p[2]) || b.Copy(p[0], b, p[1], p[2]) {
				t.Errorf("Copy %v: true", p)
			}
		}
	}
	for _, p := range [][3]int{{70, 0, 1}, {0, 70, 1}, {1, 0, 70}, {0, 1, 70}, {-1, 0, 1}, {0, -1, 1}, {0, 0, -1}, {70, 70, -1}, {71, 70, -1}} {
		if b.Copy(p[0], o, p[1], p[2]) || b.Copy(p[0], b, p[1], p[2]) {
			t.Errorf("Copy %v: true", p)
		}
	}
	check(t, "what Copy refused", b, l)
	check(t, "of what Copy refused", o, rows(70)[2])
}

// P301: a nil Buf is a row of no cells, in every call.
func TestNil(t *testing.T) {
	var b *Buf
	if b.Len() != 0 || b.Missing() != 0 || len(b.Cells()) != 0 {
		t.Errorf("nil: %d %d %v", b.Len(), b.Missing(), b.Cells())
	}
	for _, i := range append(odd(), 0, 1, 64) {
		c, ok := b.Get(i)
		if c != (Cell{}) || ok || b.Put(i, is(1)) || b.Put(i, Cell{}) || b.Fill(i, 0, is(1)) != (i == 0) || b.Fill(0, i, is(1)) != (i == 0) {
			t.Errorf("nil: %d is there", i)
		}
		for _, o := range []*Buf{nil, Of(), Of(is(1)), Of(raw()...)} {
			if b.Copy(i, o, 0, 0) != (i == 0) || b.Copy(0, o, 0, i) != (i == 0) || b.Copy(0, o, i, 0) != (i >= 0 && i <= o.Len()) {
				t.Errorf("nil: Copy of %d cells, %d", o.Len(), i)
			}
			was := o.Cells()
			if o.Copy(0, b, i, 0) != (i == 0) || o.Copy(0, b, 0, i) != (i == 0) || o.Copy(i, b, 0, 0) != (i >= 0 && i <= o.Len()) || !slices.Equal(o.Cells(), was) {
				t.Errorf("Copy of nil into %d cells, %d", o.Len(), i)
			}
		}
	}
	check(t, "the Clone of a nil one", b.Clone(), nil)
	if c := b.Clone(); c.Put(0, is(1)) || b.Clone() == c {
		t.Error("the Clone of a nil one is not new, or not empty")
	}
	if !Same(nil, nil) || !Same(nil, Of()) || !Same(Of(), nil) || Same(nil, Of(Cell{})) || Same(Of(Cell{}), nil) {
		t.Error("Same of nil")
	}
}

// P301: what is told shares nothing with what it was told of.
func TestApart(t *testing.T) {
	for _, n := range lengths()[1:] {
		l := cells(n, 9)
		b := Of(l...)
		first, second, told := b.Clone(), b.Clone(), b.Cells()
		other, _ := New(n, n)
		other.Copy(0, b, 0, n)
		for _, x := range []*Buf{first, second, other} {
			check(t, "told", x, l)
			x.Fill(0, n, is(-4))
			check(t, "a Buf of which others were told", b, l)
		}
		for i := range told {
			told[i] = is(66)
		}
		check(t, "a Buf whose cells were changed", b, l)
		if !slices.Equal(b.Cells(), plain(l)) {
			t.Fatal("Cells told before are told again")
		}
		c := b.Clone()
		b.Fill(0, n, Cell{V: 3})
		check(t, "a Clone", c, l)
		check(t, "what was cloned", b, make([]Cell, n))
	}
}

// P301: a list of cells told has no room behind it that another one has.
func TestRoom(t *testing.T) {
	l := cells(5, 10)
	b := Of(l...)
	one, other := b.Cells(), b.Cells()
	_ = append(one[:2], is(1), is(2), is(3), is(4))
	if !slices.Equal(other, plain(l)) {
		t.Error("two lists share something")
	}
	check(t, "a Buf whose cells were told", b, l)
}

// P303.
func TestMissing(t *testing.T) {
	for _, n := range lengths() {
		for _, l := range rows(n) {
			if got := Of(l...).Missing(); got != missing(l) {
				t.Errorf("Missing of %v: %d", l, got)
			}
		}
	}
}

// P303.
func TestSame(t *testing.T) {
	for _, n := range lengths() {
		for _, l := range rows(n) {
			b := Of(l...)
			if !Same(b, b) || !Same(b, b.Clone()) || !Same(b, Of(plain(l)...)) || Same(b, Of(append(slices.Clone(l), Cell{})...)) || Same(Of(append(slices.Clone(l), is(0))...), b) {
				t.Fatalf("Same: %v", l)
			}
			for i := range n {
				for _, c := range raw() {
					x := slices.Clone(l)
					x[i] = c
					want := Norm(l[i]) == Norm(c)
					if Same(b, Of(x...)) != want || Same(Of(x...), b) != want {
						t.Fatalf("Same, with %v for the one at %d: %v", c, i, l)
					}
				}
			}
		}
	}
	if Same(Of(Cell{}), Of(is(0))) || !Same(Of(Cell{V: 1}), Of(Cell{V: 2})) {
		t.Error("Same of missing ones")
	}
}

// P303, Words: a number that was there before it was made missing is not told, nor held against another.
func TestMissingAnew(t *testing.T) {
	b := Of(is(1), is(2), is(3), is(4))
	b.Put(0, Cell{V: 9})
	b.Fill(1, 2, Cell{V: 9})
	b.Copy(2, Of(Cell{V: 9}), 0, 1)
	check(t, "made missing", b, []Cell{{}, {}, {}, is(4)})
}

// P302, P303: what is told after many steps is that of a plain list.
func TestManySteps(t *testing.T) {
	const n = 140
	l, seed := make([]Cell, n), uint64(11)
	b, _ := New(n, n)
	for range 3000 {
		seed = step(seed)
		from, to, c := int(seed>>33)%n, int(seed>>43)%(n+1), Cell{V: int64(seed >> 50), OK: seed>>63 == 1}
		switch seed >> 60 & 3 {
		case 0:
			b.Put(from, c)
			l[from] = c
		case 1:
			if b.Fill(from, to, c) {
				for i := from; i < to; i++ {
					l[i] = c
				}
			}
		case 2:
			k := n - max(from, to)
			l, _ = laid(l, to, l, from, k)
			if !b.Copy(to, b, from, k) {
				t.Fatalf("Copy(%d, %d, %d): false", to, from, k)
			}
		case 3:
			o := cells(n, seed)
			k := n - max(from, to)
			l, _ = laid(l, from, o, to, k)
			b = b.Clone()
			b.Copy(from, Of(o...), to, k)
		}
		check(t, "many steps", b, l)
	}
}
