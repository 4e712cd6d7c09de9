package shape

import (
	"math"
	"math/big"
	"slices"
	"testing"
)

// The document's limits, written out so that the package's own numbers are tested too.
const (
	cells = 1 << 20
	dims  = 6
)

// odd are numbers that are no axis, no place and no length of any shape.
func odd() []int {
	return []int{-1, -2, -6, -7, math.MinInt, math.MinInt + 1, math.MaxInt, math.MaxInt - 1, cells + 1, 1 << 32, 1<<32 + 1}
}

// rows tells all lists of up to most of the given numbers.
func rows(most int, of ...int) [][]int {
	all := [][]int{{}}
	last := all
	for range most {
		var next [][]int
		for _, l := range last {
			for _, n := range of {
				next = append(next, append(slices.Clone(l), n))
			}
		}
		all = append(all, next...)
		last = next
	}
	return all
}

// small tells all shapes of up to four axes of few places, and some of up to six.
func small() []Shape {
	all := []Shape{nil, {2, 3, 1, 2, 1, 3}, {1, 1, 1, 1, 1, 1}, {2, 2, 2, 2, 2, 2}, {3, 1, 0, 2, 4, 1}, {0, 0, 0, 0, 0, 0}, {5, 1, 2, 2, 3}, {7}, {11, 13}}
	for _, l := range rows(4, 0, 1, 2, 3) {
		all = append(all, l)
	}
	return all
}

// great tells shapes that are right, of which some have more cells than may be, or strides that may not be.
func great() []Shape {
	return []Shape{
		{cells}, {1, cells}, {cells, 1}, {2, cells}, {cells, 2}, {cells, cells}, {cells - 1, 1, 1}, {1024, 1024}, {1024, 1025}, {1025, 1024},
		{1, cells, 1, 1, 1, 1}, {cells, 1, 1, 1, 1, 1}, {0, cells}, {cells, 0}, {0, cells, 2}, {0, cells, cells}, {cells, cells, 0}, {cells, 0, cells}, {cells, 0, 0, 0, 0, cells},
		{16, 16, 16, 16, 16, 1}, {16, 16, 16, 16, 16, 2}, {16, 16, 16, 16, 16, 16}, {2, 16, 16, 16, 16, 16}, {2, 32, 16, 16, 16, 16}, {1, 32, 16, 16, 16, 16},
		{cells, cells, cells, cells, cells, cells}, {cells, cells, cells, cells, cells, 0}, {0, cells, cells, cells, cells, cells}, {1, cells, 2}, {3, cells, 2}, {3, 1 << 19, 2}, {3, 1<<19 + 1, 2},
		{1 << 10, 1 << 10, 1 << 10, 1 << 10, 1 << 10, 1 << 14}, {1 << 16, 1 << 16, 1 << 16, 1 << 16}, {4096, 256}, {4096, 257}, {257, 4096, 1},
	}
}

// wrong tells shapes that are not right.
func wrong() []Shape {
	all := []Shape{make(Shape, 7), {1, 1, 1, 1, 1, 1, 1}, {2, 3, 2, 3, 2, 3, 2}, make(Shape, 100), slices.Repeat(Shape{1}, 5000), slices.Repeat(Shape{-1}, 9)}
	for _, n := range odd() {
		all = append(all, Shape{n}, Shape{n, 2}, Shape{2, n}, Shape{0, n}, Shape{n, 0}, Shape{1, 2, n, 3}, Shape{1, 1, 1, 1, 1, n}, Shape{n, n})
	}
	return all
}

// next goes to the next place with the last axis fastest, and tells whether there is one.
func next(s Shape, at []int) bool {
	for i := len(s) - 1; i >= 0; i-- {
		at[i]++
		if at[i] < s[i] {
			return true
		}
		at[i] = 0
	}
	return false
}

// places tells all places of a shape of few cells, in order, each found by going on from the one ahead of it.
func places(s Shape) [][]int {
	if slices.Contains(s, 0) {
		return nil
	}
	at := make([]int, len(s))
	all := [][]int{slices.Clone(at)}
	for next(s, at) {
		all = append(all, slices.Clone(at))
	}
	return all
}

// product tells numbers times each other, as they truly are.
func product(l []int) *big.Int {
	p := big.NewInt(1)
	for _, n := range l {
		p.Mul(p, big.NewInt(int64(n)))
	}
	return p
}

// strides tells what Strides says of a shape that is right: each the product of all lengths behind it, 0 as 1.
func strides(s Shape) []int {
	l := []int{}
	for i := range s {
		behind := slices.Clone(s[i+1:])
		for k := range behind {
			behind[k] = max(behind[k], 1)
		}
		p := product(behind)
		if p.Cmp(big.NewInt(cells)) > 0 {
			return nil
		}
		l = append(l, int(p.Int64()))
	}
	return l
}

// size tells what Size says of a shape that is right.
func size(s Shape, most int) (int, bool) {
	p := product(s)
	if p.Cmp(big.NewInt(int64(most))) > 0 || p.Cmp(big.NewInt(cells)) > 0 {
		return 0, false
	}
	return int(p.Int64()), true
}

// roomy tells numbers with room behind them, and a function that tells whether they and the room are as they were.
func roomy(l []int) ([]int, func() bool) {
	all := append(append(make([]int, 0, len(l)+9), l...), 70, 71, 72, 73, 74, 75, 76, 77, 78)
	was := slices.Clone(all)
	return all[:len(l)], func() bool { return slices.Equal(all, was) }
}

// spoil changes all of a list and of the room behind it.
func spoil(l []int) {
	l = l[:cap(l)]
	for i := range l {
		l[i] = -99
	}
}

// kept tells whether a call, asked twice, tells the same, though its first answer is spoiled, and whether what it was handed is as it was.
func kept(t *testing.T, name string, s, other []int, call func(s, other []int) []int) {
	t.Helper()
	s, asItWas := roomy(s)
	other, asThat := roomy(other)
	a := call(s, other)
	b := call(s, other)
	was := slices.Clone(b)
	spoil(a)
	if !slices.Equal(b, was) {
		t.Errorf("%s of %v, %v: two answers share memory", name, s, other)
	}
	spoil(b)
	if !asItWas() || !asThat() {
		t.Errorf("%s of %v, %v changed what it was handed, or its answer shares it", name, s, other)
	}
	if c := call(s, other); !slices.Equal(c, was) {
		t.Errorf("%s of %v, %v: the answer hangs on an earlier one", name, s, other)
	}
}

// P701, P702: which shapes are right, at both ends of how many axes and how long ones there may be.
func TestRight(t *testing.T) {
	for _, s := range append(small(), great()...) {
		if !s.Right() {
			t.Errorf("%v is right", s)
		}
	}
	for _, s := range wrong() {
		if s.Right() {
			t.Errorf("%v is not right", s)
		}
	}
	for _, s := range rows(dims+1, 0, 1) {
		if Shape(s).Right() != (len(s) <= dims) {
			t.Errorf("%v: Right %v", s, Shape(s).Right())
		}
	}
}

// P701: a shape that is not right has nothing, whatever is asked of it.
func TestWrong(t *testing.T) {
	few := append(rows(2, 0, 1), nil, []int{0, 0, 0, 0, 0, 0, 0}, make([]int, 100), []int{6, 5, 4, 3, 2, 1, 0}, []int{0, 1, 2, 3}, []int{0, 0, 0, 0})
	numbers := append(odd(), 0, 1, 2, 3, 5, 6, 7, cells)
	for _, s := range wrong() {
		if l := s.Strides(); len(l) != 0 {
			t.Errorf("%v: Strides %v", s, l)
		}
		for _, at := range few {
			p, ok := s.Place(at)
			if s.Has(at) || ok || p != 0 {
				t.Errorf("%v: Has, Place of %v: %v %v", s, at, p, ok)
			}
			q, ok := s.Permute(at)
			if ok || len(q) != 0 {
				t.Errorf("%v: Permute %v: %v %v", s, at, q, ok)
			}
		}
		for _, n := range numbers {
			size, ok1 := s.Size(n)
			at, ok2 := s.At(n)
			less, ok3 := s.Without(n)
			if ok1 || ok2 || ok3 || size != 0 || len(at) != 0 || len(less) != 0 {
				t.Errorf("%v, %d: Size %v %v, At %v %v, Without %v %v", s, n, size, ok1, at, ok2, less, ok3)
			}
			for _, k := range []int{0, 1, 2, 7, -1} {
				if more, ok := s.With(k, n); ok || len(more) != 0 {
					t.Errorf("%v: With %d, %d: %v %v", s, k, n, more, ok)
				}
			}
		}
		for _, o := range []Shape{nil, {1}, {2}, {1, 1}, {2, 2}, {1, 1, 1, 1}, s, slices.Repeat(Shape{1}, len(s))} {
			a, ok1 := Join(s, o)
			b, ok2 := Join(o, s)
			if ok1 || ok2 || len(a) != 0 || len(b) != 0 {
				t.Errorf("Join of %v, %v: %v %v, %v %v", s, o, a, ok1, b, ok2)
			}
		}
	}
}

// P702: how many cells there are: as many as most, one more, and over MaxCells.
func TestSize(t *testing.T) {
	for _, s := range append(small(), great()...) {
		n, _ := size(s, cells)
		mosts := append(odd(), 0, 1, 2, n-1, n, n+1, cells-1, cells, 2*cells, 1<<40)
		for _, most := range mosts {
			want, right := size(s, most)
			if got, ok := s.Size(most); got != want || ok != right {
				t.Errorf("%v: Size(%d) is %d %v, not %d %v", s, most, got, ok, want, right)
			}
		}
	}
	for _, s := range small() {
		if n, ok := s.Size(cells); n != len(places(s)) || !ok {
			t.Errorf("%v: Size %d %v, of %d places", s, n, ok, len(places(s)))
		}
	}
	if n, ok := (Shape{}).Size(1); n != 1 || !ok {
		t.Errorf("no axes: %d %v", n, ok)
	}
	if n, ok := (Shape{0, cells, cells}).Size(0); n != 0 || !ok {
		t.Errorf("an axis of none: %d %v", n, ok)
	}
	if n, ok := (Shape{0}).Size(-1); n != 0 || ok {
		t.Errorf("0 is more than -1: %d %v", n, ok)
	}
	if n, ok := (Shape{cells, 2}).Size(math.MaxInt); n != 0 || ok {
		t.Errorf("more than MaxCells: %d %v", n, ok)
	}
}

// P702: by how much each axis counts; none, where one would be above MaxCells.
func TestStrides(t *testing.T) {
	for _, s := range append(small(), great()...) {
		if got, want := s.Strides(), strides(s); !slices.Equal(got, want) {
			t.Errorf("%v: Strides %v, not %v", s, got, want)
		}
	}
	for _, c := range []struct {
		s    Shape
		want []int
	}{
		{Shape{2, 3}, []int{3, 1}}, {Shape{}, nil}, {Shape{9}, []int{1}}, {Shape{0}, []int{1}}, {Shape{4, 0, 5}, []int{5, 5, 1}}, {Shape{4, 5, 0}, []int{5, 1, 1}},
		{Shape{2, cells}, []int{cells, 1}}, {Shape{cells, cells}, []int{cells, 1}}, {Shape{0, cells, 2}, nil}, {Shape{1, 1, cells, 2}, nil},
		{Shape{cells, 1 << 19, 2}, []int{cells, 2, 1}}, {Shape{cells, 1<<19 + 1, 2}, nil}, {Shape{3, 0, cells, 0, 1}, []int{cells, cells, 1, 1, 1}},
	} {
		if got := c.s.Strides(); !slices.Equal(got, c.want) {
			t.Errorf("%v: Strides %v, not %v", c.s, got, c.want)
		}
	}
	if l := (Shape{0, 3}).Strides(); len(l) != 2 || l[0] != 3 {
		t.Errorf("of no cells: %v", l)
	}
}

// P702, P704: which places there are, and that they are counted with the last axis fastest, and told again by their counts.
func TestPlaces(t *testing.T) {
	for _, s := range small() {
		all := places(s)
		for n, at := range all {
			p, ok := s.Place(at)
			if !s.Has(at) || p != n || !ok {
				t.Errorf("%v: %v is place %d, not %d %v", s, at, n, p, ok)
			}
			back, ok := s.At(n)
			if !slices.Equal(back, at) || len(back) != len(s) || !ok {
				t.Errorf("%v: At %d is %v %v, not %v", s, n, back, ok, at)
			}
		}
		for _, n := range append(odd(), len(all), len(all)+1, 2*len(all)+1, cells) {
			if at, ok := s.At(n); ok || len(at) != 0 {
				t.Errorf("%v: At %d: %v %v", s, n, at, ok)
			}
		}
	}
}

// P702: of all lists of numbers about the ends of the axes, those that are places alone are there.
func TestNoPlaces(t *testing.T) {
	for _, s := range rows(3, 0, 1, 2) {
		all := places(s)
		for _, at := range rows(4, -1, 0, 1, 2, 3) {
			is := slices.IndexFunc(all, func(l []int) bool { return slices.Equal(l, at) })
			p, ok := Shape(s).Place(at)
			if has := Shape(s).Has(at); has != (is >= 0) || ok != has || p != max(is, 0) {
				t.Errorf("%v: %v: Has %v, Place %d %v, not %d", s, at, has, p, ok, is)
			}
		}
	}
	for _, s := range []Shape{{}, {2}, {2, 3}, {1, 1, 1, 1, 1, 1}, {cells}} {
		for _, n := range odd() {
			for i := range s {
				at := make([]int, len(s))
				at[i] = n
				if p, ok := s.Place(at); ok || p != 0 || s.Has(at) {
					t.Errorf("%v: %v: %d %v", s, at, p, ok)
				}
			}
		}
		for _, n := range []int{0, 1, 2, 3, 5, 6, 7, 100} {
			at := make([]int, n)
			_, ok := s.Place(at)
			if want := n == len(s); ok != want || s.Has(at) != want {
				t.Errorf("%v: of %d numbers: %v", s, n, ok)
			}
		}
	}
	if p, ok := Shape(nil).Place(nil); p != 0 || !ok || !Shape(nil).Has(nil) {
		t.Errorf("no axes: %d %v", p, ok)
	}
	if at, ok := Shape(nil).At(0); len(at) != 0 || !ok {
		t.Errorf("no axes: %v %v", at, ok)
	}
}

// P702, P704: of shapes up to MaxCells cells all counts are told and told again, in rising order of places.
func TestManyPlaces(t *testing.T) {
	for _, s := range []Shape{{cells}, {1, cells, 1}, {1024, 1024}, {16, 16, 16, 16, 16, 1}, {1, 4, 16, 16, 32, 32}, {3, 7, 5, 11, 13, 69}} {
		n, ok := s.Size(cells)
		if !ok {
			t.Fatal(s)
		}
		want := make([]int, len(s))
		for i := range n {
			at, ok := s.At(i)
			if !ok || !slices.Equal(at, want) {
				t.Fatalf("%v: At %d: %v %v, not %v", s, i, at, ok, want)
			}
			if p, ok := s.Place(want); p != i || !ok {
				t.Fatalf("%v: Place %v: %d %v, not %d", s, want, p, ok, i)
			}
			next(s, want)
		}
		if at, ok := s.At(n); ok || len(at) != 0 {
			t.Errorf("%v: At %d: %v %v", s, n, at, ok)
		}
	}
}

// P702: of a shape of more than MaxCells cells Place and At are false; Has is as said.
func TestTooMany(t *testing.T) {
	for _, s := range great() {
		_, fits := size(s, cells)
		first, last := make([]int, len(s)), make([]int, len(s))
		for i, n := range s {
			last[i] = n - 1
		}
		some := !slices.Contains(s, 0)
		for _, at := range [][]int{first, last} {
			if s.Has(at) != some {
				t.Errorf("%v: Has %v: %v", s, at, s.Has(at))
			}
			p, ok := s.Place(at)
			if ok != (some && fits) || !ok && p != 0 {
				t.Errorf("%v: Place %v: %d %v", s, at, p, ok)
			}
		}
		for _, n := range []int{0, 1, 1023, cells - 1} {
			at, ok := s.At(n)
			if size, _ := size(s, cells); ok != (fits && n < size) || !ok && len(at) != 0 {
				t.Errorf("%v: At %d: %v %v", s, n, at, ok)
			}
		}
		for i, n := range s {
			over := slices.Clone(first)
			over[i] = n
			if s.Has(over) {
				t.Errorf("%v: Has %v", s, over)
			}
		}
	}
}

// P703: without each axis, and without those that there are not.
func TestWithout(t *testing.T) {
	for _, s := range append(small(), great()...) {
		for axis := range s {
			var want Shape
			for i, n := range s {
				if i != axis {
					want = append(want, n)
				}
			}
			if got, ok := s.Without(axis); !ok || !slices.Equal(got, want) {
				t.Errorf("%v: Without %d: %v %v", s, axis, got, ok)
			}
		}
		for _, axis := range append(odd(), len(s), len(s)+1, dims) {
			if got, ok := s.Without(axis); ok || len(got) != 0 {
				t.Errorf("%v: Without %d: %v %v", s, axis, got, ok)
			}
		}
	}
}

// P703: with one more axis anywhere, of all lengths about the ends of those that may be.
func TestWith(t *testing.T) {
	for _, s := range append(small(), great()...) {
		for _, n := range append(odd(), 0, 1, 2, 1000, cells-1, cells) {
			for _, axis := range append(odd(), 0, 1, 2, 3, 4, 5, 6, 7) {
				var want Shape
				right := len(s) < 6 && axis >= 0 && axis <= len(s) && n >= 0 && n <= cells
				for i := 0; right && i <= len(s); i++ {
					if i == axis {
						want = append(want, n)
					}
					if i < len(s) {
						want = append(want, s[i])
					}
				}
				if got, ok := s.With(axis, n); ok != right || !slices.Equal(got, want) {
					t.Errorf("%v: With %d, %d: %v %v, not %v", s, axis, n, got, ok, want)
				}
			}
		}
	}
}

// P703: an axis more and without it again is what was.
func TestWithAndWithout(t *testing.T) {
	for _, s := range small() {
		for axis := range len(s) + 1 {
			more, ok := s.With(axis, 9)
			if !ok {
				continue
			}
			if back, ok := more.Without(axis); !ok || !slices.Equal(back, s) {
				t.Errorf("%v: with and without %d: %v %v", s, axis, back, ok)
			}
		}
	}
}

// P703: axes in another order, of all lists of numbers about those that there are.
func TestPermute(t *testing.T) {
	for _, s := range []Shape{nil, {7}, {7, 8}, {7, 8, 9}, {0, 1, 1}, {cells, cells, cells}} {
		for _, axes := range rows(4, -1, 0, 1, 2, 3) {
			named := slices.Clone(axes)
			slices.Sort(named)
			right := len(named) == len(s)
			for i := 0; right && i < len(named); i++ {
				right = named[i] == i
			}
			got, ok := s.Permute(axes)
			if ok != right || !ok && len(got) != 0 {
				t.Errorf("%v: Permute %v: %v %v", s, axes, got, ok)
			}
			if !ok {
				continue
			}
			if len(got) != len(s) {
				t.Fatalf("%v: Permute %v: %v", s, axes, got)
			}
			for i, axis := range axes {
				if got[i] != s[axis] {
					t.Errorf("%v: Permute %v: %v", s, axes, got)
				}
			}
		}
		for _, n := range odd() {
			axes := make([]int, len(s))
			for i := range axes {
				axes[i] = i
			}
			for i := range axes {
				axes[i] = n
				if got, ok := s.Permute(axes); ok || len(got) != 0 {
					t.Errorf("%v: Permute %v: %v %v", s, axes, got, ok)
				}
				axes[i] = i
			}
		}
	}
	six := Shape{10, 11, 12, 13, 14, 15}
	if got, ok := six.Permute([]int{5, 3, 0, 4, 1, 2}); !ok || !slices.Equal(got, Shape{15, 13, 10, 14, 11, 12}) {
		t.Errorf("%v %v", got, ok)
	}
	for _, axes := range [][]int{{5, 3, 0, 4, 1, 1}, {0, 1, 2, 3, 4, 6}, {0, 1, 2, 3, 4}, {0, 1, 2, 3, 4, 5, 0}, {0, 1, 2, 3, 4, 5, 6}, {0, 0, 0, 0, 0, 0}, make([]int, 5000)} {
		if got, ok := six.Permute(axes); ok || len(got) != 0 {
			t.Errorf("Permute of %d axes: %v %v", len(axes), got, ok)
		}
	}
}

// P703: two shapes as one, of all lists of lengths about 1, and at the ends.
func TestJoin(t *testing.T) {
	all := append(rows(3, 0, 1, 2, 3), []int{cells}, []int{cells, 1}, []int{cells, cells}, []int{1, cells}, []int{1, 1, 1, 1, 1, 1}, []int{2, 1, 3, 1, 4, 1}, []int{2, 5, 3, 6, 1, 0}, []int{2, 5, 3, 6, 1, 2, 1})
	for _, a := range all {
		for _, b := range all {
			right := len(a) == len(b) && len(a) <= 6
			var want Shape
			for i := 0; right && i < len(a); i++ {
				lo, hi := min(a[i], b[i]), max(a[i], b[i])
				switch {
				case lo == hi, lo == 1:
					want = append(want, hi)
				case hi == 1:
					want = append(want, lo)
				default:
					right = false
				}
			}
			if !right {
				want = nil
			}
			if got, ok := Join(a, b); ok != right || !slices.Equal(got, want) {
				t.Errorf("Join of %v, %v: %v %v, not %v", a, b, got, ok, want)
			}
		}
	}
	if got, ok := Join(nil, Shape{}); !ok || len(got) != 0 {
		t.Errorf("of no axes: %v %v", got, ok)
	}
	if got, ok := Join(Shape{0, 1}, Shape{1, 0}); !ok || !slices.Equal(got, Shape{0, 0}) {
		t.Errorf("of none and one: %v %v", got, ok)
	}
}

// P701: nothing that is handed in is changed or kept, nor the room behind it, and no answers share anything.
func TestApart(t *testing.T) {
	for _, s := range []Shape{nil, {}, {3}, {2, 3}, {1, 2, 1}, {2, 3, 4, 5, 6}, {2, 2, 2, 2, 2, 2}, {cells, cells}, {-1}, {1, 1, 1, 1, 1, 1, 1}} {
		axes := make([]int, len(s))
		for i := range axes {
			axes[i] = len(s) - 1 - i
		}
		one := slices.Repeat([]int{1}, len(s))
		none := make([]int, len(s))
		kept(t, "Strides", s, nil, func(s, _ []int) []int { return Shape(s).Strides() })
		kept(t, "Permute", s, axes, func(s, l []int) []int { p, _ := Shape(s).Permute(l); return p })
		kept(t, "Permute", s, none, func(s, l []int) []int { p, _ := Shape(s).Permute(l); return p })
		kept(t, "Join", s, s, func(s, l []int) []int { p, _ := Join(s, l); return p })
		kept(t, "Join", s, one, func(s, l []int) []int { p, _ := Join(s, l); return p })
		kept(t, "Join", one, s, func(s, l []int) []int { p, _ := Join(s, l); return p })
		kept(t, "Has, Place", s, none, func(s, l []int) []int {
			p, _ := Shape(s).Place(l)
			Shape(s).Has(l)
			Shape(s).Right()
			Shape(s).Size(cells)
			return []int{p}
		})
		for i := range len(s) + 2 {
			kept(t, "At", s, nil, func(s, _ []int) []int { at, _ := Shape(s).At(i); return at })
			kept(t, "Without", s, nil, func(s, _ []int) []int { p, _ := Shape(s).Without(i); return p })
			kept(t, "With", s, nil, func(s, _ []int) []int { p, _ := Shape(s).With(i, 9); return p })
		}
	}
}

// P701: an answer to one shape in another's room is not that shape: Without and With of a shape cut from a longer list leave that as it is.
func TestCut(t *testing.T) {
	all := Shape{2, 3, 4, 5}
	head := all[:2]
	if got, ok := head.With(2, 9); !ok || !slices.Equal(got, Shape{2, 3, 9}) {
		t.Errorf("With: %v %v", got, ok)
	}
	if got, ok := head.With(0, 8); !ok || !slices.Equal(got, Shape{8, 2, 3}) {
		t.Errorf("With: %v %v", got, ok)
	}
	if got, ok := head.Without(0); !ok || !slices.Equal(got, Shape{3}) {
		t.Errorf("Without: %v %v", got, ok)
	}
	if !slices.Equal(all, Shape{2, 3, 4, 5}) {
		t.Errorf("the longer list is %v now", all)
	}
}

// The document's example.
func TestExample(t *testing.T) {
	s := Shape{2, 3}
	if l := s.Strides(); !slices.Equal(l, []int{3, 1}) {
		t.Errorf("Strides %v", l)
	}
	if p, ok := s.Place([]int{1, 2}); p != 5 || !ok {
		t.Errorf("Place %d %v", p, ok)
	}
}
