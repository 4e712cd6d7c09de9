package num

import (
	"math"
	"math/big"
	"slices"
	"testing"
)

// sizeCase is a call of Product or Total, and what it answers.
type sizeCase struct {
	most int
	l    []int
	want int
	ok   bool
}

// checkSizes asks each case twice, since the calls are pure, and looks whether the list stays as it was.
func checkSizes(t *testing.T, name string, f func(int, ...int) (int, bool), cases []sizeCase) {
	t.Helper()
	for _, c := range cases {
		room := append(slices.Clone(c.l), 77)
		for range 2 {
			n, ok := f(c.most, room[:len(c.l)]...)
			if n != c.want || ok != c.ok {
				t.Errorf("%s(%d, %v): %d %v, not %d %v", name, c.most, c.l, n, ok, c.want, c.ok)
			}
		}
		if !slices.Equal(room, append(slices.Clone(c.l), 77)) {
			t.Errorf("%s(%d, %v) changed its list or the room behind it: %v", name, c.most, c.l, room)
		}
	}
}

// P101, P102.
func TestProduct(t *testing.T) {
	const top = math.MaxInt
	checkSizes(t, "Product", Product, []sizeCase{
		{100, []int{4, 5, 5}, 100, true},
		{99, []int{4, 5, 5}, 0, false},
		{101, []int{4, 5, 5}, 100, true},
		{1, nil, 1, true},
		{1, []int{}, 1, true},
		{0, nil, 0, false},
		{-1, nil, 0, false},
		{0, []int{1}, 0, false},
		{0, []int{0}, 0, true},
		{0, []int{7, 0}, 0, true},
		{1, []int{1, 1, 1}, 1, true},
		{10, []int{1 << 40, 1 << 40, 0}, 0, true},
		{10, []int{0, 1 << 40, 1 << 40}, 0, true},
		{10, []int{top, 0, top}, 0, true},
		{10, []int{0, -1}, 0, false},
		{10, []int{-1, 0}, 0, false},
		{10, []int{-2, -3}, 0, false},
		{10, []int{11, -1}, 0, false},
		{10, []int{math.MinInt, 0}, 0, false},
		{-1, []int{0}, 0, false},
		{math.MinInt, []int{2}, 0, false},
		{top, []int{top}, top, true},
		{top, []int{1, top, 1}, top, true},
		{top - 1, []int{top}, 0, false},
		{top, []int{top, 2}, 0, false},
		{top, []int{1 << 32, 1 << 32}, 0, false},
		{top, []int{1 << 31, 1 << 32}, 0, false},
		{top, []int{1 << 31, 1 << 31}, 1 << 62, true},
		{top, []int{3037000500, 3037000500}, 0, false},
		{top, []int{3037000499, 3037000499}, 9223372030926249001, true},
		{top, []int{7, 7, 73, 127, 337, 92737, 649657}, top, true},
		{top - 1, []int{7, 7, 73, 127, 337, 92737, 649657}, 0, false},
	})
}

// P101, P102.
func TestTotal(t *testing.T) {
	const top = math.MaxInt
	checkSizes(t, "Total", Total, []sizeCase{
		{10, []int{3, 7}, 10, true},
		{9, []int{3, 7}, 0, false},
		{11, []int{3, 7}, 10, true},
		{0, nil, 0, true},
		{0, []int{}, 0, true},
		{5, nil, 0, true},
		{-1, nil, 0, false},
		{-1, []int{0}, 0, false},
		{math.MinInt, []int{math.MaxInt}, 0, false},
		{0, []int{0, 0}, 0, true},
		{0, []int{1}, 0, false},
		{10, []int{5, -1}, 0, false},
		{10, []int{-5, 6}, 0, false},
		{10, []int{11, -1}, 0, false},
		{10, []int{math.MinInt, math.MaxInt}, 0, false},
		{top, []int{top}, top, true},
		{top, []int{top, 0}, top, true},
		{top, []int{top - 1, 1}, top, true},
		{top, []int{top, 1}, 0, false},
		{top, []int{top, top, 2}, 0, false},
		{top - 1, []int{top}, 0, false},
	})
}

// P102: all short lists of small numbers, held against the plain product and sum.
func TestSmallSizes(t *testing.T) {
	for most := -1; most <= 9; most++ {
		for i := range 5 * 5 * 5 {
			l := []int{i%5 - 1, i/5%5 - 1, i/25 - 1}
			right := most >= 0 && slices.Min(l) >= 0
			p, s := l[0]*l[1]*l[2], l[0]+l[1]+l[2]
			if n, ok := Product(most, l...); ok != (right && p <= most) || ok && n != p || !ok && n != 0 {
				t.Errorf("Product(%d, %v): %d %v", most, l, n, ok)
			}
			if n, ok := Total(most, l...); ok != (right && s <= most) || ok && n != s || !ok && n != 0 {
				t.Errorf("Total(%d, %v): %d %v", most, l, n, ok)
			}
		}
	}
}

// numbers are small ones, great ones, and those about the ends of 64 bits.
func numbers() []int64 {
	var l []int64
	for i := range int64(25) {
		l = append(l, i-12, math.MinInt64+i, math.MaxInt64-i)
	}
	for _, n := range []int64{1 << 31, 1 << 32, 1 << 40, 1 << 62, 1000000007} {
		l = append(l, n-1, n, n+1, -n-1, -n, 1-n)
	}
	return l
}

// floor tells a by b rounded down, and what is left, in numbers without an end.
func floor(a, b int64) (*big.Int, *big.Int) {
	q, r := new(big.Int).QuoRem(big.NewInt(a), big.NewInt(b), new(big.Int))
	if r.Sign() != 0 && r.Sign() != big.NewInt(b).Sign() {
		q.Sub(q, big.NewInt(1))
		r.Add(r, big.NewInt(b))
	}
	return q, r
}

// P103.
func TestDivMod(t *testing.T) {
	for _, a := range numbers() {
		for _, b := range numbers() {
			q, okq := Div(a, b)
			r, okr := Mod(a, b)
			if b == 0 {
				if q != 0 || okq || r != 0 || okr {
					t.Errorf("%d by 0: %d %v, %d %v", a, q, okq, r, okr)
				}
				continue
			}
			wq, wr := floor(a, b)
			if !wq.IsInt64() {
				if a != math.MinInt64 || b != -1 {
					t.Fatalf("%d by %d passes", a, b)
				}
				wq = big.NewInt(math.MinInt64)
			}
			if !okq || q != wq.Int64() {
				t.Errorf("Div(%d, %d): %d %v, not %d", a, b, q, okq, wq)
			}
			if !okr || r != wr.Int64() {
				t.Errorf("Mod(%d, %d): %d %v, not %d", a, b, r, okr, wr)
			}
		}
	}
}

// P103: the numbers that the document names, written out.
func TestDivModNamed(t *testing.T) {
	for _, c := range [][4]int64{
		{-7, 2, -4, 1}, {7, -2, -4, -1}, {-7, -2, 3, -1}, {7, 2, 3, 1}, {-6, 2, -3, 0}, {6, -2, -3, 0}, {0, -5, 0, 0},
		{-1, math.MaxInt64, -1, math.MaxInt64 - 1}, {1, math.MinInt64, -1, math.MinInt64 + 1},
		{math.MinInt64, -1, math.MinInt64, 0}, {math.MinInt64, 1, math.MinInt64, 0}, {math.MaxInt64, -1, -math.MaxInt64, 0},
	} {
		q, okq := Div(c[0], c[1])
		r, okr := Mod(c[0], c[1])
		if q != c[2] || r != c[3] || !okq || !okr {
			t.Errorf("%d by %d: %d %v, %d %v", c[0], c[1], q, okq, r, okr)
		}
	}
}

// P103.
func TestDown(t *testing.T) {
	for _, a := range numbers() {
		for _, width := range numbers() {
			n, ok := Down(a, width)
			if width < 1 {
				if n != 0 || ok {
					t.Errorf("Down(%d, %d): %d %v", a, width, n, ok)
				}
				continue
			}
			q, _ := floor(a, width)
			want := q.Mul(q, big.NewInt(width))
			if ok != want.IsInt64() || ok && n != want.Int64() || !ok && n != 0 {
				t.Errorf("Down(%d, %d): %d %v, not %d", a, width, n, ok, want)
			}
		}
	}
}

// P103: the numbers that the document names, written out.
func TestDownNamed(t *testing.T) {
	for _, c := range []struct {
		a, width, want int64
		ok             bool
	}{
		{7, 5, 5, true}, {-7, 5, -10, true}, {10, 5, 10, true}, {-10, 5, -10, true}, {4, 5, 0, true}, {-1, 5, -5, true},
		{7, 0, 0, false}, {7, -5, 0, false}, {7, math.MinInt64, 0, false},
		{math.MinInt64, 1, math.MinInt64, true}, {math.MinInt64, 2, math.MinInt64, true}, {math.MinInt64 + 1, 2, math.MinInt64, true},
		{math.MinInt64, 5, 0, false}, {math.MinInt64 + 2, 5, 0, false}, {math.MinInt64 + 3, 5, math.MinInt64 + 3, true},
		{math.MaxInt64, math.MaxInt64, math.MaxInt64, true}, {math.MaxInt64 - 1, math.MaxInt64, 0, true},
		{-1, math.MaxInt64, -math.MaxInt64, true}, {math.MinInt64, math.MaxInt64, 0, false},
	} {
		if n, ok := Down(c.a, c.width); n != c.want || ok != c.ok {
			t.Errorf("Down(%d, %d): %d %v, not %d %v", c.a, c.width, n, ok, c.want, c.ok)
		}
	}
}

// P104.
func TestPlace(t *testing.T) {
	for _, c := range []struct {
		i, n, want int
		ok         bool
	}{
		{0, 3, 0, true}, {2, 3, 2, true}, {3, 3, 0, false}, {-1, 3, 2, true}, {-3, 3, 0, true}, {-4, 3, 0, false},
		{0, 1, 0, true}, {-1, 1, 0, true}, {1, 1, 0, false}, {-2, 1, 0, false},
		{0, 0, 0, false}, {-1, 0, 0, false}, {0, -1, 0, false}, {-1, -1, 0, false}, {-1, -3, 0, false}, {1, -3, 0, false},
		{0, math.MinInt, 0, false}, {-1, math.MinInt, 0, false}, {math.MinInt, math.MinInt, 0, false},
		{math.MaxInt, 3, 0, false}, {math.MinInt, 3, 0, false},
		{math.MaxInt, math.MaxInt, 0, false}, {math.MaxInt - 1, math.MaxInt, math.MaxInt - 1, true},
		{-1, math.MaxInt, math.MaxInt - 1, true}, {-math.MaxInt, math.MaxInt, 0, true}, {math.MinInt, math.MaxInt, 0, false},
	} {
		if i, ok := Place(c.i, c.n); i != c.want || ok != c.ok {
			t.Errorf("Place(%d, %d): %d %v, not %d %v", c.i, c.n, i, ok, c.want, c.ok)
		}
	}
}

// P104: small numbers, counted one by one.
func TestStepsCounted(t *testing.T) {
	for from := -9; from <= 9; from++ {
		for to := -9; to <= 9; to++ {
			for step := -10; step <= 10; step++ {
				want := 0
				for i := from; step > 0 && i < to || step < 0 && i > to; i += step {
					want++
				}
				if n, ok := Steps(from, to, step); n != want || ok != (step != 0) {
					t.Errorf("Steps(%d, %d, %d): %d %v, not %d", from, to, step, n, ok, want)
				}
			}
		}
	}
}

// P104: the ends of what Steps takes.
func TestStepsEnds(t *testing.T) {
	const end = 1 << 40
	for _, c := range []struct {
		from, to, step, want int
		ok                   bool
	}{
		{5, 0, -2, 3, true}, {0, 7, 3, 3, true}, {0, 6, 3, 2, true}, {3, 3, 1, 0, true}, {3, 3, -1, 0, true},
		{0, 5, -1, 0, true}, {5, 0, 1, 0, true}, {0, 5, 0, 0, false}, {5, 5, 0, 0, false},
		{-end, end, 1, 2 * end, true}, {end, -end, -1, 2 * end, true}, {-end, end, end, 2, true}, {end, -end, -end, 2, true},
		{-end, end, -1, 0, true}, {end, end, 1, 0, true}, {-end, end, 0, 0, false}, {1 - end, end, end, 2, true}, {0, end, end, 1, true},
		{end + 1, 0, -1, 0, false}, {-end - 1, 0, 1, 0, false}, {0, end + 1, 1, 0, false}, {0, -end - 1, -1, 0, false},
		{0, 5, end + 1, 0, false}, {5, 0, -end - 1, 0, false}, {0, 0, end + 1, 0, false}, {5, 0, end + 1, 0, false},
		{math.MinInt, 0, 1, 0, false}, {math.MaxInt, 0, -1, 0, false}, {0, math.MaxInt, 1, 0, false}, {0, math.MinInt, -1, 0, false},
		{0, 5, math.MaxInt, 0, false}, {5, 0, math.MinInt, 0, false}, {math.MinInt, math.MaxInt, math.MinInt, 0, false},
	} {
		if n, ok := Steps(c.from, c.to, c.step); n != c.want || ok != c.ok {
			t.Errorf("Steps(%d, %d, %d): %d %v, not %d %v", c.from, c.to, c.step, n, ok, c.want, c.ok)
		}
	}
}
