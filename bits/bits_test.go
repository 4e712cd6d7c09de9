package bits

import (
	"bytes"
	"math"
	"slices"
	"testing"
)

// limit is how many truths the document lets a row have, written out so that the package's own number is tested too.
const limit = 1 << 21

// lengths are those about the ends of bytes and words.
func lengths() []int {
	return []int{0, 1, 2, 7, 8, 9, 15, 16, 17, 31, 63, 64, 65, 71, 72, 127, 128, 129, 191, 192, 200}
}

// odd are numbers that are no places of a short row.
func odd() []int {
	return []int{-1, -2, -63, -64, -65, math.MinInt, math.MinInt + 1, math.MaxInt, math.MaxInt - 1, limit, limit + 1, 1 << 32}
}

// truths tells n truths without an order to be seen, others for each seed.
func truths(n int, seed uint64) []bool {
	l := make([]bool, n)
	for i := range l {
		seed = seed*6364136223846793005 + 1442695040888963407
		l[i] = seed>>63 == 1
	}
	return l
}

// rows tells rows of n truths: none, all, one at each end, every other one, and some without an order.
func rows(n int) [][]bool {
	none, all, other := make([]bool, n), make([]bool, n), make([]bool, n)
	for i := range n {
		all[i], other[i] = true, i%2 == 1
	}
	l := [][]bool{none, all, other, truths(n, 1), truths(n, 2)}
	if n > 0 {
		first, last := make([]bool, n), make([]bool, n)
		first[0], last[n-1] = true, true
		l = append(l, first, last)
	}
	return l
}

// packed tells the bytes of truths, one by one.
func packed(l []bool) []byte {
	b := make([]byte, (len(l)+7)/8)
	for i, so := range l {
		if so {
			b[i/8] += 1 << (i % 8)
		}
	}
	return b
}

// count tells how many are so.
func count(l []bool) int {
	n := 0
	for _, so := range l {
		if so {
			n++
		}
	}
	return n
}

// check looks whether all that m tells is that of the truths l.
func check(t *testing.T, what string, m *Mask, l []bool) {
	t.Helper()
	if m == nil {
		t.Fatalf("%s: nil", what)
	}
	if m.Len() != len(l) || m.Count() != count(l) || !bytes.Equal(m.Bytes(), packed(l)) {
		t.Fatalf("%s: %d, %d, %x, not %d, %d, %x", what, m.Len(), m.Count(), m.Bytes(), len(l), count(l), packed(l))
	}
	for i, so := range l {
		if m.Get(i) != so {
			t.Fatalf("%s: Get(%d): %v", what, i, !so)
		}
	}
	if m.Get(len(l)) || !Same(m, Of(l...)) || !Same(Of(l...), m) {
		t.Fatalf("%s: not the same as %v", what, l)
	}
}

// P202.
func TestNew(t *testing.T) {
	for _, n := range lengths() {
		check(t, "New none", New(n, false), make([]bool, n))
		check(t, "New all", New(n, true), rows(n)[1])
	}
	for _, c := range [][2]int{{-1, 0}, {math.MinInt, 0}, {limit - 1, limit - 1}, {limit, limit}, {limit + 1, limit}, {math.MaxInt, limit}} {
		for _, all := range []bool{false, true} {
			m, want := New(c[0], all), 0
			if all {
				want = c[1]
			}
			if m == nil || m.Len() != c[1] || m.Count() != want || m.Get(c[1]-1) != (all && c[1] > 0) || m.Get(c[1]) {
				t.Errorf("New(%d, %v): %d truths, %d so", c[0], all, m.Len(), m.Count())
			}
		}
	}
}

// P202.
func TestOf(t *testing.T) {
	if m := Of(true, false, true); m.Len() != 3 || m.Count() != 2 || !bytes.Equal(m.Bytes(), []byte{5}) {
		t.Errorf("Of: %d %d %v", m.Len(), m.Count(), m.Bytes())
	}
	check(t, "Of()", Of(), nil)
	check(t, "Of(none)", Of([]bool{}...), nil)
	for _, n := range lengths() {
		for _, l := range rows(n) {
			room := append(slices.Clone(l), true, false)
			m := Of(room[:n]...)
			check(t, "Of", m, l)
			m.Fill(0, n, true)
			if !slices.Equal(room, append(slices.Clone(l), true, false)) {
				t.Fatal("Of changed its list or the room behind it")
			}
			m = Of(room[:n]...)
			for i := range room {
				room[i] = !room[i]
			}
			check(t, "Of of a list that changed", m, l)
		}
	}
	l := make([]bool, limit+70)
	l[0], l[limit-1], l[limit], l[limit+69] = true, true, true, true
	if m := Of(l...); m.Len() != limit || m.Count() != 2 || !m.Get(limit-1) || m.Get(limit) {
		t.Errorf("Of too many: %d %d", m.Len(), m.Count())
	}
	if m := Of(l[:limit]...); m.Len() != limit || m.Count() != 2 {
		t.Errorf("Of as many as there may be: %d %d", m.Len(), m.Count())
	}
}

// P202.
func TestGetSet(t *testing.T) {
	for _, n := range lengths() {
		for _, l := range rows(n) {
			m := Of(l...)
			for i := range n {
				for _, b := range []bool{!l[i], l[i], l[i], !l[i]} {
					want := slices.Clone(l)
					want[i] = b
					if !m.Set(i, b) {
						t.Fatalf("Set(%d) of %d: false", i, n)
					}
					check(t, "Set", m, want)
				}
				m.Set(i, l[i])
			}
			for _, i := range append(odd(), n, n+1, n+64) {
				if m.Get(i) || m.Set(i, true) || m.Set(i, false) {
					t.Fatalf("%d of %d: there", i, n)
				}
			}
			check(t, "what Set refused", m, l)
		}
	}
}

// P202: all from and to, also those that are no places, or not in order.
func TestFill(t *testing.T) {
	for _, n := range []int{0, 1, 8, 63, 64, 65, 130} {
		for from := -2; from <= n+2; from++ {
			for to := -2; to <= n+2; to++ {
				for _, b := range []bool{false, true} {
					l := truths(n, uint64(from*to))
					m, right := Of(l...), 0 <= from && from <= to && to <= n
					if m.Fill(from, to, b) != right {
						t.Fatalf("Fill(%d, %d) of %d: %v", from, to, n, !right)
					}
					for i := from; right && i < to; i++ {
						l[i] = b
					}
					check(t, "Fill", m, l)
				}
			}
		}
	}
	l := truths(200, 3)
	m := Of(l...)
	for _, i := range odd() {
		for _, k := range append(odd(), 0, 1, 200) {
			if m.Fill(i, k, true) || m.Fill(k, i, true) || m.Fill(i, k, false) || m.Fill(k, i, false) {
				t.Errorf("Fill(%d, %d): true", i, k)
			}
		}
	}
	check(t, "what Fill refused", m, l)
	if m = New(limit, false); !m.Fill(1, limit, true) || m.Count() != limit-1 || !m.Fill(0, limit-1, false) || m.Next(0, true) != limit-1 {
		t.Errorf("Fill of as many as there may be: %d", m.Count())
	}
}

// P202.
func TestNext(t *testing.T) {
	for _, n := range lengths() {
		for _, l := range rows(n) {
			m := Of(l...)
			for from := -3; from <= n+70; from++ {
				for _, b := range []bool{false, true} {
					want := max(from, 0)
					for want < n && l[want] != b {
						want++
					}
					if got := m.Next(from, b); got != min(want, n) {
						t.Fatalf("Next(%d, %v) of %v: %d", from, b, l, got)
					}
				}
			}
			for _, from := range odd() {
				at := 0
				if from > 0 {
					at = n
				}
				if m.Next(from, true) != m.Next(at, true) || m.Next(from, false) != m.Next(at, false) {
					t.Fatalf("Next(%d) of %v: %d %d", from, l, m.Next(from, true), m.Next(from, false))
				}
			}
		}
	}
	m := New(limit, false)
	if m.Next(0, true) != limit || m.Next(limit-1, false) != limit-1 || m.Next(limit, false) != limit || m.Next(limit+1, false) != limit {
		t.Error("Next of as many as there may be")
	}
}

// P202, P203: gone through from one to the next, each truth that is so is met once.
func TestNextByNext(t *testing.T) {
	l := truths(1000, 4)
	m, met := Of(l...), make([]bool, 1000)
	for i := m.Next(0, true); i < m.Len(); i = m.Next(i+1, true) {
		met[i] = true
	}
	check(t, "Next by Next", Of(met...), l)
}

// P201: a nil Mask is a row of no truths, in every call.
func TestNil(t *testing.T) {
	var m *Mask
	if m.Len() != 0 || m.Count() != 0 || len(m.Bytes()) != 0 {
		t.Errorf("nil: %d %d %v", m.Len(), m.Count(), m.Bytes())
	}
	for _, i := range append(odd(), 0, 1, 64) {
		if m.Get(i) || m.Set(i, true) || m.Next(i, true) != 0 || m.Next(i, false) != 0 || m.Fill(i, 0, true) != (i == 0) || m.Fill(0, i, true) != (i == 0) {
			t.Errorf("nil: %d is there", i)
		}
	}
	check(t, "the Clone of a nil one", m.Clone(), nil)
	if c := m.Clone(); c.Set(0, true) || m.Clone() == c {
		t.Error("the Clone of a nil one is not new, or not empty")
	}
	if !Same(nil, nil) || !Same(nil, Of()) || !Same(New(0, true), nil) || Same(nil, Of(false)) || Same(Of(false), nil) {
		t.Error("Same of nil")
	}
	for _, b := range []*Mask{nil, Of(), New(3, true), New(200, true)} {
		for _, got := range []*Mask{Both(nil, b), Both(b, nil), Either(nil, b), Either(b, nil)} {
			check(t, "with a nil one", got, nil)
		}
	}
}

// P201: what is told shares nothing with what it was told of.
func TestApart(t *testing.T) {
	for _, n := range lengths()[1:] {
		l := truths(n, 5)
		m, other := Of(l...), New(n, true)
		told := []*Mask{m.Clone(), Both(m, other), Both(other, m), Both(m, m), Either(m, m), Either(m, New(n, false)), m.Clone()}
		bare := m.Bytes()
		read, _ := From(bare, n)
		for i, x := range append(told, read) {
			check(t, "told", x, l)
			x.Fill(0, n, i%2 == 0)
		}
		check(t, "a Mask of which others were told", m, l)
		check(t, "a Mask with which others were told", other, rows(n)[1])
		for i := range bare {
			bare[i] ^= 255
		}
		check(t, "a Mask whose bytes changed", m, l)
		a, _ := From(packed(l), n)
		b := a.Clone()
		a.Fill(0, n, true)
		check(t, "a Clone", b, l)
		b.Fill(0, n, false)
		check(t, "what was cloned", a, rows(n)[1])
	}
}

// P203.
func TestFrom(t *testing.T) {
	for _, c := range []struct {
		b  []byte
		n  int
		ok bool
	}{
		{nil, 0, true}, {[]byte{}, 0, true}, {[]byte{0}, 0, false}, {nil, 1, false}, {nil, -1, false}, {[]byte{0}, -1, false},
		{nil, -7, false}, {nil, -8, false}, {nil, math.MinInt, false}, {nil, math.MaxInt, false}, {nil, math.MaxInt - 7, false},
		{[]byte{5}, 3, true}, {[]byte{5}, 8, true}, {[]byte{5}, 2, false}, {[]byte{5}, 9, false}, {[]byte{8}, 3, false}, {[]byte{128}, 3, false},
		{[]byte{7}, 3, true}, {[]byte{0}, 1, true}, {[]byte{1}, 1, true}, {[]byte{2}, 1, false}, {[]byte{255}, 8, true}, {[]byte{127}, 7, true}, {[]byte{128}, 7, false},
		{[]byte{255, 1}, 9, true}, {[]byte{255, 2}, 9, false}, {[]byte{255, 0}, 8, false}, {[]byte{255}, 9, false}, {[]byte{255, 1, 0}, 9, false},
		{make([]byte, limit/8), limit, true}, {make([]byte, limit/8), limit - 7, true}, {make([]byte, limit/8), limit - 8, false},
		{make([]byte, limit/8), limit + 1, false}, {make([]byte, limit/8+1), limit + 1, false}, {make([]byte, limit/8+1), limit, false}, {make([]byte, limit/8+1), limit + 8, false},
	} {
		m, ok := From(c.b, c.n)
		if ok != c.ok || (m != nil) != c.ok {
			t.Fatalf("From(%d bytes, %d): %v %v, not %v", len(c.b), c.n, m != nil, ok, c.ok)
		}
		if ok && (m.Len() != c.n || !bytes.Equal(m.Bytes(), c.b)) {
			t.Errorf("From(%x, %d): %d, %x", c.b, c.n, m.Len(), m.Bytes())
		}
	}
}

// P203: two bytes for every n about: they are just so, if no truth stands behind the last one.
func TestFromAll(t *testing.T) {
	for first := range 256 {
		for second := range 256 {
			for n := 7; n <= 17; n++ {
				b := []byte{byte(first), byte(second)}
				right := n == 16 || n > 8 && n < 16 && second>>(n-8) == 0
				m, ok := From(b, n)
				if ok != right || (m != nil) != right || b[0] != byte(first) || b[1] != byte(second) {
					t.Fatalf("From(%x, %d): %v", b, n, ok)
				}
				if ok && (!bytes.Equal(m.Bytes(), b) || m.Len() != n) {
					t.Fatalf("From(%x, %d) has %x", b, n, m.Bytes())
				}
			}
		}
	}
}

// P203, P201: the bytes are not changed, nor the room behind them, and not kept.
func TestFromKeepsNone(t *testing.T) {
	room := []byte{5, 1, 255, 255}
	m, ok := From(room[:2], 9)
	if !ok || !bytes.Equal(room, []byte{5, 1, 255, 255}) {
		t.Fatal(ok, room)
	}
	m.Fill(0, 9, true)
	if !bytes.Equal(room, []byte{5, 1, 255, 255}) {
		t.Error(room)
	}
	m, _ = From(room[:2], 9)
	room[0], room[1] = 0, 0
	if !bytes.Equal(m.Bytes(), []byte{5, 1}) {
		t.Error(m.Bytes())
	}
}

// P204.
func TestThereAndBack(t *testing.T) {
	for n := range 300 {
		for _, l := range rows(n) {
			m := Of(l...)
			back, ok := From(m.Bytes(), m.Len())
			if !ok || !Same(back, m) || !bytes.Equal(back.Bytes(), m.Bytes()) {
				t.Fatalf("there and back: %v %v", l, ok)
			}
			check(t, "there and back", back, l)
		}
	}
	for _, m := range []*Mask{nil, New(limit, true), New(limit-1, true), New(limit+1, true), Of(truths(limit, 6)...)} {
		if back, ok := From(m.Bytes(), m.Len()); !ok || back == nil || !Same(back, m) {
			t.Errorf("there and back: %d truths", m.Len())
		}
	}
}

// P203.
func TestSame(t *testing.T) {
	for _, n := range lengths() {
		for _, l := range rows(n) {
			m := Of(l...)
			if !Same(m, m) || !Same(m, m.Clone()) || Same(m, Of(append(slices.Clone(l), false)...)) || Same(Of(append(slices.Clone(l), true)...), m) {
				t.Fatalf("Same: %v", l)
			}
			for i := range n {
				x := m.Clone()
				x.Set(i, !l[i])
				if Same(m, x) || Same(x, m) {
					t.Fatalf("Same, but for the one at %d: %v", i, l)
				}
			}
		}
	}
}

// P203.
func TestBothEither(t *testing.T) {
	for _, n := range lengths() {
		for _, k := range lengths() {
			for i, l := range rows(n) {
				o := rows(k)[(i+1)%5]
				short := min(n, k)
				both, either := make([]bool, short), make([]bool, short)
				for j := range short {
					both[j], either[j] = l[j] && o[j], l[j] || o[j]
				}
				a, b := Of(l...), Of(o...)
				check(t, "Both", Both(a, b), both)
				check(t, "Either", Either(a, b), either)
				check(t, "one of both", a, l)
				check(t, "the other one", b, o)
			}
		}
	}
	if m := Either(New(limit, true), New(65, false)); m.Len() != 65 || m.Count() != 65 || m.Next(0, false) != 65 {
		t.Errorf("Either: %d %d", m.Len(), m.Count())
	}
}

// P202: what is told of a row that was filled, set and put together is that of the truths one by one.
func TestManySteps(t *testing.T) {
	const n = 150
	l := make([]bool, n)
	m, seed := New(n, false), uint64(7)
	for range 3000 {
		seed = seed*6364136223846793005 + 1442695040888963407
		from, to, b := int(seed>>33)%n, int(seed>>43)%(n+1), seed>>63 == 1
		switch seed >> 61 & 3 {
		case 0:
			m.Set(from, b)
			l[from] = b
		case 1, 2:
			if m.Fill(from, to, b) {
				for i := from; i < to; i++ {
					l[i] = b
				}
			}
		case 3:
			o := truths(n, seed)
			m = Either(Both(m, Of(o...)), Both(Of(truths(n, seed+1)...), Of(o...)))
			for i, x := range truths(n, seed+1) {
				l[i] = o[i] && (l[i] || x)
			}
		}
		check(t, "many steps", m, l)
	}
}
