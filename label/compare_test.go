package label

import (
	"bytes"
	"math"
	"slices"
	"strings"
	"testing"
)

// sign tells -1, 0, or 1: which of two numbers is less.
func sign(a, b int64) int {
	if a < b {
		return -1
	}
	if a > b {
		return 1
	}
	return 0
}

// single tells which of two right numbers or texts is ahead.
func single(a, b Label) int {
	if a.Kind != b.Kind {
		return sign(int64(a.Kind), int64(b.Kind))
	}
	if a.Kind == 0 {
		return sign(a.N, b.N)
	}
	return bytes.Compare([]byte(a.S), []byte(b.S))
}

// lists tells which of two rows of parts is ahead.
func lists(a, b []Label) int {
	for i := range min(len(a), len(b)) {
		if o := single(a[i], b[i]); o != 0 {
			return o
		}
	}
	return sign(int64(len(a)), int64(len(b)))
}

// known is a label, of which it is known whether it is right, and what its parts are, if it is a tuple.
type known struct {
	label Label
	right bool
	row   []Label
}

// all are labels of which that is known.
func all() []known {
	var l []known
	for _, a := range singles() {
		l = append(l, known{label: a, right: true})
	}
	for _, row := range rows() {
		l = append(l, known{label: tuple(row), right: true, row: row})
	}
	for _, a := range wrongs() {
		l = append(l, known{label: a})
	}
	return l
}

// want tells which of two labels is ahead, as the words for it say.
func want(a, b known) int {
	switch {
	case a.right && !b.right:
		return -1
	case b.right && !a.right:
		return 1
	case !a.right:
		if o := sign(int64(a.label.Kind), int64(b.label.Kind)); o != 0 {
			return o
		}
		if o := sign(a.label.N, b.label.N); o != 0 {
			return o
		}
		return bytes.Compare([]byte(a.label.S), []byte(b.label.S))
	case a.row != nil && b.row != nil:
		return lists(a.row, b.row)
	}
	return single(a.label, b.label)
}

// P503, P505: alike are only the same ones, and turned round the answer is turned.
func TestCompare(t *testing.T) {
	l := all()
	for i, a := range l {
		for k, b := range l {
			got := Compare(a.label, b.label)
			if got != want(a, b) {
				t.Fatalf("Compare(%v, %v): %d, not %d", a.label, b.label, got, want(a, b))
			}
			if got != -Compare(b.label, a.label) || (got == 0) != (i == k) {
				t.Fatalf("Compare(%v, %v): %d, not an order", a.label, b.label, got)
			}
		}
		same := Label{a.label.Kind, a.label.N, strings.Clone(a.label.S)}
		if got := Compare(a.label, same); got != 0 {
			t.Fatalf("Compare(%v) with itself: %d", same, got)
		}
	}
}

// P503, P505: put in order by it all stand so to each other, not only to those beside them.
func TestOrderOfAll(t *testing.T) {
	var l []Label
	for _, a := range all() {
		l = append(l, a.label)
	}
	seed := uint64(5)
	for range 3 {
		for i := range l {
			seed = seed*6364136223846793005 + 1442695040888963407
			k := int(seed>>33) % (i + 1)
			l[i], l[k] = l[k], l[i]
		}
		slices.SortFunc(l, Compare)
		for i := range l {
			for k := range l {
				if got := Compare(l[i], l[k]); got != sign(int64(i), int64(k)) {
					t.Fatalf("Compare(%v, %v): %d, though they stand at %d and %d", l[i], l[k], got, i, k)
				}
			}
		}
	}
}

// made tells the tuple of some numbers and texts that are right.
func made(t *testing.T, l ...Label) Label {
	t.Helper()
	a, ok := Tuple(l...)
	if !ok {
		t.Fatal("no tuple", l)
	}
	return a
}

// P503: each label is ahead of the next one.
func TestCompareRow(t *testing.T) {
	long := strings.Repeat("a", 33)
	row := []Label{
		Int(math.MinInt64), Int(-256), Int(-1), Int(0), Int(1), Int(255), Int(256), Int(math.MaxInt64),
		Text(""), Text("\x00"), Text("B"), Text("a"), Text("a\x00"), Text("aa"), Text("aab"), Text("ab"), Text("b"), Text("ba"), Text("\x7f"), Text("\x80"), Text("\xff"),
		made(t, Int(-1)), made(t, Int(-1), Int(-9)), made(t, Int(-1), Text("")), made(t, Int(0)), made(t, Int(1)), made(t, Int(1), Int(2)), made(t, Int(1), Int(2), Int(0)), made(t, Int(1), Int(2), Int(0), Int(5)), made(t, Int(1), Int(2), Int(1)), made(t, Int(1), Int(3)), made(t, Int(256)),
		made(t, Text("")), made(t, Text(""), Int(1)), made(t, Text("ab")), made(t, Text("ab"), Int(0)), made(t, Text("ab"), Text("abc")), made(t, Text("ab"), Text("b")), made(t, Text("abc")), made(t, Text("b")), made(t, Text("b"), Int(-1), Text("z"), Text("yy")), made(t, Text("b"), Int(-1), Text("z"), Text("z")),
		{Kind: 0, N: -1, S: "b"}, {Kind: 0, N: 0, S: "a"}, {Kind: 0, N: 1, S: "a"}, {Kind: 0, N: 1, S: "ab"}, {Kind: 0, N: 1, S: "b"},
		{Kind: 1, N: -3}, Text(long), Text(long + "a"), Text("b" + long), {Kind: 1, N: 4, S: ""},
		{Kind: 2, N: -1}, {Kind: 2, N: 0, S: "x"}, {Kind: 2, N: 1, S: ""}, {Kind: 2, N: 1, S: "\x01\x02b"}, {Kind: 2, N: 5},
		{Kind: 3, N: -1}, {Kind: 3}, {Kind: 3, S: "a"}, {Kind: 127}, {Kind: 128}, {Kind: 255, N: math.MinInt64}, {Kind: 255, N: math.MaxInt64, S: "a"},
	}
	for i := range row {
		for k := range row {
			if got := Compare(row[i], row[k]); got != sign(int64(i), int64(k)) {
				t.Errorf("Compare(%v, %v): %d", row[i], row[k], got)
			}
		}
	}
}
