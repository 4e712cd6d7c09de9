package order

import (
	"math"
	"slices"
	"strings"
	"testing"
)

// thing has a key, by which it comes, and a number of its own, by which it is told from those that are alike.
type thing struct {
	key, id int
}

// things tells things with these keys, each with its place as its own number.
func things(keys []int) []thing {
	l := make([]thing, len(keys))
	for i, k := range keys {
		l[i] = thing{key: k, id: i}
	}
	return l
}

// byKey tells which key is ahead, in the smallest numbers.
func byKey(a, b thing) int {
	switch {
	case a.key < b.key:
		return -1
	case a.key > b.key:
		return 1
	}
	return 0
}

// cmps are orders of things: by keys, with small numbers and with the greatest, turned round, by what is left of the keys, with all alike, and none.
func cmps() map[string]func(a, b thing) int {
	return map[string]func(a, b thing) int{
		"keys": byKey,
		"far": func(a, b thing) int {
			switch byKey(a, b) {
			case -1:
				return math.MinInt
			case 1:
				return math.MaxInt
			}
			return 0
		},
		"falling": func(a, b thing) int { return 3 * byKey(b, a) },
		"rests":   func(a, b thing) int { return a.key&1 - b.key&1 },
		"alike":   func(a, b thing) int { return 0 },
		"nil":     nil,
	}
}

// asked tells cmp, and of a nil one that to which all are alike.
func asked(cmp func(a, b thing) int) func(a, b thing) int {
	if cmp == nil {
		return func(a, b thing) int { return 0 }
	}
	return cmp
}

// step tells the next of a row of numbers without an order to be seen.
func step(seed uint64) uint64 {
	return seed*6364136223846793005 + 1442695040888963407
}

// odd tells n keys of so many kinds without an order to be seen, others for each seed.
func odd(n, kinds int, seed uint64) []int {
	l := make([]int, n)
	for i := range l {
		seed = step(seed)
		l[i] = int(seed>>33) % kinds
	}
	return l
}

// every tells all lists of n of the numbers from from on, up to ahead of to.
func every(n, from, to int) [][]int {
	all := [][]int{{}}
	for range n {
		var longer [][]int
		for _, l := range all {
			for k := from; k < to; k++ {
				longer = append(longer, append(slices.Clone(l), k))
			}
		}
		all = longer
	}
	return all
}

// lists are keys: all of few kinds that are short, and longer ones that rise, fall, stand still, go up and down, and have no order to be seen.
func lists() [][]int {
	all := [][]int{nil}
	for n := range 7 {
		all = append(all, every(n, 0, 3)...)
	}
	all = append(all, every(4, 0, 4)...)
	for _, n := range []int{7, 8, 9, 15, 16, 17, 31, 32, 33, 63, 64, 65, 100, 127, 128, 129} {
		rising, falling, still, teeth, late := make([]int, n), make([]int, n), make([]int, n), make([]int, n), make([]int, n)
		for i := range n {
			rising[i], falling[i], still[i], teeth[i], late[i] = i, n-i, 4, i%5, i+1
		}
		late[n-1] = 0
		all = append(all, rising, falling, still, teeth, late, odd(n, 2, 1), odd(n, 9, 2), odd(n, 1000, 3))
	}
	return all
}

// eachList asks f with all lists and all orders, and looks whether the list stays as it was.
func eachList(t *testing.T, f func(t *testing.T, l []thing, cmp func(a, b thing) int)) {
	t.Helper()
	for name, cmp := range cmps() {
		t.Run(name, func(t *testing.T) {
			for _, keys := range lists() {
				room := append(things(keys), thing{key: -7, id: -7})
				was := slices.Clone(room)
				f(t, room[:len(keys)], cmp)
				if !slices.Equal(room, was) {
					t.Fatalf("%v: it was changed, or the room behind it: %v", was, room)
				}
			}
		})
	}
}

// sorted tells the places in their order, found slowly: each is put behind all that are not behind it.
func sorted(l []thing, cmp func(a, b thing) int) []int {
	var o []int
	for i, x := range l {
		at := len(o)
		for at > 0 && cmp(x, l[o[at-1]]) < 0 {
			at--
		}
		o = slices.Insert(o, at, i)
	}
	return o
}

// ordered tells the things of l in their order.
func ordered(l []thing, cmp func(a, b thing) int) []thing {
	var o []thing
	for _, p := range sorted(l, asked(cmp)) {
		o = append(o, l[p])
	}
	return o
}

// P402: those that are alike as they stand.
func TestSort(t *testing.T) {
	eachList(t, func(t *testing.T, l []thing, cmp func(a, b thing) int) {
		want := sorted(l, asked(cmp))
		for range 2 {
			if got := Sort(l, cmp); !slices.Equal(got, want) {
				t.Fatalf("Sort(%v): %v, not %v", l, got, want)
			}
		}
	})
}

// Examples.
func TestExample(t *testing.T) {
	cmp := func(a, b int) int { return a - b }
	l := []int{3, 1, 3, 2}
	if got := Sort(l, cmp); !slices.Equal(got, []int{1, 3, 0, 2}) {
		t.Error(got)
	}
	if got := Ranks(l, cmp); !slices.Equal(got, []int{2, 0, 2, 1}) {
		t.Error(got)
	}
}

// P401, P402: all is of any type, also of one whose things cannot be held against each other.
func TestAnyType(t *testing.T) {
	words := []string{"pear", "", "fig", "apple", "fig"}
	if got := Sort(words, strings.Compare); !slices.Equal(got, []int{1, 3, 2, 4, 0}) {
		t.Error(got)
	}
	if got := Ranks(words, strings.Compare); !slices.Equal(got, []int{3, 0, 2, 1, 2}) {
		t.Error(got)
	}
	rows := [][]byte{{2}, nil, {1, 1}, {1}}
	if got := Sort(rows, slices.Compare[[]byte]); !slices.Equal(got, []int{1, 3, 2, 0}) {
		t.Error(got)
	}
	calls := []func() int{func() int { return 2 }, func() int { return 1 }}
	byCall := func(a, b func() int) int { return a() - b() }
	o, ok := Take(calls, Sort(calls, byCall))
	if !ok || len(o) != 2 || o[0]() != 1 || o[1]() != 2 || Rising(o, byCall) != 2 {
		t.Error("calls")
	}
	if at, there := Find(o, calls[0], byCall); at != 1 || !there {
		t.Error(at, there)
	}
	empty := make([]struct{}, 5)
	if got := Sort(empty, nil); !slices.Equal(got, []int{0, 1, 2, 3, 4}) {
		t.Error(got)
	}
	if got := len(Merge(empty, empty, nil)); got != 10 {
		t.Error(got)
	}
}

// P402.
func TestTake(t *testing.T) {
	for n := range 4 {
		l := make([]string, n)
		for i := range l {
			l[i] = strings.Repeat("x", i+1)
		}
		for k := range 4 {
			for _, places := range every(k, -1, n+1) {
				var want []string
				fine := true
				for _, p := range places {
					fine = fine && p >= 0 && p < n
					if fine {
						want = append(want, l[p])
					}
				}
				if !fine {
					want = nil
				}
				was := slices.Clone(places)
				got, ok := Take(l, places)
				if ok != fine || !slices.Equal(got, want) || !slices.Equal(places, was) {
					t.Fatalf("Take(%q, %v): %q %v, not %q %v", l, was, got, ok, want, fine)
				}
			}
		}
	}
}

// far are numbers that are no places of a short list.
func far() []int {
	return []int{-1, -2, -3, math.MinInt, math.MinInt + 1, math.MaxInt, math.MaxInt - 1, 3, 4, 1 << 31, 1 << 32, -1 << 32}
}

// P402: none, false, wherever the one stands that is no place.
func TestTakeFar(t *testing.T) {
	l := []int{5, 6, 7}
	for _, p := range far() {
		for _, places := range [][]int{{p}, {p, 0, 1, 2}, {0, p, 2}, {0, 1, 2, p}, {p, p}} {
			if got, ok := Take(l, places); len(got) != 0 || ok {
				t.Errorf("Take(%v): %v %v", places, got, ok)
			}
		}
	}
	for _, none := range [][]int{nil, {}} {
		if got, ok := Take(none, []int{0}); len(got) != 0 || ok {
			t.Error("Take of nothing", got, ok)
		}
		if got, ok := Take(l, none); len(got) != 0 || !ok {
			t.Error("Take at no places", got, ok)
		}
		if got, ok := Take(none, none); len(got) != 0 || !ok {
			t.Error("Take of nothing, at no places", got, ok)
		}
	}
}

// places tells where each of the places stands, found slowly, and whether each is there once.
func places(l []int) ([]int, bool) {
	var o []int
	for p := range l {
		i := slices.Index(l, p)
		if i < 0 {
			return nil, false
		}
		o = append(o, i)
	}
	return o, true
}

// P402.
func TestBack(t *testing.T) {
	for n := range 6 {
		for _, l := range every(n, -1, n+1) {
			was := slices.Clone(l)
			want, fine := places(l)
			got, ok := Back(l)
			if ok != fine || !slices.Equal(got, want) || !slices.Equal(l, was) {
				t.Fatalf("Back(%v): %v %v, not %v %v", was, got, ok, want, fine)
			}
		}
	}
	if got, ok := Back(nil); len(got) != 0 || !ok {
		t.Error("Back of nothing", got, ok)
	}
	for _, p := range far() {
		for _, l := range [][]int{{p}, {p, 0, 1}, {0, p, 1}, {0, 1, p}} {
			if got, ok := Back(l); len(got) != 0 || ok {
				t.Errorf("Back(%v): %v %v", l, got, ok)
			}
		}
	}
}

// P402: unlike ones count once for each kind.
func TestRanks(t *testing.T) {
	eachList(t, func(t *testing.T, l []thing, cmp func(a, b thing) int) {
		want := make([]int, len(l))
		order := ordered(l, cmp)
		for i, x := range l {
			for k, y := range order {
				if asked(cmp)(y, x) < 0 && (k == 0 || asked(cmp)(order[k-1], y) != 0) {
					want[i]++
				}
			}
		}
		if got := Ranks(l, cmp); !slices.Equal(got, want) {
			t.Fatalf("Ranks(%v): %v, not %v", l, got, want)
		}
	})
}

// P403: also what is nowhere has a place: that of the first one that is not ahead of it.
func TestFind(t *testing.T) {
	eachList(t, func(t *testing.T, l []thing, cmp func(a, b thing) int) {
		order := ordered(l, cmp)
		was := slices.Clone(order)
		for key := -1; key < 12; key++ {
			x := thing{key: key, id: -1}
			want := 0
			for want < len(order) && asked(cmp)(order[want], x) < 0 {
				want++
			}
			there := want < len(order) && asked(cmp)(order[want], x) == 0
			if at, ok := Find(order, x, cmp); at != want || ok != there {
				t.Fatalf("Find(%v, %v): %d %v, not %d %v", order, x, at, ok, want, there)
			}
		}
		if !slices.Equal(order, was) {
			t.Fatalf("Find changed %v to %v", was, order)
		}
	})
}

// P403: the places of those there are, written out.
func TestFindPlaces(t *testing.T) {
	l := things([]int{1, 3, 3, 3, 5})
	for _, c := range []struct {
		key, at int
		there   bool
	}{{0, 0, false}, {1, 0, true}, {2, 1, false}, {3, 1, true}, {4, 4, false}, {5, 4, true}, {6, 5, false}, {math.MaxInt, 5, false}, {math.MinInt, 0, false}} {
		if at, there := Find(l, thing{key: c.key}, byKey); at != c.at || there != c.there {
			t.Errorf("Find %d: %d %v", c.key, at, there)
		}
	}
	if at, there := Find(nil, thing{}, byKey); at != 0 || there {
		t.Error("Find in nothing", at, there)
	}
	if at, there := Find(nil, thing{}, nil); at != 0 || there {
		t.Error("Find in nothing, all alike", at, there)
	}
	if at, there := Find(l, thing{key: 9}, nil); at != 0 || !there {
		t.Error("Find, all alike", at, there)
	}
}

// P403.
func TestRising(t *testing.T) {
	eachList(t, func(t *testing.T, l []thing, cmp func(a, b thing) int) {
		want := 0
		for i := range l {
			if i > 0 && asked(cmp)(l[i-1], l[i]) >= 0 {
				break
			}
			want++
		}
		if got := Rising(l, cmp); got != want {
			t.Fatalf("Rising(%v): %d, not %d", l, got, want)
		}
	})
	for _, c := range []struct {
		keys []int
		want int
	}{{nil, 0}, {[]int{4}, 1}, {[]int{4, 4}, 1}, {[]int{4, 5}, 2}, {[]int{5, 4, 6}, 1}, {[]int{1, 2, 2, 3}, 2}, {[]int{1, 2, 0, 3}, 2}, {[]int{1, 3, 2, 4, 5}, 2}} {
		if got := Rising(things(c.keys), byKey); got != c.want {
			t.Errorf("Rising(%v): %d, not %d", c.keys, got, c.want)
		}
	}
}

// P403: those of a first of those that are alike.
func TestMerge(t *testing.T) {
	eachList(t, func(t *testing.T, l []thing, cmp func(a, b thing) int) {
		for _, cut := range []int{0, 1, len(l) / 3, len(l) / 2, len(l) - 1, len(l)} {
			cut = min(max(cut, 0), len(l))
			a, b := ordered(l[:cut], cmp), ordered(l[cut:], cmp)
			wasA, wasB := slices.Clone(a), slices.Clone(b)
			// Put one behind the other those of a stand first, so that their order is that of both lists as one.
			want := ordered(slices.Concat(a, b), cmp)
			if got := Merge(a, b, cmp); !slices.Equal(got, want) {
				t.Fatalf("Merge(%v, %v): %v, not %v", a, b, got, want)
			}
			if !slices.Equal(a, wasA) || !slices.Equal(b, wasB) {
				t.Fatalf("Merge changed %v, %v to %v, %v", wasA, wasB, a, b)
			}
		}
	})
}

// P403.
func TestMergeAlike(t *testing.T) {
	a, b := []thing{{1, 10}, {1, 11}, {3, 12}}, []thing{{0, 20}, {1, 21}, {3, 22}, {3, 23}, {4, 24}}
	want := []thing{{0, 20}, {1, 10}, {1, 11}, {1, 21}, {3, 12}, {3, 22}, {3, 23}, {4, 24}}
	if got := Merge(a, b, byKey); !slices.Equal(got, want) {
		t.Error(got)
	}
	if got := Merge(a, b, nil); !slices.Equal(got, slices.Concat(a, b)) {
		t.Error("all alike", got)
	}
	if got := Merge(a, a, byKey); !slices.Equal(got, []thing{{1, 10}, {1, 11}, {1, 10}, {1, 11}, {3, 12}, {3, 12}}) {
		t.Error("with itself", got)
	}
	for _, none := range [][]thing{nil, {}} {
		if len(Merge(none, none, byKey)) != 0 || !slices.Equal(Merge(none, b, byKey), b) || !slices.Equal(Merge(a, none, byKey), a) {
			t.Error("with nothing")
		}
	}
}

// P401: of lists that do not come in order nothing is said, but that the calls end, and that Merge is as long as both.
func TestOutOfOrder(t *testing.T) {
	eachList(t, func(t *testing.T, l []thing, cmp func(a, b thing) int) {
		Find(l, thing{key: 1}, cmp)
		if got := len(Merge(l, l, cmp)); got != 2*len(l) {
			t.Fatalf("Merge: %d things", got)
		}
	})
}

// P404.
func TestTakeBySort(t *testing.T) {
	eachList(t, func(t *testing.T, l []thing, cmp func(a, b thing) int) {
		by := Sort(l, cmp)
		o, ok := Take(l, by)
		if !ok || !slices.Equal(o, ordered(l, cmp)) || !slices.IsSortedFunc(o, asked(cmp)) {
			t.Fatalf("Take by Sort of %v: %v", l, o)
		}
		back, ok := Back(by)
		if !ok || len(back) != len(l) {
			t.Fatalf("Back of Sort of %v: %v", l, back)
		}
		for i, at := range back {
			if o[at] != l[i] {
				t.Fatalf("Back of Sort of %v: %v", l, back)
			}
		}
		// What has been put in order and back again stands as it stood.
		if again, ok := Take(o, back); !ok || !slices.Equal(again, l) {
			t.Fatalf("%v, in order and back: %v", l, again)
		}
		if same, ok := Back(back); !ok || !slices.Equal(same, by) {
			t.Fatalf("Back of Back: %v, not %v", same, by)
		}
	})
}

// spoil writes over a list that was told, and over the room behind it.
func spoil[T any](l []T) {
	clear(l[:cap(l)])
}

// P401: what is told shares nothing with what was handed in, nor with what is told another time.
func TestApart(t *testing.T) {
	for _, keys := range [][]int{{0}, {0, 1}, {1, 0}, {2, 2, 2, 1}, {0, 1, 2, 3, 4, 5, 6, 7}, odd(40, 7, 5)} {
		l, by := append(things(keys), thing{9, 9}), append(Sort(things(keys), byKey), 99)
		wasL, wasBy := slices.Clone(l), slices.Clone(by)
		same := make([]int, len(keys))
		for i := range same {
			same[i] = i
		}
		in, at := l[:len(keys)], by[:len(keys)]
		for range 2 {
			spoil(Sort(in, byKey))
			spoil(Ranks(in, byKey))
			spoil(Merge(in, nil, byKey))
			spoil(Merge(nil, in, byKey))
			spoil(Merge(in, in, nil))
			took, _ := Take(in, at)
			spoil(took)
			took, _ = Take(in, same)
			spoil(took)
			back, _ := Back(at)
			spoil(back)
			back, _ = Back(same)
			spoil(back)
			twice, _ := Take(same, same)
			spoil(twice)
		}
		if !slices.Equal(l, wasL) || !slices.Equal(by, wasBy) || !slices.IsSorted(same) {
			t.Fatalf("%v: an answer shares something with what was handed in", keys)
		}
		one, other := Sort(in, byKey), Sort(in, byKey)
		spoil(one)
		if !slices.Equal(other, at) {
			t.Fatalf("%v: two answers share something", keys)
		}
	}
}

// P402, P403: long lists, of unlike things, of few kinds, and of such as come in order, are done in steps that grow no faster than they do, but little.
func TestLong(t *testing.T) {
	const n = 1 << 18
	rising, falling := make([]int, n), make([]int, n)
	for i := range n {
		rising[i], falling[i] = i, -i
	}
	for _, keys := range [][]int{rising, falling, odd(n, 1<<30, 6), odd(n, 3, 7)} {
		steps := 0
		cmp := func(a, b thing) int {
			steps++
			return byKey(a, b)
		}
		l := things(keys)
		want := slices.Clone(l)
		slices.SortStableFunc(want, byKey)
		o, ok := Take(l, Sort(l, cmp))
		if !ok || !slices.Equal(o, want) || steps > 20*n {
			t.Fatalf("Sort: %v, %d steps", ok, steps)
		}
		steps = 0
		if at, there := Find(o, o[n-1], cmp); o[at].key != o[n-1].key || !there || at > 0 && o[at-1].key == o[at].key || steps > 40 {
			t.Fatalf("Find: %d %v, %d steps", at, there, steps)
		}
		steps = 0
		if got := Merge(o, o, cmp); !slices.IsSortedFunc(got, byKey) || steps > 2*n {
			t.Fatalf("Merge: %d steps", steps)
		}
		ranks := Ranks(o, byKey)
		if ranks[0] != 0 || !slices.IsSorted(ranks) {
			t.Fatal("Ranks")
		}
	}
	if got := Rising(things(rising), byKey); got != n {
		t.Error(got)
	}
}
