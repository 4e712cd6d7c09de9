package hash

import (
	"math"
	"slices"
	"strings"
	"testing"

	"quincunx/api"
	"quincunx/label"
)

// plain is what a table is held against: its labels, and the slots in which they stand, laid anew each time.
type plain struct {
	labels []label.Label
	room   int
}

func newPlain() *plain {
	return &plain{room: 8}
}

// find tells a label's number by looking at all of them.
func (p *plain) find(a label.Label) (int, bool) {
	for n, b := range p.labels {
		if a == b {
			return n, true
		}
	}
	return 0, false
}

// add takes a label in.
func (p *plain) add(a label.Label) (int, api.Errno) {
	if !a.Right() {
		return 0, api.ErrLabel
	}
	if _, there := p.find(a); there {
		return 0, api.ErrTwice
	}
	if len(p.labels) == 4096 {
		return 0, api.ErrLimit
	}
	p.labels = append(p.labels, a)
	for float64(p.room) <= 1.5*float64(len(p.labels)) {
		p.room *= 2
	}
	return len(p.labels) - 1, api.OK
}

// longest lays all labels into free slots, and tells how many were looked at for one, at most.
func (p *plain) longest() int {
	taken := make([]bool, p.room)
	most := 0
	for _, a := range p.labels {
		i, looked := label.Hash(a)&uint64(p.room-1), 1
		for taken[i] {
			looked++
			i++
			if i == uint64(p.room) {
				i = 0
			}
		}
		taken[i] = true
		if looked > most {
			most = looked
		}
	}
	return most
}

// hold fails unless a table is as the plain one.
func hold(t *testing.T, tab *Table, p *plain) {
	t.Helper()
	if tab.Len() != len(p.labels) || tab.Room() != p.room || tab.Longest() != p.longest() {
		t.Fatalf("of %d labels: Len %d, Room %d, not %d, Longest %d, not %d", len(p.labels), tab.Len(), tab.Room(), p.room, tab.Longest(), p.longest())
	}
	if !slices.Equal(tab.Labels(), p.labels) {
		t.Fatalf("Labels: %v, not %v", tab.Labels(), p.labels)
	}
}

// ints tells the labels of some numbers.
func ints(l ...int64) []label.Label {
	var o []label.Label
	for _, n := range l {
		o = append(o, label.Int(n))
	}
	return o
}

// many tells n labels of all kinds, no two of which are the same.
func many(n int, seed uint64) []label.Label {
	l := make([]label.Label, n)
	for i := range l {
		seed = seed*6364136223846793005 + 1442695040888963407
		switch k := int64(i); seed >> 33 % 4 {
		case 0:
			l[i] = label.Int(k - int64(n)/2)
		case 1:
			l[i] = label.Int(math.MaxInt64 - k)
		case 2:
			l[i] = label.Text(strings.Repeat("x", i%7) + string(rune('0'+i%10)) + "." + string(rune(0x100+i)))
		default:
			l[i], _ = label.Tuple(label.Text("t"), label.Int(k*k), label.Int(k))
		}
	}
	return l
}

// wrongs are labels that are not right.
func wrongs() []label.Label {
	return []label.Label{
		{Kind: 0, S: "a"}, {Kind: 1, N: 1}, {Kind: 1, S: strings.Repeat("a", 33)}, {Kind: 1, S: strings.Repeat("a", 1<<16)},
		{Kind: 2}, {Kind: 2, N: -1}, {Kind: 2, N: 1, S: "?"}, {Kind: 3}, {Kind: 255, N: math.MinInt64, S: "a"},
	}
}

// made tells a table of labels that are right and not there twice.
func made(t *testing.T, l ...label.Label) *Table {
	t.Helper()
	tab, err := New(l...)
	if err != api.OK || tab == nil {
		t.Fatal("New:", err)
	}
	return tab
}

// The chapter's example.
func TestExample(t *testing.T) {
	tab := made(t, ints(5, 9)...)
	if n, ok := tab.Find(label.Int(9)); n != 1 || !ok {
		t.Error("Find:", n, ok)
	}
	if n, ok := tab.Find(label.Int(5)); n != 0 || !ok {
		t.Error("Find:", n, ok)
	}
	if tab.Room() != 8 {
		t.Error("Room:", tab.Room())
	}
}

// P601: of a nil table, of one that New did not make, and of a copy.
func TestNotMade(t *testing.T) {
	full := made(t, ints(1, 2, 3)...)
	part := *full
	over := made(t, ints(7)...)
	*over = *full
	gone := made(t, ints(1)...)
	*gone = Table{}
	for i, tab := range []*Table{nil, {}, new(Table), &part, over, gone} {
		for _, a := range append(ints(0, 1, 9), wrongs()...) {
			if n, ok := tab.Find(a); n != 0 || ok {
				t.Error(i, "Find:", n, ok)
			}
			if n, err := tab.Add(a); n != 0 || err != api.ErrArg {
				t.Error(i, "Add:", n, err)
			}
		}
		if tab.Len() != 0 || tab.Room() != 0 || tab.Longest() != 0 || len(tab.Labels()) != 0 {
			t.Error(i, "not zero:", tab.Len(), tab.Room(), tab.Longest(), tab.Labels())
		}
	}
	if full.Len() != 3 || full.Room() != 8 || len(full.Labels()) != 3 {
		t.Error("the table has changed that a copy was taken of")
	}
}

// P602, P603: a table of no labels.
func TestNone(t *testing.T) {
	for _, l := range [][]label.Label{nil, {}} {
		tab := made(t, l...)
		hold(t, tab, newPlain())
		if tab.Room() != 8 || tab.Longest() != 0 {
			t.Error("Room, Longest:", tab.Room(), tab.Longest())
		}
		for _, a := range append(ints(0, 1), label.Text(""), label.Label{Kind: 3}) {
			if n, ok := tab.Find(a); n != 0 || ok {
				t.Error("Find:", n, ok)
			}
		}
		if n, err := tab.Add(label.Int(0)); n != 0 || err != api.OK || tab.Len() != 1 || tab.Longest() != 1 {
			t.Error("Add:", n, err, tab.Len(), tab.Longest())
		}
	}
}

// P602: the error is that of the first label that has one.
func TestNewWrong(t *testing.T) {
	twice := append(ints(1, 2), ints(1)...)
	for i, w := range wrongs() {
		for k, c := range []struct {
			l    []label.Label
			want api.Errno
		}{
			{[]label.Label{w}, api.ErrLabel},
			{[]label.Label{w, w}, api.ErrLabel},
			{append(ints(1, 2), w), api.ErrLabel},
			{append(ints(1, 2), w, label.Int(1)), api.ErrLabel},
			{append(slices.Clone(twice), w), api.ErrTwice},
			{twice, api.ErrTwice},
			{ints(0, 0), api.ErrTwice},
			{[]label.Label{label.Text("a"), label.Int(0), label.Text("a")}, api.ErrTwice},
		} {
			if tab, err := New(c.l...); tab != nil || err != c.want {
				t.Error(i, k, "New:", tab, err)
			}
		}
	}
}

// P602: as many as MaxList, and one more.
func TestNewLimit(t *testing.T) {
	most := many(api.MaxList, 6)
	more := label.Text("more")
	wrong := label.Label{Kind: 3}
	if tab := made(t, most...); tab.Len() != 4096 || tab.Room() != 8192 {
		t.Error("Len, Room:", tab.Len(), tab.Room())
	}
	for i, c := range []struct {
		l    []label.Label
		want api.Errno
	}{
		{[]label.Label{more}, api.ErrLimit},
		{[]label.Label{more, wrong}, api.ErrLimit},
		{[]label.Label{more, more, most[0]}, api.ErrLimit},
		{[]label.Label{wrong, more}, api.ErrLabel},
		{[]label.Label{most[4095], more}, api.ErrTwice},
		{[]label.Label{most[0], wrong}, api.ErrTwice},
	} {
		if tab, err := New(append(slices.Clone(most), c.l...)...); tab != nil || err != c.want {
			t.Error(i, "New:", tab, err)
		}
	}
	same := make([]label.Label, 1<<20)
	if tab, err := New(same...); tab != nil || err != api.ErrTwice {
		t.Error("New:", tab, err)
	}
	same[0] = wrong
	if tab, err := New(same...); tab != nil || err != api.ErrLabel {
		t.Error("New:", tab, err)
	}
}

// P602: what is refused changes nothing, not even the room; the next label goes in as if it had not been.
func TestAddWrong(t *testing.T) {
	tab, p := made(t), newPlain()
	for i, a := range many(200, 2) {
		for _, w := range wrongs() {
			if n, err := tab.Add(w); n != 0 || err != api.ErrLabel {
				t.Fatal("Add:", n, err)
			}
		}
		for _, b := range p.labels {
			if n, err := tab.Add(b); n != 0 || err != api.ErrTwice {
				t.Fatal("Add:", n, err)
			}
		}
		hold(t, tab, p)
		p.add(a)
		if n, err := tab.Add(a); n != i || err != api.OK {
			t.Fatal("Add:", n, err)
		}
		hold(t, tab, p)
	}
}

// P602: of a table that has as many as there may be.
func TestAddLimit(t *testing.T) {
	most := many(api.MaxList, 3)
	tab := made(t, most[:4095]...)
	if n, err := tab.Add(most[4095]); n != 4095 || err != api.OK {
		t.Error("Add:", n, err)
	}
	longest := tab.Longest()
	for range 2 {
		if n, err := tab.Add(label.Text("more")); n != 0 || err != api.ErrLimit {
			t.Error("Add:", n, err)
		}
		if n, err := tab.Add(most[17]); n != 0 || err != api.ErrTwice {
			t.Error("Add:", n, err)
		}
		if n, err := tab.Add(label.Label{Kind: 9}); n != 0 || err != api.ErrLabel {
			t.Error("Add:", n, err)
		}
	}
	if _, ok := tab.Find(label.Text("more")); ok {
		t.Error("Find: it was refused")
	}
	if tab.Len() != 4096 || tab.Room() != 8192 || tab.Longest() != longest || !slices.Equal(tab.Labels(), most) {
		t.Error("it has changed:", tab.Len(), tab.Room(), tab.Longest())
	}
}

// P603: the room doubles ahead of the label for which there would be too little.
func TestRoom(t *testing.T) {
	first := map[int]int{0: 8, 5: 8, 6: 16, 10: 16, 11: 32, 21: 32, 22: 64, 42: 64, 43: 128, 85: 128, 86: 256, 170: 256, 171: 512, 341: 512, 342: 1024, 682: 1024, 683: 2048, 1365: 2048, 1366: 4096, 2730: 4096, 2731: 8192, 4096: 8192}
	tab := made(t)
	l := many(api.MaxList, 4)
	for n := range api.MaxList + 1 {
		if n > 0 {
			tab.Add(l[n-1])
		}
		if want, known := first[n]; known && tab.Room() != want || tab.Len() != n {
			t.Fatalf("Room of %d labels: %d, not %d", n, tab.Room(), want)
		}
		if r := tab.Room(); 2*r <= 3*n || r > 8 && r > 3*n {
			t.Fatalf("Room of %d labels: %d", n, r)
		}
		if n%97 > 0 {
			continue
		}
		if one := made(t, l[:n]...); one.Room() != tab.Room() || one.Longest() != tab.Longest() {
			t.Fatalf("%d labels at once: Room %d, Longest %d", n, one.Room(), one.Longest())
		}
	}
}

// at tells labels whose Hash names a slot of a room.
func at(room, slot uint64, n int) []label.Label {
	var l []label.Label
	for i := int64(0); len(l) < n; i++ {
		if a := label.Int(i); label.Hash(a)%room == slot {
			l = append(l, a)
		}
	}
	return l
}

// P603: labels whose Hash names the same slot stand one behind the other, round by round.
func TestLongest(t *testing.T) {
	for slot := range uint64(8) {
		l := at(8, slot, 5)
		tab := made(t)
		for i, a := range l {
			tab.Add(a)
			if tab.Longest() != i+1 {
				t.Fatalf("Longest of %d at slot %d: %d", i+1, slot, tab.Longest())
			}
		}
		for i, a := range l {
			if n, ok := tab.Find(a); n != i || !ok {
				t.Fatal("Find:", n, ok)
			}
		}
		for _, a := range at(8, slot, 9)[5:] {
			if n, ok := tab.Find(a); n != 0 || ok {
				t.Fatal("Find:", n, ok)
			}
		}
	}
	apart := []label.Label{at(8, 7, 1)[0], at(8, 0, 1)[0], at(8, 3, 1)[0]}
	if tab := made(t, apart...); tab.Longest() != 1 {
		t.Error("Longest of those apart:", tab.Longest())
	}
	if tab := made(t, append(at(8, 7, 2), at(8, 0, 2)...)...); tab.Longest() != 3 {
		t.Error("Longest over the end:", tab.Longest())
	}
	if tab := made(t, append(at(8, 0, 2), at(8, 7, 1)...)...); tab.Longest() != 2 {
		t.Error("Longest:", tab.Longest())
	}
}

// P603: what came first has the better slot, when all stand anew, too: so how many are looked at hangs on the order.
func TestLongestInOrder(t *testing.T) {
	seen := map[int]bool{}
	l := append(at(16, 15, 3), append(at(16, 0, 1), append(at(16, 1, 1), at(16, 2, 1)...)...)...)
	var all func(k int)
	all = func(k int) {
		if k < len(l) {
			for i := k; i < len(l); i++ {
				l[k], l[i] = l[i], l[k]
				all(k + 1)
				l[k], l[i] = l[i], l[k]
			}
			return
		}
		tab, p := made(t), newPlain()
		for _, a := range l {
			tab.Add(a)
			p.add(a)
			hold(t, tab, p)
		}
		seen[tab.Longest()] = true
	}
	all(0)
	if len(seen) < 2 {
		t.Error("no order tells:", seen)
	}
}

// P602, P603, P604: long ways of labels, some of which come twice.
func TestManySteps(t *testing.T) {
	for seed := range uint64(20) {
		tab, p := made(t), newPlain()
		s := seed
		for range 400 {
			s = s*6364136223846793005 + 1442695040888963407
			var a label.Label
			switch k := int64(s >> 33 % 300); s >> 50 % 5 {
			case 0:
				a = label.Text(strings.Repeat("b", int(k%40)))
			case 1:
				a, _ = label.Tuple(label.Int(k%20), label.Text(""))
			case 2:
				a = label.Label{Kind: uint8(k % 4), N: k % 3, S: "a"}
			default:
				a = label.Int(k - 100)
			}
			wantN, wantOK := p.find(a)
			if n, ok := tab.Find(a); n != wantN || ok != wantOK {
				t.Fatalf("Find(%v): %d, %t, not %d, %t", a, n, ok, wantN, wantOK)
			}
			wantN, wantErr := p.add(a)
			if n, err := tab.Add(a); n != wantN || err != wantErr {
				t.Fatalf("Add(%v): %d, %d, not %d, %d", a, n, err, wantN, wantErr)
			}
			hold(t, tab, p)
		}
	}
}

// P604: each that is in is found at its number, also as another string of the same bytes; no other is.
func TestFind(t *testing.T) {
	all := many(2*api.MaxList, 8)
	for _, n := range []int{1, 5, 6, 10, 11, 100, 1000, 4096} {
		tab := made(t, all[:n]...)
		for i, a := range all {
			a.S = strings.Clone(a.S)
			want, in := i, i < n
			if !in {
				want = 0
			}
			if got, ok := tab.Find(a); got != want || ok != in {
				t.Fatalf("of %d: Find(%v): %d, %t", n, a, got, ok)
			}
		}
		for _, a := range wrongs() {
			if got, ok := tab.Find(a); got != 0 || ok {
				t.Fatalf("Find(%v): %d, %t", a, got, ok)
			}
		}
	}
	five, _ := label.Tuple(label.Int(5))
	tab := made(t, label.Int(5), label.Text("5"), five)
	for i, a := range []label.Label{label.Int(5), label.Text("5"), five} {
		if n, ok := tab.Find(a); n != i || !ok {
			t.Error("Find:", n, ok)
		}
	}
	for _, a := range []label.Label{{Kind: 1, N: 5}, {Kind: 0, N: 5, S: "5"}, {Kind: 2, N: 5}, {Kind: 3, N: 5}, label.Int(-5), label.Text("05")} {
		if n, ok := tab.Find(a); n != 0 || ok {
			t.Error("Find:", n, ok)
		}
	}
}

// P604: two labels of the same Hash are two.
func TestSameHash(t *testing.T) {
	a, b := label.Int(6511544242654276990), label.Int(7324975332334194842)
	if label.Hash(a) != label.Hash(b) {
		t.Fatal("Hash:", label.Hash(a), label.Hash(b))
	}
	tab := made(t, a)
	if n, ok := tab.Find(b); n != 0 || ok {
		t.Error("Find:", n, ok)
	}
	if n, err := tab.Add(b); n != 1 || err != api.OK {
		t.Error("Add:", n, err)
	}
	for range 20 {
		for i, x := range []label.Label{a, b} {
			if n, ok := tab.Find(x); n != i || !ok {
				t.Error("Find:", n, ok)
			}
		}
		if tab.Longest() < 2 {
			t.Error("Longest:", tab.Longest())
		}
		tab.Add(label.Int(int64(tab.Len())))
	}
}

// P601: what is handed in is neither changed nor kept, nor the room behind it; what is answered is new memory.
func TestApart(t *testing.T) {
	room := append(ints(1, 2, 3), label.Text("behind"))
	l := room[:3]
	tab := made(t, l...)
	tab.Add(label.Int(4))
	if !slices.Equal(room, append(ints(1, 2, 3), label.Text("behind"))) {
		t.Error("what was handed in has changed:", room)
	}
	for i := range room {
		room[i] = label.Int(9)
	}
	a, b := tab.Labels(), tab.Labels()
	a = a[:cap(a)]
	for i := range a {
		a[i] = label.Int(8)
	}
	if !slices.Equal(b, ints(1, 2, 3, 4)) || !slices.Equal(tab.Labels(), ints(1, 2, 3, 4)) {
		t.Error("Labels:", b, tab.Labels())
	}
	tab.Add(label.Int(5))
	for i, want := range ints(1, 2, 3, 4, 5) {
		if n, ok := tab.Find(want); n != i || !ok {
			t.Error("Find:", n, ok)
		}
	}
	if !slices.Equal(b, ints(1, 2, 3, 4)) {
		t.Error("an answer has changed:", b)
	}
	one, two := made(t, ints(1)...), made(t, ints(1)...)
	one.Add(label.Int(2))
	if two.Len() != 1 {
		t.Error("two tables share something")
	}
}
