package label

import (
	"bytes"
	"encoding/binary"
	"hash/fnv"
	"math"
	"slices"
	"strings"
	"testing"
)

// texts are texts of few bytes and of the greatest length, some of them one the beginning of another, some with bytes that are shown in another way or are no letters at all.
func texts() []string {
	long := strings.Repeat("q", 32)
	return []string{
		"", "a", "b", "ab", "aa", "aaa", "ba", "A", " ", "0", "-1", "12", "(", ")", ",", "(1)", "1,2", "n", "nn",
		"'", "''", `\`, `\\`, `\'`, `'\`, `\n`, "\n", "\n\n", "a\n", "\na", "a'b", `a\b`, "\t", "\r", "\x00", "\x00\x00", "\x01", "\x01a", "\x7f", "\x80", "\xff", "\xff\xfe", "é", "日本",
		long, long[:31], long[:31] + "'", long[:31] + "\n", strings.Repeat("'", 32), strings.Repeat(`\`, 32), strings.Repeat("\n", 32), strings.Repeat("\x00", 32), strings.Repeat("\xff", 32),
	}
}

// numbers are numbers from the least to the greatest one.
func numbers() []int64 {
	return []int64{math.MinInt64, math.MinInt64 + 1, -1 << 32, -1 << 31, -257, -256, -255, -10, -9, -2, -1, 0, 1, 2, 9, 10, 11, 99, 100, 127, 128, 255, 256, 257, 65535, 65536, 1 << 31, 1 << 32, 1<<56 - 1, 1 << 56, math.MaxInt64 - 1, math.MaxInt64}
}

// singles are right numbers and texts.
func singles() []Label {
	var l []Label
	for _, n := range numbers() {
		l = append(l, Label{Kind: 0, N: n})
	}
	for _, s := range texts() {
		l = append(l, Label{Kind: 1, S: s})
	}
	return l
}

// few are some right numbers and texts, for tuples of all of them.
func few() []Label {
	return []Label{{Kind: 0, N: math.MinInt64}, {Kind: 0, N: -1}, {Kind: 0}, {Kind: 0, N: 1}, {Kind: 0, N: 300}, {Kind: 1}, {Kind: 1, S: "a"}, {Kind: 1, S: "ab"}, {Kind: 1, S: "b"}, {Kind: 1, S: "'\n\\"}, {Kind: 1, S: "\x00\x01"}, {Kind: 1, S: strings.Repeat("z", 32)}}
}

// rows are lists of right numbers and texts of which there are tuples: all of one and of two of few, one of each of all, and longer ones.
func rows() [][]Label {
	var all [][]Label
	for _, a := range singles() {
		all = append(all, []Label{a})
	}
	for _, a := range few() {
		for _, b := range few() {
			all = append(all, []Label{a, b})
		}
	}
	for i, a := range few() {
		for k, b := range few() {
			c := few()[(i+3*k)%len(few())]
			all = append(all, []Label{a, b, c}, []Label{a, a, b, c}, []Label{c, a, b, a})
		}
	}
	seen := map[string]int{}
	return slices.DeleteFunc(all, func(row []Label) bool {
		seen[string(laid(row))]++
		return seen[string(laid(row))] > 1
	})
}

// laid tells the bytes of a tuple's parts, one part behind the other.
func laid(row []Label) []byte {
	var b []byte
	for _, p := range row {
		if p.Kind == 0 {
			b = append(b, 0)
			b = binary.BigEndian.AppendUint64(b, uint64(p.N)+1<<63)
		} else {
			b = append(b, 1, byte(len(p.S)))
			b = append(b, p.S...)
		}
	}
	return b
}

// tuple tells the tuple of such a row.
func tuple(row []Label) Label {
	return Label{Kind: 2, N: int64(len(row)), S: string(laid(row))}
}

// rights are right labels of all kinds, each once.
func rights() []Label {
	l := singles()
	for _, row := range rows() {
		l = append(l, tuple(row))
	}
	return l
}

// wrongs are labels that are not right, each once.
func wrongs() []Label {
	long := strings.Repeat("x", 33)
	l := []Label{
		{Kind: 0, S: "a"}, {Kind: 0, N: 5, S: "\x00"}, {Kind: 0, N: -5, S: long},
		{Kind: 1, N: 1}, {Kind: 1, N: -1, S: "a"}, {Kind: 1, N: math.MinInt64, S: "a"}, {Kind: 1, S: long}, {Kind: 1, N: 33, S: long}, {Kind: 1, S: strings.Repeat("x", 255)}, {Kind: 1, S: strings.Repeat("x", 256)}, {Kind: 1, S: strings.Repeat("x", 1000)},
		{Kind: 2}, {Kind: 2, S: "a"}, {Kind: 2, N: 1}, {Kind: 2, N: -1}, {Kind: 2, N: 4}, {Kind: 2, N: 5}, {Kind: 2, N: math.MaxInt64}, {Kind: 2, N: math.MinInt64}, {Kind: 2, N: 1 << 32}, {Kind: 2, N: 1<<32 + 1},
		{Kind: 3}, {Kind: 3, N: 1}, {Kind: 3, S: "a"}, {Kind: 4, N: -7}, {Kind: 127}, {Kind: 128}, {Kind: 255, N: 9, S: "b"}, {Kind: 255, N: math.MaxInt64, S: long},
		{Kind: 2, N: 1, S: "\x01\x21" + long}, {Kind: 2, N: 1, S: "\x01\xff" + strings.Repeat("x", 255)}, {Kind: 2, N: 2, S: "\x01\x00\x01\x21" + long},
		{Kind: 2, N: 1, S: "\x02\x09\x00\x80\x00\x00\x00\x00\x00\x00\x01"}, {Kind: 2, N: 1, S: "\x03"}, {Kind: 2, N: 1, S: "\xff\x01a"}, {Kind: 2, N: 1, S: "3"}, {Kind: 2, N: 2, S: "(3,'a')"},
	}
	five := slices.Repeat([]Label{{Kind: 1, S: "p"}}, 5)
	l = append(l, tuple(five), Label{Kind: 2, N: 4, S: string(laid(five))}, Label{Kind: 2, N: 5, S: string(laid(five[:4]))})
	for _, row := range [][]Label{{{Kind: 0, N: 7}}, {{Kind: 1, S: "ab"}}, {{Kind: 0, N: 7}, {Kind: 1, S: "ab"}}, {{Kind: 1, S: "ab"}, {Kind: 0, N: 7}}, {{Kind: 1}, {Kind: 1, S: "a"}, {Kind: 0}}} {
		a := tuple(row)
		// More parts and fewer than there are, a byte that is missing, and one too many.
		l = append(l, Label{2, a.N + 1, a.S}, Label{2, a.N - 1, a.S}, Label{2, -a.N, a.S}, Label{2, a.N + 1<<32, a.S}, Label{2, a.N, a.S[:len(a.S)-1]}, Label{2, a.N, a.S[1:]}, Label{2, a.N, a.S + "\x00"}, Label{2, a.N, a.S + "\x01"}, Label{2, a.N, "\x00" + a.S}, Label{2, a.N, a.S + "\x02"}, Label{3, a.N, a.S}, Label{1, a.N, a.S}, Label{0, a.N, a.S})
	}
	var once []Label
	for _, a := range l {
		if !slices.Contains(once, a) {
			once = append(once, a)
		}
	}
	return once
}

// P502: such a label, whatever it is made of.
func TestIntText(t *testing.T) {
	for _, n := range numbers() {
		if got := Int(n); got != (Label{Kind: IntKind, N: n}) || !got.Right() {
			t.Errorf("Int(%d): %v", n, got)
		}
	}
	for _, s := range texts() {
		if got := Text(s); got != (Label{Kind: TextKind, S: s}) || !got.Right() {
			t.Errorf("Text(%q): %v", s, got)
		}
	}
	for _, n := range []int{31, 32, 33, 34, 255, 256, 257, 288, 1 << 16, 1<<20 + 1} {
		s := strings.Repeat("x", n)
		got := Text(s)
		if got != (Label{Kind: TextKind, S: s}) || got.Right() != (n <= 32) {
			t.Errorf("Text of %d bytes: %v %v", n, got.Kind, got.Right())
		}
	}
	if IntKind != 0 || TextKind != 1 || TupleKind != 2 {
		t.Error("kinds")
	}
}

// P502: what is right, by the words for it.
func TestRight(t *testing.T) {
	for _, a := range rights() {
		if !a.Right() {
			t.Errorf("%v is not right", a)
		}
	}
	for _, a := range wrongs() {
		if a.Right() {
			t.Errorf("%v is right", a)
		}
	}
}

// P502: a tuple's row, byte by byte; the bytes that say of what kind a part is, and how long it is, can be anything.
func TestRightBytes(t *testing.T) {
	seven := "\x80\x00\x00\x00\x00\x00\x00\x07"
	for b := range 256 {
		if got := (Label{2, 1, string([]byte{byte(b)}) + seven}).Right(); got != (b == 0) {
			t.Errorf("a part of kind %d: %v", b, got)
		}
		for n := range 40 {
			a := Label{2, 1, "\x01" + string([]byte{byte(b)}) + strings.Repeat("\x01", n)}
			if got := a.Right(); got != (b == n && n <= 32) {
				t.Errorf("a text that says that it has %d bytes, with %d: %v", b, n, got)
			}
		}
	}
	for n := range 20 {
		a := Label{2, 1, strings.Repeat("\x00", n)}
		if got := a.Right(); got != (n == 9) {
			t.Errorf("%d bytes 0: %v", n, got)
		}
	}
	if got := (Label{2, 1, "\x00" + seven}).Parts(); !slices.Equal(got, []Label{{Kind: 0, N: 7}}) {
		t.Error(got)
	}
}

// P502, and the words for it: N how many, S one part behind the other.
func TestTuple(t *testing.T) {
	for _, row := range rows() {
		in := append(slices.Clone(row), Label{Kind: 1, S: "behind"})
		was := slices.Clone(in)
		got, ok := Tuple(in[:len(row)]...)
		if got != tuple(row) || !ok || !got.Right() {
			t.Errorf("Tuple(%v): %v %v", row, got, ok)
		}
		if !slices.Equal(in, was) {
			t.Errorf("Tuple changed %v to %v", was, in)
		}
	}
	a, ok := Tuple(Int(-2), Text("ab"))
	if a != (Label{Kind: 2, N: 2, S: "\x00\x7f\xff\xff\xff\xff\xff\xff\xfe\x01\x02ab"}) || !ok {
		t.Errorf("%q %v", a.S, ok)
	}
	a, ok = Tuple(Text(""), Int(258), Int(0), Text("\x00"))
	if a != (Label{Kind: 2, N: 4, S: "\x01\x00\x00\x80\x00\x00\x00\x00\x00\x01\x02\x00\x80\x00\x00\x00\x00\x00\x00\x00\x01\x01\x00"}) || !ok {
		t.Errorf("%q %v", a.S, ok)
	}
}

// P502: the zero label, false, of others.
func TestTupleOfOthers(t *testing.T) {
	one := Label{Kind: 1, S: "a"}
	var bad [][]Label
	for _, n := range []int{0, 5, 6, 255, 256, 257, 260, 1 << 16} {
		bad = append(bad, slices.Repeat([]Label{one}, n))
	}
	bad = append(bad, nil)
	inner, _ := Tuple(one)
	for _, w := range append(wrongs(), inner, tuple([]Label{one, {Kind: 0, N: 2}})) {
		bad = append(bad, []Label{w}, []Label{w, one}, []Label{one, w}, []Label{one, one, w, one}, []Label{one, one, one, w})
	}
	for _, l := range bad {
		if got, ok := Tuple(l...); got != (Label{}) || ok {
			t.Errorf("Tuple(%v): %v %v", l, got, ok)
		}
	}
}

// P502: of a right tuple its parts; of another right label itself; none of others.
func TestParts(t *testing.T) {
	for _, row := range rows() {
		if got := tuple(row).Parts(); !slices.Equal(got, row) {
			t.Errorf("Parts of %v: %v", row, got)
		}
	}
	for _, a := range singles() {
		if got := a.Parts(); !slices.Equal(got, []Label{a}) {
			t.Errorf("Parts of %v: %v", a, got)
		}
	}
	for _, a := range wrongs() {
		if got := a.Parts(); len(got) != 0 {
			t.Errorf("Parts of %v: %v", a, got)
		}
	}
}

// P501: what is told shares nothing with what is told another time, nor with the label.
func TestPartsApart(t *testing.T) {
	for _, a := range rights() {
		was := Label{a.Kind, a.N, strings.Clone(a.S)}
		one, other := a.Parts(), a.Parts()
		want := slices.Clone(other)
		clear(one[:cap(one)])
		if a != was || !slices.Equal(other, want) || !slices.Equal(a.Parts(), want) {
			t.Fatalf("%v: parts share something", was)
		}
	}
}

// P502.
func TestUnique(t *testing.T) {
	all := append(rights(), wrongs()...)
	if !Unique(all) || !Unique(nil) || !Unique([]Label{}) {
		t.Error("all are there once")
	}
	for _, a := range all {
		same := Label{a.Kind, a.N, strings.Clone(a.S)}
		if !Unique([]Label{a}) || Unique([]Label{a, same}) || Unique([]Label{a, {Kind: 9, N: 9, S: "9"}, same}) {
			t.Errorf("Unique with %v", a)
		}
	}
	for i := range all {
		for _, k := range []int{0, i / 2, len(all) - 1} {
			l := append(slices.Clone(all), Label{})
			l[len(all)] = all[i]
			l[i], l[k] = l[k], l[i]
			was := slices.Clone(l)
			if Unique(l) || !slices.Equal(l, was) {
				t.Fatalf("%v is there twice", all[i])
			}
		}
	}
	// Labels that are alike in all but one of their fields.
	if !Unique([]Label{{0, 1, "a"}, {1, 1, "a"}, {0, 2, "a"}, {0, 1, "b"}, {0, 1, ""}, {0, 0, "a"}, {255, 1, "a"}}) {
		t.Error("fields")
	}
	many := make([]Label, 100_000)
	for i := range many {
		many[i] = Int(int64(i))
	}
	if !Unique(many) {
		t.Error("many")
	}
	many[99_999] = Int(0)
	if Unique(many) {
		t.Error("the first one is the last one, too")
	}
}

// P502: all right, and of a kind; of none: yes.
func TestAll(t *testing.T) {
	one := map[uint8]Label{0: Int(4), 1: Text("b"), 2: tuple([]Label{Int(4), Text("b")})}
	for k := range 256 {
		kind := uint8(k)
		if !All(nil, kind) || !All([]Label{}, kind) {
			t.Errorf("All of none of kind %d", kind)
		}
		for _, a := range append(rights(), wrongs()...) {
			fine := a.Right() && a.Kind == kind
			if All([]Label{a}, kind) != fine || All([]Label{one[kind], one[kind], a}, kind) != (fine && kind < 3) || All([]Label{a, one[kind]}, kind) != (fine && kind < 3) {
				t.Fatalf("All with %v of kind %d", a, kind)
			}
		}
	}
	if !All([]Label{Int(1), Int(1), Int(-3)}, IntKind) || All([]Label{Int(1), Text("1")}, IntKind) || All([]Label{Int(1), Text("1")}, TextKind) || All([]Label{Text("1"), Text(strings.Repeat("1", 33))}, TextKind) {
		t.Error("All")
	}
}

// P504: the numbers of FNV-1a over these bytes.
func TestHash(t *testing.T) {
	for _, a := range append(rights(), wrongs()...) {
		var b bytes.Buffer
		b.WriteByte(a.Kind)
		binary.Write(&b, binary.LittleEndian, a.N)
		b.WriteString(a.S)
		h := fnv.New64a()
		h.Write(b.Bytes())
		for range 2 {
			if got := Hash(a); got != h.Sum64() {
				t.Errorf("Hash(%v): %d, not %d", a, got, h.Sum64())
			}
		}
	}
}

// P504: the words for it, step by step.
func TestHashByHand(t *testing.T) {
	h := uint64(14695981039346656037)
	for _, b := range []byte{1, 0, 0, 0, 0, 0, 0, 0, 0, 'a', 0xff} {
		h ^= uint64(b)
		h *= 1099511628211
	}
	if got := Hash(Text("a\xff")); got != h {
		t.Errorf("%d, not %d", got, h)
	}
	h = 14695981039346656037
	for _, b := range []byte{0, 0xfe, 0xff, 0xff, 0xff, 0xff, 0xff, 0xff, 0xff} {
		h ^= uint64(b)
		h *= 1099511628211
	}
	if got := Hash(Int(-2)); got != h {
		t.Errorf("%d, not %d", got, h)
	}
	// Of what is not right, too.
	h = (14695981039346656037 ^ 7) * 1099511628211 & math.MaxUint64
	for _, b := range []byte{1, 0, 0, 0, 0, 0, 0, 0x80, 'z'} {
		h ^= uint64(b)
		h *= 1099511628211
	}
	if got := Hash(Label{7, math.MinInt64 + 1, "z"}); got != h {
		t.Errorf("%d, not %d", got, h)
	}
}
