package label

import (
	"math"
	"regexp"
	"slices"
	"strconv"
	"strings"
	"testing"
)

// shown tells a number or a text as a text, by other means than Show.
func shown(a Label) string {
	if a.Kind == 0 {
		return strconv.Itoa(int(a.N))
	}
	s := strings.ReplaceAll(a.S, `\`, `\\`)
	s = strings.ReplaceAll(s, "'", `\'`)
	return "'" + strings.ReplaceAll(s, "\n", `\n`) + "'"
}

// P504, P505: Read of Show is the label.
func TestShowRead(t *testing.T) {
	see := func(a Label, text string) {
		t.Helper()
		for range 2 {
			if got := Show(a); got != text {
				t.Errorf("Show(%v): %q, not %q", a, got, text)
			}
			if got, ok := Read(text); got != a || !ok {
				t.Errorf("Read(%q): %v %v, not %v", text, got, ok, a)
			}
		}
	}
	for _, a := range singles() {
		see(a, shown(a))
	}
	for _, row := range rows() {
		var parts []string
		for _, p := range row {
			parts = append(parts, shown(p))
		}
		see(tuple(row), "("+strings.Join(parts, ",")+")")
	}
	for _, a := range wrongs() {
		if got := Show(a); got != "" {
			t.Errorf("Show(%v): %q", a, got)
		}
	}
}

// Example.
func TestExample(t *testing.T) {
	a, ok := Tuple(Int(3), Text("a"))
	if got := Show(a); got != "(3,'a')" || !ok {
		t.Error(got, ok)
	}
}

// P504: all single bytes and all pairs of them, in texts and in tuples.
func TestBytes(t *testing.T) {
	for b := range 256 {
		for c := range 256 {
			a := Text(string([]byte{byte(b), byte(c)}))
			text := shown(a)
			if got := Show(a); got != text {
				t.Fatalf("Show(%v): %q", a, got)
			}
			if got, ok := Read(text); got != a || !ok {
				t.Fatalf("Read(%q): %v %v", text, got, ok)
			}
		}
		one := Text(string([]byte{byte(b)}))
		pair, ok := Tuple(one, Int(int64(b)-128))
		text := "(" + shown(one) + "," + strconv.Itoa(b-128) + ")"
		if got := Show(pair); got != text || !ok {
			t.Fatalf("Show(%v): %q", pair, got)
		}
		// A \ stands ahead of three bytes alone, and all but three stand without one.
		_, ok = Read(`'\` + string([]byte{byte(b)}) + "'")
		if ok != (b == '\\' || b == '\'' || b == 'n') {
			t.Errorf("a \\ ahead of byte %d: %v", b, ok)
		}
		_, ok = Read("'" + string([]byte{byte(b)}) + "'")
		if ok != (b != '\\' && b != '\'' && b != '\n') {
			t.Errorf("byte %d as it is: %v", b, ok)
		}
		for _, s := range []string{string([]byte{byte(b)}) + "12", "12" + string([]byte{byte(b)}), string([]byte{byte(b)}), "('a'" + string([]byte{byte(b)}) + ")", string([]byte{byte(b)}) + "(1)", "(1)" + string([]byte{byte(b)})} {
			if got, ok := Read(s); ok != recognised(s) || ok && Show(got) != s || !ok && got != (Label{}) {
				t.Errorf("Read(%q): %v %v", s, got, ok)
			}
		}
	}
}

var (
	number = `(0|-?[1-9][0-9]*)`
	text   = `('(?:[^\\'\n]|\\[\\'n])*')`
	part   = `(?:` + number + `|` + text + `)`
	label  = regexp.MustCompile(`\A(?:` + part + `|\(` + part + `(?:,` + part + `)?(?:,` + part + `)?(?:,` + part + `)?\))\z`)
)

// recognised tells whether a text is that of a label, by other means than Read.
func recognised(s string) bool {
	m := label.FindStringSubmatch(s)
	if m == nil {
		return false
	}
	for _, p := range m[1:] {
		if strings.HasPrefix(p, "'") {
			p = strings.NewReplacer(`\\`, "1", `\'`, "1", `\n`, "1").Replace(p[1 : len(p)-1])
			if len(p) > 32 {
				return false
			}
		} else if _, err := strconv.ParseInt(p, 10, 64); p != "" && err != nil {
			return false
		}
	}
	return true
}

// P504: of all short texts of some bytes those that Show tells, and no others.
func TestReadAll(t *testing.T) {
	read := 0
	var see func(s string, more int, of string)
	see = func(s string, more int, of string) {
		got, ok := Read(s)
		if ok != recognised(s) || ok && (Show(got) != s || !got.Right()) || !ok && got != (Label{}) {
			t.Fatalf("Read(%q): %v %v", s, got, ok)
		}
		if ok {
			read++
		}
		if more > 0 {
			for i := range len(of) {
				see(s+of[i:i+1], more-1, of)
			}
		}
	}
	see("", 6, "-01'\\n,()")
	see("", 9, "'\\n\n")
	see("(", 7, "1,')-")
	see("(1,'n',", 5, "0'\\,)-9")
	if read < 1000 {
		t.Error(read, "texts were read")
	}
}

// P504: others.
func TestReadOthers(t *testing.T) {
	x := strings.Repeat("x", 32)
	for _, s := range []string{
		"", " ", "-", "--1", "-0", "+0", "+1", "00", "01", "-01", "1-", "1-1", "0x1", "1e3", "1_0", "1.0", "1.", " 1", "1 ", "1\n", "\n1", "1,", "1,2", "１", "nil", "a",
		"9223372036854775808", "-9223372036854775809", "18446744073709551616", "99999999999999999999999999", strings.Repeat("9", 1000), strings.Repeat("0", 1000), strings.Repeat("-", 1000), "-" + strings.Repeat("0", 1000) + "1",
		"'", "'a", "a'", `'\'`, `'a\'`, `'\`, `'\\`, `'\a'`, `'\x41'`, `'\0'`, `'\N'`, `'\\\'`, "'\n'", "'a\nb'", "''a", "'a'b'", "'a' ", " 'a'", "'''", `"a"`, "'a''b'",
		"'" + x + "x'", "'" + x + `\n'`, "'" + x + `\\'`, "'" + strings.Repeat("x", 1000) + "'", "'" + x, "'" + strings.Repeat(`\n`, 33) + "'", "'" + strings.Repeat("é", 17) + "'",
		"(", ")", "()", "(,)", "(1", "1)", "(1,", "(1,)", "(,1)", "(1,,2)", "(1 ,2)", "(1, 2)", "( 1)", "(1 )", "(1)(2)", "(1))", "((1))", "((1),2)", "(1,(2))", "(1;2)", "(1'a')", "('a'1)", "(-0)", "(01)", "(1,2", "(1,2,", "(1,2,3,4", "(1,2,3,4,", "(1,2,3,4,)", "(1,2,3,4,5)", "(1,2,3,4,5", "(1,2,3,4))", "(1)\n", "\n(1)",
		"(9223372036854775808)", "('a)", `('\a')`, "('a\n')", "('" + x + "x')", "(1,'" + x + "x')", strings.Repeat("(", 1000), "(" + strings.Repeat("1,", 1000) + "1)", "(" + strings.Repeat("1", 1000) + ")", "('a','b','c','d','e')",
	} {
		if got, ok := Read(s); got != (Label{}) || ok {
			t.Errorf("Read(%q): %v %v", s, got, ok)
		}
		if recognised(s) {
			t.Errorf("%q is one", s)
		}
	}
}

// P504: written out.
func TestReadSome(t *testing.T) {
	x := strings.Repeat("x", 32)
	four, _ := Tuple(Int(1), Int(2), Text("),("), Text(""))
	for s, want := range map[string]Label{
		"0": Int(0), "-1": Int(-1), "10": Int(10), "9223372036854775807": Int(math.MaxInt64), "-9223372036854775808": Int(math.MinInt64),
		"''": Text(""), "'a'": Text("a"), `'\''`: Text("'"), `'\\'`: Text(`\`), `'\n'`: Text("\n"), `'\\n'`: Text(`\n`), `'\\\n'`: Text("\\\n"), "'" + x + "'": Text(x), "'(1)'": Text("(1)"), "'1'": Text("1"), "'\x00\xff'": Text("\x00\xff"),
		"'" + strings.Repeat(`\n`, 32) + "'": Text(strings.Repeat("\n", 32)),
		"(1,2,'),(','')":                     four,
	} {
		if got, ok := Read(s); got != want || !ok || Show(want) != s {
			t.Errorf("Read(%q): %v %v", s, got, ok)
		}
	}
}

// P504, P505: texts of labels with a byte changed, put in, or taken out are those of other labels, or of none.
func TestReadNear(t *testing.T) {
	for _, a := range rights() {
		s := Show(a)
		if len(s) > 40 {
			continue
		}
		for i := range len(s) + 1 {
			for _, b := range []string{"", "'", `\`, "\n", "n", ",", "(", ")", "0", "-", " ", "a", "\x00"} {
				near := []string{s[:i] + b + s[i:]}
				if i < len(s) {
					near = append(near, s[:i]+b+s[i+1:])
				}
				for _, n := range near {
					got, ok := Read(n)
					if ok != recognised(n) || ok && Show(got) != n || !ok && got != (Label{}) || ok && n != s && got == a {
						t.Fatalf("Read(%q), near %q: %v %v", n, s, got, ok)
					}
				}
			}
		}
	}
}

// P501: long texts and lists are done with.
func TestLong(t *testing.T) {
	const n = 1 << 22
	for _, s := range []string{strings.Repeat("1", n), strings.Repeat("0", n), strings.Repeat("-", n), strings.Repeat("'", n), "'" + strings.Repeat("a", n) + "'", "'" + strings.Repeat(`\\`, n), strings.Repeat("(", n), "(" + strings.Repeat("0,", n), "(" + strings.Repeat("1", n) + ")", "(1,'" + strings.Repeat("'", n)} {
		if got, ok := Read(s); got != (Label{}) || ok {
			t.Errorf("Read of %d bytes: %v", len(s), ok)
		}
		a := Text(s)
		if a.Right() || Show(a) != "" || len(a.Parts()) != 0 || Compare(a, Text(s+"a")) != -1 || Compare(Text(s+"a"), a) != 1 {
			t.Errorf("Text of %d bytes", len(s))
		}
		Hash(a)
	}
	l := slices.Repeat([]Label{Text("a")}, n)
	if !All(l, TextKind) || All(l, IntKind) || Unique(l) {
		t.Error("a long list")
	}
	if a, ok := Tuple(l...); a != (Label{}) || ok {
		t.Error("a tuple of a long list")
	}
}
