package label

import (
	"strconv"
	"strings"

	"quincunx/api"
)

// Show tells a right label as a text.
func Show(a Label) string {
	if !a.Right() {
		return ""
	}
	if a.Kind != TupleKind {
		return showPart(a)
	}
	var shown []string
	for _, p := range a.Parts() {
		shown = append(shown, showPart(p))
	}
	return "(" + strings.Join(shown, ",") + ")"
}

// showPart tells a number or a text as a text.
func showPart(a Label) string {
	if a.Kind == IntKind {
		return strconv.FormatInt(a.N, 10)
	}
	shown := []byte{'\''}
	for i := range len(a.S) {
		switch c := a.S[i]; c {
		case '\\', '\'':
			shown = append(shown, '\\', c)
		case '\n':
			shown = append(shown, '\\', 'n')
		default:
			shown = append(shown, c)
		}
	}
	return string(append(shown, '\''))
}

// Read tells the label of which a text is shown.
func Read(s string) (Label, bool) {
	if in, ok := strings.CutPrefix(s, "("); ok {
		return readTuple(in)
	}
	a, rest, ok := readPart(s)
	if !ok || rest != "" {
		return Label{}, false
	}
	return a, true
}

// readTuple reads a tuple behind its (.
func readTuple(s string) (Label, bool) {
	var parts []Label
	for len(parts) < api.MaxParts {
		p, rest, ok := readPart(s)
		if !ok {
			return Label{}, false
		}
		parts = append(parts, p)
		if rest == ")" {
			return Tuple(parts...)
		}
		if s, ok = strings.CutPrefix(rest, ","); !ok {
			return Label{}, false
		}
	}
	return Label{}, false
}

// readPart reads the number or the text with which s begins, and tells what comes behind it.
func readPart(s string) (Label, string, bool) {
	if in, ok := strings.CutPrefix(s, "'"); ok {
		return readText(in)
	}
	return readInt(s)
}

// readInt reads the number with which s begins.
func readInt(s string) (Label, string, bool) {
	rest := strings.TrimLeft(s, "-0123456789")
	shown := s[:len(s)-len(rest)]
	n, err := strconv.ParseInt(shown, 10, 64)
	// A number is shown in one way alone: without zeros ahead, and 0 without a sign.
	if err != nil || strconv.FormatInt(n, 10) != shown {
		return Label{}, "", false
	}
	return Int(n), rest, true
}

// readText reads a text behind its first ', up to the one that ends it.
func readText(s string) (Label, string, bool) {
	var text []byte
	for s != "" && s[0] != '\'' {
		c, rest, ok := readByte(s)
		if !ok || len(text) == api.MaxText {
			return Label{}, "", false
		}
		text, s = append(text, c), rest
	}
	if s == "" {
		return Label{}, "", false
	}
	return Text(string(text)), s[1:], true
}

// readByte reads a text's next byte, with a \ ahead or as it is.
func readByte(s string) (byte, string, bool) {
	switch {
	case s[0] == '\n':
		return 0, "", false
	case s[0] != '\\':
		return s[0], s[1:], true
	case len(s) < 2:
		return 0, "", false
	}
	switch s[1] {
	case '\\', '\'':
		return s[1], s[2:], true
	case 'n':
		return '\n', s[2:], true
	}
	return 0, "", false
}
