package label

import "quincunx/api"

// highest is turned in the numbers of a tuple's row, so that those below 0 are ahead there, too.
const highest = 1 << 63

// pack lays a right number or text behind a tuple's row of parts.
func pack(row []byte, a Label) []byte {
	row = append(row, a.Kind)
	if a.Kind == TextKind {
		row = append(row, byte(len(a.S)))
		return append(row, a.S...)
	}
	for i := 56; i >= 0; i -= 8 {
		row = append(row, byte((uint64(a.N)^highest)>>i))
	}
	return row
}

// cut tells the first part of a tuple's row, if there is a right one, and the row behind it.
func cut(row string) (Label, string, bool) {
	switch {
	case len(row) >= 9 && row[0] == IntKind:
		n := uint64(0)
		for i := range 8 {
			n = n<<8 | uint64(row[1+i])
		}
		return Int(int64(n ^ highest)), row[9:], true
	case len(row) >= 2 && row[0] == TextKind:
		end := 2 + int(row[1])
		if end <= 2+api.MaxText && end <= len(row) {
			return Text(row[2:end]), row[end:], true
		}
	}
	return Label{}, "", false
}

// packed tells whether a row is n right parts, and nothing else.
func packed(row string, n int) bool {
	for range n {
		_, rest, ok := cut(row)
		if !ok {
			return false
		}
		row = rest
	}
	return row == ""
}
