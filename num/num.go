// Package num is layer 1: sizes that are never too great, and quotients: see shared/doc/01-num.md.
package num

import (
	"math"
	"slices"
)

// far is how far from 0 Steps goes: within it no difference of two numbers passes int.
const far = 1 << 40

// Product tells all numbers times each other, if that is at most most.
func Product(most int, l ...int) (int, bool) {
	if !sizes(most, l) {
		return 0, false
	}
	// Asked ahead of the others, as these may pass most before the 0 comes.
	if slices.Contains(l, 0) {
		return 0, true
	}
	if most < 1 {
		return 0, false
	}
	p := 1
	for _, n := range l {
		// Dividing what there may be, since the product itself could pass int.
		if p > most/n {
			return 0, false
		}
		p *= n
	}
	return p, true
}

// Total tells all numbers together, if that is at most most.
func Total(most int, l ...int) (int, bool) {
	if !sizes(most, l) {
		return 0, false
	}
	sum := 0
	for _, n := range l {
		// Taken from what there may be, since the sum itself could pass int.
		if n > most-sum {
			return 0, false
		}
		sum += n
	}
	return sum, true
}

// sizes tells whether neither most nor any of the numbers is below 0.
func sizes(most int, l []int) bool {
	return most >= 0 && (len(l) == 0 || slices.Min(l) >= 0)
}

// Div tells a by b, rounded down.
func Div(a, b int64) (int64, bool) {
	if b == 0 {
		return 0, false
	}
	q := a / b
	// The language rounds towards 0, which is upwards where the signs differ.
	if a%b != 0 && (a < 0) != (b < 0) {
		q--
	}
	return q, true
}

// Mod tells what is left of a by b, rounded down: 0, or between 0 and b.
func Mod(a, b int64) (int64, bool) {
	if b == 0 {
		return 0, false
	}
	r := a % b
	// The language gives what is left the sign of a; here it has that of b.
	if r != 0 && (r < 0) != (b < 0) {
		r += b
	}
	return r, true
}

// Down tells the greatest multiple of width that is not above a.
func Down(a, width int64) (int64, bool) {
	if width < 1 {
		return 0, false
	}
	left, _ := Mod(a, width)
	// Near the least number the multiple below may be no number of 64 bits.
	if a < math.MinInt64+left {
		return 0, false
	}
	return a - left, true
}

// Place tells which of n places i names: from 0 on, or, below 0, from the end.
func Place(i, n int) (int, bool) {
	if n < 1 || i < -n || i >= n {
		return 0, false
	}
	if i < 0 {
		i += n
	}
	return i, true
}

// Steps tells how many of from, from and step, and so on are ahead of to.
func Steps(from, to, step int) (int, bool) {
	if step == 0 || !near(from) || !near(to) || !near(step) {
		return 0, false
	}
	// Mirrored at 0, steps down are as many as steps up.
	if step < 0 {
		from, to, step = -from, -to, -step
	}
	if from >= to {
		return 0, true
	}
	return (to-from-1)/step + 1, true
}

// near tells whether Steps goes as far as n.
func near(n int) bool {
	return n >= -far && n <= far
}
