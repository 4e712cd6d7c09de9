package odo

import (
	"quincunx/api"
	"quincunx/view"
)

// A walk goes through cells in order. It is a plain value, and keeps nothing of the view: a copy goes on by itself.
type walk struct {
	axes    int // how many numbers of each array count
	sizes   [api.MaxDims]int
	strides [api.MaxDims]int
	digits  [api.MaxDims]int // the place of the cell that came last
	place   int              // where in the row it stands
	on      bool             // there is such a cell
	left    int
}

// begin tells the walk that stands ahead of a view's first cell.
func begin(v view.View) walk {
	if !v.Right() {
		return walk{}
	}
	w := walk{axes: len(v.Shape), place: v.Off, left: 1}
	copy(w.sizes[:], v.Shape)
	copy(w.strides[:], v.Strides)
	for _, n := range v.Shape {
		w.left *= n // passes int only where a length is 0: then it is 0 in the end
	}
	return w
}

// next goes on to the next cell, and tells where it stands.
func (w *walk) next() (int, bool) {
	if w.left == 0 {
		w.on = false
		return 0, false
	}
	if w.on {
		w.turn()
	}
	w.on = true
	w.left--
	return w.place, true
}

// turn turns the last digit on; one that is past its axis begins anew, and the one ahead of it is turned.
func (w *walk) turn() {
	for i := w.axes - 1; i >= 0; i-- {
		w.digits[i]++
		w.place += w.strides[i]
		if w.digits[i] < w.sizes[i] {
			return
		}
		w.place -= w.sizes[i] * w.strides[i]
		w.digits[i] = 0
	}
}

// at tells the place of the cell that came last.
func (w *walk) at() []int {
	if !w.on {
		return nil
	}
	digits := w.digits // the walk's own go on
	return digits[:w.axes:w.axes]
}
