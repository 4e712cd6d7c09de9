package view

import "slices"

// A change is what becomes of a view whose lists are its own; false, where that cannot be.
type change func(v *View) bool

// changed tells a view, in lists of its own, with all changes, one by one, if both it and what comes of it are right.
func (v View) changed(all ...change) (View, bool) {
	if !v.Right() {
		return View{}, false
	}
	w := View{Shape: slices.Clone(v.Shape), Strides: slices.Clone(v.Strides), Off: v.Off}
	for _, c := range all {
		if !c(&w) {
			return View{}, false
		}
	}
	if !w.Right() {
		return View{}, false
	}
	return w, true
}

// moved has all cells stand that much further on.
func moved(by int) change {
	return func(v *View) bool {
		v.Off += by
		return true
	}
}

// laid gives an axis that there is another length and stride.
func laid(axis, n, stride int) change {
	return func(v *View) bool {
		v.Shape[axis], v.Strides[axis] = n, stride
		return true
	}
}

// with sets one more axis ahead of that one.
func with(axis, n, stride int) change {
	return func(v *View) bool {
		s, ok := v.Shape.With(axis, n)
		if ok {
			v.Shape, v.Strides = s, slices.Insert(v.Strides, axis, stride)
		}
		return ok
	}
}

// without takes an axis away.
func without(axis int) change {
	return func(v *View) bool {
		s, ok := v.Shape.Without(axis)
		if ok {
			v.Shape, v.Strides = s, slices.Delete(v.Strides, axis, axis+1)
		}
		return ok
	}
}

// turned sets the axes in another order.
func turned(axes []int) change {
	return func(v *View) bool {
		s, ok := v.Shape.Permute(axes)
		if !ok {
			return false
		}
		strides := make([]int, len(axes))
		for i, axis := range axes {
			strides[i] = v.Strides[axis]
		}
		v.Shape, v.Strides = s, strides
		return true
	}
}
