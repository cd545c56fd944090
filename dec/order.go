package dec

import (
	"cmp"

	"quire/api"
)

// maxInt is the size of the greatest and of the least number that Int answers.
const maxInt = 1 << 53

// Cmp answers -1, 0 or 1, as a is below, like or above b.
func Cmp(a, b api.Dec) int {
	l, fault := taken(a, b)
	if fault != api.OK {
		return 0
	}
	sign := l[0].sign()
	if sign != l[1].sign() {
		return cmp.Compare(sign, l[1].sign())
	}
	return sign * size(l[0], l[1])
}

// size holds the sizes of a and b against each other, neither of which, or both, are 0. What has so many digits at the other one's e that it does not fit is the greater one.
func size(a, b wide) int {
	a, fits := a.lowered(b.e)
	if !fits {
		return 1
	}
	b, fits = b.lowered(a.e)
	if !fits {
		return -1
	}
	return bySize(a, b)
}

// Sign answers -1, 0 or 1, as a is below, like or above 0.
func Sign(a api.Dec) int {
	l, fault := taken(a)
	if fault != api.OK {
		return 0
	}
	return l[0].sign()
}

// Round answers a with so many places behind the point, or noughts ahead of it, if places are below 0. The first digit that goes says by itself whether half or more goes.
func Round(a api.Dec, places int) (api.Dec, api.Errno) {
	l, fault := taken(a)
	if fault != api.OK || !within(places) {
		return api.Dec{}, api.ErrArg
	}
	w := l[0]
	if w.e >= -places {
		return told(w, true)
	}
	for w.e < -places-1 {
		w, _ = w.tenth()
	}
	w.lo += 5
	w, _ = w.tenth()
	return told(w, true)
}

// Floor answers the greatest whole number that is no greater than a. What has an e below 0 in its short form is not whole, so that something goes for sure.
func Floor(a api.Dec) (api.Dec, api.Errno) {
	l, fault := taken(a)
	if fault != api.OK {
		return api.Dec{}, fault
	}
	w := l[0]
	if w.e >= 0 {
		return told(w, true)
	}
	for w.e < 0 {
		w, _ = w.tenth()
	}
	if w.neg {
		w.lo++
	}
	return told(w, true)
}

// Int answers a as an int, if it is whole and not too great.
func Int(a api.Dec) (int, bool) {
	l, fault := taken(a)
	if fault != api.OK || l[0].e < 0 {
		return 0, false
	}
	w, fits := l[0].lowered(0)
	if !fits || w.hi != 0 || w.lo > maxInt {
		return 0, false
	}
	return int(w.lo) * w.sign(), true
}
