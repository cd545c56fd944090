package dec

import (
	"cmp"
	"math"
	"math/bits"

	"quire/api"
)

// wide is a number in the making: hi and lo are one whole number of twice 64 bits, times 10 to the e. Unlike a Dec's its e may lie anywhere.
type wide struct {
	neg    bool
	hi, lo uint64
	e      int
}

// number answers c times 10 to the e.
func number(c int64, e int) wide {
	w := wide{neg: c < 0, lo: uint64(c), e: e}
	if w.neg {
		w.lo = -w.lo // of the least int64 too: as a uint64 its size stands
	}
	return w
}

func within(e int) bool { return e >= -api.MaxExp && e <= api.MaxExp }

// taken answers the numbers of ds, each in its short form, so that all have a hi of 0, and a number whose e is below MaxExp has a last digit that is no nought.
func taken(ds ...api.Dec) ([]wide, api.Errno) {
	l := make([]wide, 0, len(ds))
	for _, d := range ds {
		if !within(d.E) {
			return nil, api.ErrArg
		}
		l = append(l, number(d.C, d.E).short())
	}
	return l, api.OK
}

// told answers the right Dec for w; ErrNum, if there is none. What did not fit into a wide number has none either: each that makes one says why.
func told(w wide, fits bool) (api.Dec, api.Errno) {
	w = w.short()
	if fits && w.e > api.MaxExp {
		w, fits = w.lowered(api.MaxExp)
	}
	c, small := w.signed()
	if !fits || !small || !within(w.e) {
		return api.Dec{}, api.ErrNum
	}
	return api.Dec{C: c, E: w.e}, api.OK
}

// signed answers w's whole number as an int64, without its e.
func (w wide) signed() (int64, bool) {
	most := uint64(math.MaxInt64)
	if w.neg {
		most++
	}
	if w.hi != 0 || w.lo > most {
		return 0, false
	}
	if w.neg {
		return int64(-w.lo), true
	}
	return int64(w.lo), true
}

func (w wide) zero() bool { return w.hi == 0 && w.lo == 0 }

func (w wide) sign() int {
	switch {
	case w.zero():
		return 0
	case w.neg:
		return -1
	}
	return 1
}

func (w wide) turned() wide {
	w.neg = !w.neg
	return w
}

// short answers w with the noughts at its end put into e, as far as e goes up to MaxExp.
func (w wide) short() wide {
	if w.zero() {
		return wide{}
	}
	for w.e < api.MaxExp {
		tenth, digit := w.tenth()
		if digit != 0 {
			break
		}
		w = tenth
	}
	return w
}

// tenth answers w without its last digit, and that digit.
func (w wide) tenth() (wide, uint64) {
	hi, over := w.hi/10, w.hi%10
	lo, digit := bits.Div64(over, w.lo, 10)
	w.hi, w.lo = hi, lo
	w.e++
	return w, digit
}

// lowered answers the same number with an exponent that is no greater than e: noughts are put on at its end.
func (w wide) lowered(e int) (wide, bool) {
	fits := true
	for fits && w.e > e {
		w.e--
		w, fits = w.times(10)
	}
	return w, fits
}

// times answers w times m.
func (w wide) times(m uint64) (wide, bool) {
	over, hi := bits.Mul64(w.hi, m)
	up, lo := bits.Mul64(w.lo, m)
	hi, carry := bits.Add64(hi, up, 0)
	if over != 0 || carry != 0 {
		return wide{}, false
	}
	w.hi, w.lo = hi, lo
	return w, true
}

// bySize holds the sizes of two numbers with the same exponent against each other.
func bySize(a, b wide) int {
	return cmp.Or(cmp.Compare(a.hi, b.hi), cmp.Compare(a.lo, b.lo))
}

// sum answers a and b together. If they don't fit, the one with the lower e has a last digit that stays, and so many ahead of it can't be told.
func sum(a, b wide) (wide, bool) {
	switch {
	case a.zero():
		return b, true
	case b.zero():
		return a, true
	}
	a, fits := a.lowered(b.e)
	b, also := b.lowered(a.e)
	if !fits || !also {
		return wide{}, false
	}
	if a.neg != b.neg {
		return difference(a, b), true
	}
	lo, carry := bits.Add64(a.lo, b.lo, 0)
	hi, over := bits.Add64(a.hi, b.hi, carry)
	return wide{a.neg, hi, lo, a.e}, over == 0
}

// less answers a less b. It turns b here, where each number has its opposite, as Decs have not.
func less(a, b wide) (wide, bool) { return sum(a, b.turned()) }

// difference answers a and b together, whose exponents are the same and whose signs are not.
func difference(a, b wide) wide {
	if bySize(a, b) < 0 {
		a, b = b, a
	}
	lo, borrow := bits.Sub64(a.lo, b.lo, 0)
	hi, _ := bits.Sub64(a.hi, b.hi, borrow)
	return wide{a.neg, hi, lo, a.e}
}

// product answers a times b, which have a hi of 0, so that it always fits.
func product(a, b wide) (wide, bool) {
	hi, lo := bits.Mul64(a.lo, b.lo)
	return wide{a.neg != b.neg, hi, lo, a.e + b.e}, true
}

// quotient answers a divided by b, which have a hi of 0, and b is not 0; false, if it never ends or does not fit. Without common factors no nought comes at its end, so that what does not fit can't be told.
func quotient(a, b wide) (wide, bool) {
	common := divisor(a.lo, b.lo)
	by := b.lo / common
	q, fits := wide{a.neg != b.neg, 0, a.lo / common, a.e - b.e}, true
	for ; by > 1 && fits; q.e-- {
		switch {
		case by%10 == 0:
			by /= 10
		case by%2 == 0:
			by /= 2
			q, fits = q.times(5)
		case by%5 == 0:
			by /= 5
			q, fits = q.times(2)
		default:
			return wide{}, false
		}
	}
	return q, fits
}

// divisor answers the greatest number that divides both, if b is not 0.
func divisor(a, b uint64) uint64 {
	for a != 0 {
		a, b = b%a, a
	}
	return b
}

// power answers w as a factor n times. Powers of a w whose last digit is no nought have none at their end either, and those of one with an e of MaxExp have a greater e, so that what does not fit can't be told. Nor can a w that has a hi: a quotient, without a nought at its end.
func power(w wide, n int) (wide, bool) {
	p, fits := number(1, 0), w.hi == 0
	for range n {
		if !fits {
			return wide{}, false
		}
		p, fits = p.times(w.lo)
		p.neg = p.neg != w.neg
		p.e += w.e
	}
	return p, fits
}

// remainder answers what a leaves when b, which is not 0, is taken off it as often as a / b says, rounded down. If b does not fit at a's e, a is less and stays, or is taken off b: its last digit stays then, and so many ahead of it can't be told.
func remainder(a, b wide) (wide, bool) {
	by, fits := b.lowered(a.e)
	rest := a
	if fits && by.hi == 0 {
		rest = restOf(a, by)
	}
	switch {
	case rest.zero() || a.neg == b.neg:
		return rest, true
	case !fits:
		return wide{}, false
	}
	return sum(rest, by)
}

// restOf answers what a leaves when b, which has a hi of 0 and no greater e, is taken off it as often as it goes, by their sizes. The noughts that a gets at b's e are taken one at a time, so that they need not fit together.
func restOf(a, b wide) wide {
	lo := a.lo % b.lo
	for range a.e - b.e {
		up, down := bits.Mul64(lo, 10)
		lo = bits.Rem64(up, down, b.lo)
	}
	return wide{neg: a.neg, lo: lo, e: b.e}
}
