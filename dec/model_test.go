package dec_test

import (
	"math"
	"math/big"
	"math/rand"
	"regexp"
	"strings"
	"testing"

	"quire/api"
	"quire/dec"
)

const (
	least    = math.MinInt64
	greatest = math.MaxInt64
)

// d is a Dec, right or not.
func d(c int64, e int) api.Dec { return api.Dec{C: c, E: e} }

// answer is what a call answers that makes a Dec.
type answer struct {
	D api.Dec
	E api.Errno
}

func got(x api.Dec, e api.Errno) answer { return answer{x, e} }

func right(c int64, e int) answer { return answer{d(c, e), api.OK} }

func wrong(e api.Errno) answer { return answer{api.Dec{}, e} }

// is holds an answer against what it must be.
func is(t *testing.T, got, want answer, what string, of ...any) {
	t.Helper()
	if got != want {
		t.Errorf("%s%v: %v, not %v", what, of, got, want)
	}
}

func within(e int) bool { return e >= -api.MaxExp && e <= api.MaxExp }

// The model: fractions of whole numbers without a bound.

func ten(n int) *big.Rat {
	p := new(big.Int).Exp(big.NewInt(10), big.NewInt(int64(max(n, -n))), nil)
	r := new(big.Rat).SetInt(p)
	if n < 0 {
		r.Inv(r)
	}
	return r
}

func rat(a api.Dec) *big.Rat {
	r := new(big.Rat).SetInt64(a.C)
	return r.Mul(r, ten(a.E))
}

// tell is the right Dec for r. It takes r in its lowest place, and goes up from there while it stays whole.
func tell(r *big.Rat) answer {
	if r.Sign() == 0 {
		return right(0, 0)
	}
	low := new(big.Rat).Mul(r, ten(api.MaxExp))
	if !low.IsInt() {
		return wrong(api.ErrNum)
	}
	c, e := new(big.Int).Set(low.Num()), -api.MaxExp
	for e < api.MaxExp {
		q, m := new(big.Int).QuoRem(c, big.NewInt(10), new(big.Int))
		if m.Sign() != 0 {
			break
		}
		c, e = q, e+1
	}
	if !c.IsInt64() {
		return wrong(api.ErrNum)
	}
	return right(c.Int64(), e)
}

// tellAll looks for r's right Decs at every exponent.
func tellAll(r *big.Rat) (all []api.Dec) {
	for e := -api.MaxExp; e <= api.MaxExp; e++ {
		c := new(big.Rat).Mul(r, ten(-e))
		if !c.IsInt() || !c.Num().IsInt64() {
			continue
		}
		if x := d(c.Num().Int64(), e); dec.Right(x) {
			all = append(all, x)
		}
	}
	return all
}

// floor is the greatest whole number that is no greater than r.
func floor(r *big.Rat) *big.Rat {
	q := new(big.Int).Div(r.Num(), r.Denom()) // Euclid's: the divisor is above 0, so it goes down
	return new(big.Rat).SetInt(q)
}

func modelSum(a, b api.Dec) answer {
	return tell(new(big.Rat).Add(rat(a), rat(b)))
}

func modelSub(a, b api.Dec) answer {
	return tell(new(big.Rat).Sub(rat(a), rat(b)))
}

func modelMul(a, b api.Dec) answer {
	return tell(new(big.Rat).Mul(rat(a), rat(b)))
}

func modelDiv(a, b api.Dec) answer {
	if b.C == 0 {
		return wrong(api.ErrDiv)
	}
	return tell(new(big.Rat).Quo(rat(a), rat(b)))
}

func modelMod(a, b api.Dec) answer {
	if b.C == 0 {
		return wrong(api.ErrDiv)
	}
	x, y := rat(a), rat(b)
	times := floor(new(big.Rat).Quo(x, y))
	return tell(x.Sub(x, times.Mul(times, y)))
}

func modelPow(a, b api.Dec) answer {
	n := rat(b)
	if !n.IsInt() || n.Cmp(big.NewRat(-64, 1)) < 0 || n.Cmp(big.NewRat(64, 1)) > 0 {
		return wrong(api.ErrNum)
	}
	times := n.Num().Int64()
	if a.C == 0 && times < 0 {
		return wrong(api.ErrDiv)
	}
	p := big.NewRat(1, 1)
	for range max(times, -times) {
		p.Mul(p, rat(a))
	}
	if times < 0 {
		p.Inv(p)
	}
	return tell(p)
}

func modelRound(a api.Dec, places int) answer {
	if !within(places) {
		return wrong(api.ErrArg)
	}
	x := new(big.Rat).Mul(rat(a), ten(places))
	size := floor(new(big.Rat).Add(new(big.Rat).Abs(x), big.NewRat(1, 2)))
	if x.Sign() < 0 {
		size.Neg(size)
	}
	return tell(size.Mul(size, ten(-places)))
}

func modelInt(a api.Dec) (int, bool) {
	x := rat(a)
	bound := big.NewRat(1<<53, 1)
	if !x.IsInt() || new(big.Rat).Abs(x).Cmp(bound) > 0 {
		return 0, false
	}
	return int(x.Num().Int64()), true
}

var form = regexp.MustCompile(`\A-?[0-9]+(\.[0-9]+)?([Ee][+-]?[0-9]{1,3})?\z`)

func modelParse(s string) answer {
	if len(s) > api.MaxText || !form.MatchString(s) {
		return wrong(api.ErrSyntax)
	}
	r, ok := new(big.Rat).SetString(s)
	if !ok {
		panic("the model does not read " + s)
	}
	return tell(r)
}

func modelPrint(a api.Dec) string {
	s := rat(a).FloatString(api.MaxExp)
	return strings.TrimSuffix(strings.TrimRight(s, "0"), ".")
}

// modelPair is what the words say of two Decs, whose exponents may lie beyond.
func modelPair(model func(a, b api.Dec) answer, a, b api.Dec) answer {
	if !within(a.E) || !within(b.E) {
		return wrong(api.ErrArg)
	}
	return model(a, b)
}

// pair is a call that takes two Decs, and its model.
type pair struct {
	name  string
	call  func(a, b api.Dec) (api.Dec, api.Errno)
	model func(a, b api.Dec) answer
}

func pairs() []pair {
	return []pair{
		{"Add", dec.Add, modelSum},
		{"Sub", dec.Sub, modelSub},
		{"Mul", dec.Mul, modelMul},
		{"Div", dec.Div, modelDiv},
		{"Mod", dec.Mod, modelMod},
		{"Pow", dec.Pow, modelPow},
	}
}

// againstModel holds all that the calls answer of a and b against the model.
func againstModel(t *testing.T, a, b api.Dec) {
	t.Helper()
	for _, p := range pairs() {
		answered, want := got(p.call(a, b)), modelPair(p.model, a, b)
		is(t, answered, want, p.name, a, b)
		if answered.E == api.OK && !dec.Right(answered.D) {
			t.Errorf("%s(%v, %v): %v, which is not right", p.name, a, b, answered.D)
		}
	}
	want := 0
	if within(a.E) && within(b.E) {
		want = rat(a).Cmp(rat(b))
	}
	if c := dec.Cmp(a, b); c != want {
		t.Errorf("Cmp(%v, %v): %d, not %d", a, b, c, want)
	}
}

// edgeC are numbers at which something changes: what 10, 2, 5 divide, and what lies at a type's end.
var edgeC = []int64{
	0, 1, -1, 2, -2, 3, -3, 4, 5, -5, 7, -7, 8, 9, 10, -10, 11, 15, 20, 25, -25, 40, 50, 64, -64, 65, 99, 100, 125, 1000, 1024, -1250,
	1 << 31, 1 << 32, 1<<53 - 1, 1 << 53, 1<<53 + 1, -1 << 53, 1 << 62, -1 << 62, 3 << 61,
	1e9, 1e17, 1e18, -1e18, 9e18, -9e18, 5e18, 4999999999999999999, -5e18, 922337203685477580, 922337203685477581, 9223372036854775800, -9223372036854775800,
	greatest, greatest - 1, least, least + 1,
	7450580596923828125, -7450580596923828125, 1490116119384765625, 4052555153018976267, 3037000499, 3037000500,
}

var edgeE = []int{-18, -17, -10, -9, -2, -1, 0, 1, 2, 9, 17, 18}

var beyondE = []int{-19, 19, -20, 20, -37, 37, math.MinInt, math.MaxInt, math.MinInt + 1, math.MaxInt - 1, math.MinInt32, math.MaxInt32}

// anyDec is a Dec whose C has any number of bits, and often few digits or noughts at its end.
func anyDec(r *rand.Rand) api.Dec {
	c := r.Int63() >> r.Intn(63)
	switch r.Intn(6) {
	case 0:
		c = edgeC[r.Intn(len(edgeC))]
	case 1:
		for range r.Intn(8) {
			if c < greatest/10 {
				c *= 10
			}
		}
	case 2:
		c = 1 << r.Intn(63)
	case 3:
		c = 1
		for range r.Intn(28) {
			c *= 5
		}
	}
	if r.Intn(2) == 0 {
		c = -c
	}
	return d(c, r.Intn(2*api.MaxExp+1)-api.MaxExp)
}
