package dec_test

import (
	"math"
	"math/big"
	"math/rand"
	"testing"

	"quire/api"
	"quire/dec"
)

// call answers a call's answer by its name.
func call(name string, a, b api.Dec) answer {
	for _, p := range pairs() {
		if p.name == name {
			return got(p.call(a, b))
		}
	}
	panic("no call " + name)
}

// asked is what a call of two Decs must answer.
type asked struct {
	name string
	a, b api.Dec
	want answer
}

func ask(t *testing.T, all []asked) {
	t.Helper()
	for _, q := range all {
		is(t, call(q.name, q.a, q.b), q.want, q.name, q.a, q.b)
	}
}

// P901

func TestRight(t *testing.T) {
	for _, x := range []api.Dec{d(0, 0), d(1, 0), d(-1, 0), d(1, -18), d(1, 18), d(-1, -18), d(-1, 18), d(10, 18), d(-10, 18), d(1e18, 18), d(9e18, 18), d(101, 0), d(11, 17), d(-15, -17), d(greatest, 0), d(greatest, 18), d(greatest, -18), d(least, 0), d(least, 18), d(least, -18), d(5, -1), d(2, 1)} {
		if !dec.Right(x) {
			t.Errorf("Right(%v): false", x)
		}
	}
	for _, x := range []api.Dec{d(1, -19), d(1, 19), d(0, -19), d(0, 19), d(10, 19), d(1, math.MaxInt), d(1, math.MinInt), d(0, math.MaxInt), d(0, math.MinInt), d(10, 17), d(10, 0), d(10, -18), d(-10, 0), d(-10, 17), d(100, 0), d(1e18, 17), d(9e18, 0), d(0, 1), d(0, -1), d(0, 17), d(0, 18), d(0, -18), d(10, -19)} {
		if dec.Right(x) {
			t.Errorf("Right(%v): true", x)
		}
	}
}

// TestRightByWords asks the words' three ways to be canonical one by one: the second of them is for other numbers than 0, of which 0, 0 alone is right.
func TestRightByWords(t *testing.T) {
	for _, c := range edgeC {
		for e := -20; e <= 20; e++ {
			want := false
			if within(e) {
				undivided := new(big.Int).Rem(big.NewInt(c), big.NewInt(10)).Sign() != 0
				want = undivided || c != 0 && e == api.MaxExp || c == 0 && e == 0
			}
			if dec.Right(d(c, e)) != want {
				t.Errorf("Right(%d, %d): %v", c, e, !want)
			}
		}
	}
}

func TestMake(t *testing.T) {
	tests := []struct {
		c    int64
		e    int
		want answer
	}{
		{120, 0, right(12, 1)},
		{0, 0, right(0, 0)},
		{0, 5, right(0, 0)},
		{0, -5, right(0, 0)},
		{0, 18, right(0, 0)},
		{0, 19, right(0, 0)},
		{0, math.MaxInt, right(0, 0)},
		{0, math.MinInt, right(0, 0)},
		{1, 0, right(1, 0)},
		{-1, 0, right(-1, 0)},
		{-1200, -2, right(-12, 0)},
		{1000, -18, right(1, -15)},
		{1, -18, right(1, -18)},
		{1, -19, wrong(api.ErrNum)},
		{10, -19, right(1, -18)},
		{15, -19, wrong(api.ErrNum)},
		{1e18, -36, right(1, -18)},
		{-1e18, -36, right(-1, -18)},
		{1e18, -37, wrong(api.ErrNum)},
		{5e18, -36, right(5, -18)},
		{1, 18, right(1, 18)},
		{10, 18, right(10, 18)},
		{10, 17, right(1, 18)},
		{100, 17, right(10, 18)},
		{1, 19, right(10, 18)},
		{-1, 19, right(-10, 18)},
		{1, 36, right(1e18, 18)},
		{9, 36, right(9e18, 18)},
		{10, 36, wrong(api.ErrNum)},
		{10, 35, right(1e18, 18)},
		{1, 37, wrong(api.ErrNum)},
		{922337203685477580, 19, right(9223372036854775800, 18)},
		{922337203685477581, 19, wrong(api.ErrNum)},
		{-922337203685477580, 19, right(-9223372036854775800, 18)},
		{-922337203685477581, 19, wrong(api.ErrNum)},
		{greatest, 0, right(greatest, 0)},
		{greatest, 18, right(greatest, 18)},
		{greatest, 19, wrong(api.ErrNum)},
		{greatest, -18, right(greatest, -18)},
		{greatest, -19, wrong(api.ErrNum)},
		{least, 0, right(least, 0)},
		{least, 18, right(least, 18)},
		{least, 19, wrong(api.ErrNum)},
		{least, -18, right(least, -18)},
		{least, -19, wrong(api.ErrNum)},
		{1, math.MaxInt, wrong(api.ErrNum)},
		{1, math.MinInt, wrong(api.ErrNum)},
		{10, math.MaxInt, wrong(api.ErrNum)},
		{10, math.MinInt, wrong(api.ErrNum)},
		{least, math.MaxInt, wrong(api.ErrNum)},
		{least, math.MinInt, wrong(api.ErrNum)},
		{1, math.MaxInt32, wrong(api.ErrNum)},
		{1, 1 << 32, wrong(api.ErrNum)}, // whose low half is 0
		{1, -1 << 32, wrong(api.ErrNum)},
	}
	for _, x := range tests {
		is(t, got(dec.Make(x.c, x.e)), x.want, "Make", x.c, x.e)
	}
}

func TestMakeByModel(t *testing.T) {
	for _, c := range edgeC {
		for e := -60; e <= 60; e++ {
			r := new(big.Rat).SetInt64(c)
			made := got(dec.Make(c, e))
			is(t, made, tell(r.Mul(r, ten(e))), "Make", c, e)
			if made.E == api.OK && !dec.Right(made.D) {
				t.Errorf("Make(%d, %d): %v, which is not right", c, e, made.D)
			}
		}
	}
}

// TestOneRightDec holds Make against a look at every exponent: of each number there is one right Dec, or none.
func TestOneRightDec(t *testing.T) {
	for _, c := range edgeC {
		for e := -38; e <= 38; e++ {
			all := tellAll(new(big.Rat).Mul(new(big.Rat).SetInt64(c), ten(e)))
			switch made := got(dec.Make(c, e)); {
			case len(all) > 1:
				t.Errorf("of %d, %d there are %v", c, e, all)
			case len(all) == 1:
				is(t, made, answer{all[0], api.OK}, "Make", c, e)
			default:
				is(t, made, wrong(api.ErrNum), "Make", c, e)
			}
		}
	}
}

// P902

func TestAddAndSub(t *testing.T) {
	ask(t, []asked{
		{"Add", d(1, -1), d(2, -1), right(3, -1)},
		{"Add", d(5, -1), d(5, -1), right(1, 0)},
		{"Add", d(1, 0), d(-1, 0), right(0, 0)},
		{"Add", d(1, 18), d(-1, 18), right(0, 0)},
		{"Add", d(0, 0), d(0, 0), right(0, 0)},
		{"Add", d(0, 0), d(greatest, 18), right(greatest, 18)},
		{"Add", d(least, -18), d(0, 0), right(least, -18)},
		{"Add", d(1, 18), d(1, 0), right(1000000000000000001, 0)},
		{"Add", d(1, 18), d(1, -1), wrong(api.ErrNum)}, // 20 digits
		{"Add", d(9, 18), d(1, -1), wrong(api.ErrNum)},
		{"Add", d(1, 18), d(1, -18), wrong(api.ErrNum)},
		{"Add", d(greatest, 18), d(1, -18), wrong(api.ErrNum)},
		{"Add", d(greatest, 18), d(greatest, -18), wrong(api.ErrNum)},
		{"Add", d(least, 18), d(least, -18), wrong(api.ErrNum)},
		{"Add", d(1, 0), d(1, -18), right(1000000000000000001, -18)},
		{"Add", d(9, 0), d(223372036854775807, -18), right(greatest, -18)},
		{"Add", d(9, 0), d(223372036854775808, -18), wrong(api.ErrNum)},
		{"Add", d(-9, 0), d(-223372036854775808, -18), right(least, -18)},
		{"Add", d(-9, 0), d(-223372036854775809, -18), wrong(api.ErrNum)},
		{"Add", d(greatest, 0), d(1, 0), wrong(api.ErrNum)},
		{"Add", d(greatest, 0), d(3, 0), right(922337203685477581, 1)}, // since a nought goes
		{"Add", d(greatest, 0), d(greatest, 0), wrong(api.ErrNum)},
		{"Add", d(9223372036854775805, 0), d(9223372036854775805, 0), right(1844674407370955161, 1)},
		{"Add", d(9223372036854775805, -18), d(9223372036854775805, -18), right(1844674407370955161, -17)},
		{"Add", d(9223372036854775805, 17), d(9223372036854775805, 17), right(1844674407370955161, 18)},
		{"Add", d(9223372036854775805, 18), d(9223372036854775805, 18), wrong(api.ErrNum)}, // no nought goes at MaxExp
		{"Add", d(least, 0), d(least, 0), wrong(api.ErrNum)},
		{"Add", d(least, 0), d(-2, 0), right(-922337203685477581, 1)},
		{"Add", d(least, 0), d(-1, 0), wrong(api.ErrNum)},
		{"Add", d(least, 0), d(greatest, 0), right(-1, 0)},
		{"Add", d(5, 18), d(5, 18), right(10, 18)},
		{"Add", d(5, 17), d(5, 17), right(1, 18)},
		{"Add", d(10, 0), d(20, -1), right(12, 0)}, // not right, by their numbers
		{"Add", d(100, -18), d(0, 7), right(1, -16)},
		{"Add", d(1000000000000000000, 0), d(10, 17), right(2, 18)},
		{"Sub", d(3, -1), d(1, -1), right(2, -1)},
		{"Sub", d(1, 0), d(1, 0), right(0, 0)},
		{"Sub", d(0, 0), d(least, 0), wrong(api.ErrNum)},
		{"Sub", d(-1, 0), d(least, 0), right(greatest, 0)},
		{"Sub", d(least, 0), d(least, 0), right(0, 0)},
		{"Sub", d(2, 0), d(least, 0), right(922337203685477581, 1)},
		{"Sub", d(least, 0), d(1, 0), wrong(api.ErrNum)},
		{"Sub", d(least, 0), d(2, 0), right(-922337203685477581, 1)},
		{"Sub", d(1, 18), d(1, 0), right(999999999999999999, 0)},
		{"Sub", d(1, 1), d(1, -18), wrong(api.ErrNum)}, // 19 nines
		{"Sub", d(9, 0), d(1, -18), right(8999999999999999999, -18)},
		{"Sub", d(1, -18), d(1, 18), wrong(api.ErrNum)},
		{"Sub", d(greatest, 18), d(least, -18), wrong(api.ErrNum)},
		{"Sub", d(300, -2), d(10, -1), right(2, 0)},
	})
}

func TestMul(t *testing.T) {
	ask(t, []asked{
		{"Mul", d(12, 0), d(5, 0), right(6, 1)},
		{"Mul", d(12, -1), d(-3, -2), right(-36, -3)},
		{"Mul", d(0, 0), d(greatest, 18), right(0, 0)},
		{"Mul", d(least, -18), d(0, 0), right(0, 0)},
		{"Mul", d(1, -9), d(1, -9), right(1, -18)},
		{"Mul", d(1, -9), d(1, -10), wrong(api.ErrNum)},
		{"Mul", d(2, -9), d(5, -10), right(1, -18)}, // since a nought goes
		{"Mul", d(2, -18), d(5, -1), right(1, -18)},
		{"Mul", d(1024, -18), d(9765625, -10), right(1, -18)},
		{"Mul", d(1024, -18), d(9765625, -11), wrong(api.ErrNum)},
		{"Mul", d(1, -18), d(1, -18), wrong(api.ErrNum)},
		{"Mul", d(1, -18), d(1, 18), right(1, 0)},
		{"Mul", d(greatest, -18), d(1, 18), right(greatest, 0)},
		{"Mul", d(1, 18), d(1, 18), right(1e18, 18)},
		{"Mul", d(3, 18), d(3, 18), right(9e18, 18)},
		{"Mul", d(1, 18), d(10, 18), wrong(api.ErrNum)},
		{"Mul", d(1, 18), d(1, 1), right(10, 18)},
		{"Mul", d(1<<31, 0), d(1<<31, 0), right(1<<62, 0)},
		{"Mul", d(1<<32, 0), d(1<<31, 0), wrong(api.ErrNum)},
		{"Mul", d(-1<<32, 0), d(1<<31, 0), right(least, 0)},
		{"Mul", d(3037000500, 0), d(3037000500, 0), right(922337203700025, 4)},
		{"Mul", d(3037000501, 0), d(3037000501, 0), wrong(api.ErrNum)},
		{"Mul", d(1<<62, 0), d(1490116119384765625, 0), right(6871947673600000000, 18)}, // 68719476736 and 26 noughts
		{"Mul", d(1<<62, 0), d(7450580596923828125, 0), wrong(api.ErrNum)},
		{"Mul", d(1<<26, 0), d(7450580596923828125, 0), right(500000000, 18)}, // 5 and 26 noughts,
		{"Mul", d(least, 0), d(1, 0), right(least, 0)},
		{"Mul", d(least, 0), d(-1, 0), wrong(api.ErrNum)},
		{"Mul", d(least, 0), d(-5, 0), right(4611686018427387904, 1)},
		{"Mul", d(least, 0), d(least, 0), wrong(api.ErrNum)},
		{"Mul", d(least, 0), d(greatest, 0), wrong(api.ErrNum)},
		{"Mul", d(greatest, 0), d(greatest, 0), wrong(api.ErrNum)},
		{"Mul", d(-1, 0), d(-1, 0), right(1, 0)},
		{"Mul", d(100, -1), d(50, 0), right(5, 2)},
		{"Mul", d(0, 18), d(0, -18), right(0, 0)},
	})
}

func TestNeg(t *testing.T) {
	tests := []struct {
		a    api.Dec
		want answer
	}{
		{d(0, 0), right(0, 0)},
		{d(0, 18), right(0, 0)},
		{d(0, -18), right(0, 0)},
		{d(1, 0), right(-1, 0)},
		{d(-12, -18), right(12, -18)},
		{d(10, 18), right(-10, 18)},
		{d(-10, 0), right(1, 1)},
		{d(greatest, 0), right(-greatest, 0)},
		{d(-greatest, 18), right(greatest, 18)},
		{d(least, 0), wrong(api.ErrNum)},
		{d(least, 18), wrong(api.ErrNum)},
		{d(least, -18), wrong(api.ErrNum)},
		{d(-9223372036854775800, 0), right(92233720368547758, 2)},
		{d(1, 19), wrong(api.ErrArg)},
		{d(0, 19), wrong(api.ErrArg)},
		{d(least, -19), wrong(api.ErrArg)},
		{d(least, math.MinInt), wrong(api.ErrArg)},
	}
	for _, x := range tests {
		is(t, got(dec.Neg(x.a)), x.want, "Neg", x.a)
	}
	for _, c := range edgeC {
		for _, e := range edgeE {
			r := rat(d(c, e))
			is(t, got(dec.Neg(d(c, e))), tell(r.Neg(r)), "Neg", c, e)
		}
	}
}

func TestDiv(t *testing.T) {
	ask(t, []asked{
		{"Div", d(1, 0), d(4, 0), right(25, -2)},
		{"Div", d(1, 0), d(3, 0), wrong(api.ErrNum)},
		{"Div", d(1, 0), d(0, 0), wrong(api.ErrDiv)},
		{"Div", d(0, 0), d(0, 0), wrong(api.ErrDiv)},
		{"Div", d(least, 18), d(0, -18), wrong(api.ErrDiv)}, // 0 that is not right
		{"Div", d(1, 0), d(0, 18), wrong(api.ErrDiv)},
		{"Div", d(0, 0), d(3, 0), right(0, 0)},
		{"Div", d(0, 0), d(least, 18), right(0, 0)},
		{"Div", d(6, 0), d(3, 0), right(2, 0)},
		{"Div", d(-6, 0), d(3, 0), right(-2, 0)},
		{"Div", d(6, 0), d(-4, 0), right(-15, -1)},
		{"Div", d(-7, 0), d(-7, 0), right(1, 0)},
		{"Div", d(21, 0), d(6, 0), right(35, -1)},
		{"Div", d(1, 0), d(7, 0), wrong(api.ErrNum)},
		{"Div", d(22, 0), d(7, 0), wrong(api.ErrNum)},
		{"Div", d(1, 0), d(6, 0), wrong(api.ErrNum)},
		{"Div", d(3, 0), d(6, 0), right(5, -1)},
		{"Div", d(1, 0), d(1<<18, 0), right(3814697265625, -18)},
		{"Div", d(1, 0), d(1<<19, 0), wrong(api.ErrNum)}, // 19 places
		{"Div", d(1, 1), d(1<<19, 0), right(19073486328125, -18)},
		{"Div", d(1, 18), d(1<<27, 0), right(7450580596923828125, -9)},
		{"Div", d(1, 18), d(1<<28, 0), wrong(api.ErrNum)}, // 20 digits
		{"Div", d(1, 0), d(3814697265625, 0), right(262144, -18)},
		{"Div", d(1, 0), d(19073486328125, 0), wrong(api.ErrNum)},
		{"Div", d(1, 18), d(7450580596923828125, 0), right(134217728, -9)},
		{"Div", d(1, 0), d(1<<62, 0), wrong(api.ErrNum)},
		{"Div", d(1, 18), d(1<<62, -18), wrong(api.ErrNum)},
		{"Div", d(1, 18), d(least, -18), wrong(api.ErrNum)},
		{"Div", d(1, 18), d(1, -18), right(1e18, 18)},
		{"Div", d(9, 18), d(1, -18), right(9e18, 18)},
		{"Div", d(10, 18), d(1, -18), wrong(api.ErrNum)},
		{"Div", d(1, -18), d(1, 0), right(1, -18)},
		{"Div", d(1, -18), d(1, 1), wrong(api.ErrNum)},
		{"Div", d(1, -18), d(2, 0), wrong(api.ErrNum)},
		{"Div", d(1, -17), d(2, 0), right(5, -18)},
		{"Div", d(1, -18), d(1, 18), wrong(api.ErrNum)},
		{"Div", d(least, 0), d(-1, 0), wrong(api.ErrNum)},
		{"Div", d(least, 0), d(1, 0), right(least, 0)},
		{"Div", d(least, 0), d(least, 0), right(1, 0)},
		{"Div", d(least, 0), d(-2, 0), right(1<<62, 0)},
		{"Div", d(greatest, 0), d(least, 0), wrong(api.ErrNum)},
		{"Div", d(greatest, 0), d(greatest, 18), right(1, -18)},
		{"Div", d(greatest, -18), d(greatest, 0), right(1, -18)},
		{"Div", d(100, 0), d(400, -1), right(25, -1)},
	})
}

func TestMod(t *testing.T) {
	ask(t, []asked{
		{"Mod", d(-7, 0), d(3, 0), right(2, 0)},
		{"Mod", d(7, 0), d(3, 0), right(1, 0)},
		{"Mod", d(7, 0), d(-3, 0), right(-2, 0)},
		{"Mod", d(-7, 0), d(-3, 0), right(-1, 0)},
		{"Mod", d(6, 0), d(-3, 0), right(0, 0)},
		{"Mod", d(-6, 0), d(3, 0), right(0, 0)},
		{"Mod", d(2, 0), d(3, 0), right(2, 0)},
		{"Mod", d(-2, 0), d(3, 0), right(1, 0)},
		{"Mod", d(0, 0), d(-3, 0), right(0, 0)},
		{"Mod", d(1, 0), d(0, 0), wrong(api.ErrDiv)},
		{"Mod", d(0, 0), d(0, 0), wrong(api.ErrDiv)},
		{"Mod", d(greatest, 18), d(0, 5), wrong(api.ErrDiv)},
		{"Mod", d(55, -1), d(2, 0), right(15, -1)},
		{"Mod", d(-55, -1), d(2, 0), right(5, -1)},
		{"Mod", d(1, 0), d(3, -1), right(1, -1)},
		{"Mod", d(1, 0), d(-3, -1), right(-2, -1)},
		{"Mod", d(1, 18), d(7, -18), right(1, -18)},
		{"Mod", d(greatest, 18), d(greatest, -18), right(0, 0)},
		{"Mod", d(greatest, 18), d(3, -18), right(1, -18)},
		{"Mod", d(least, 18), d(3, -18), right(1, -18)},
		{"Mod", d(1, 18), d(greatest, -18), right(3804643027504467499, -18)},
		{"Mod", d(1, -18), d(1, 18), right(1, -18)},
		{"Mod", d(-1, -18), d(-1, 18), right(-1, -18)},
		{"Mod", d(-1, -18), d(1, 18), wrong(api.ErrNum)}, // 36 digits
		{"Mod", d(1, -18), d(-1, 18), wrong(api.ErrNum)},
		{"Mod", d(-1, -18), d(greatest, 18), wrong(api.ErrNum)}, // more than twice 64 bits
		{"Mod", d(1, -18), d(greatest, 18), right(1, -18)},
		{"Mod", d(0, 0), d(greatest, 18), right(0, 0)},
		{"Mod", d(0, -18), d(least, 18), right(0, 0)},
		{"Mod", d(-1, -18), d(9, 0), right(8999999999999999999, -18)},
		{"Mod", d(-1, -18), d(1, 1), wrong(api.ErrNum)},
		{"Mod", d(-1, 0), d(1, 18), right(999999999999999999, 0)},
		{"Mod", d(least, 0), d(least, 18), right(least, 0)},
		{"Mod", d(least, 0), d(least, 0), right(0, 0)},
		{"Mod", d(least, 0), d(-1, 0), right(0, 0)},
		{"Mod", d(least, 0), d(greatest, 0), right(greatest-1, 0)},
		{"Mod", d(greatest, 0), d(least, 0), right(-1, 0)},
		{"Mod", d(-greatest, 0), d(greatest, 0), right(0, 0)},
		{"Mod", d(1, 0), d(least, 0), right(-greatest, 0)},
		{"Mod", d(70, -1), d(30, -1), right(1, 0)},
		{"Mod", d(25, 0), d(10, 0), right(5, 0)},
		{"Mod", d(250, 0), d(100, 0), right(5, 1)},
	})
}

func TestPow(t *testing.T) {
	ask(t, []asked{
		{"Pow", d(2, 0), d(-2, 0), right(25, -2)},
		{"Pow", d(2, 0), d(10, 0), right(1024, 0)},
		{"Pow", d(-2, 0), d(3, 0), right(-8, 0)},
		{"Pow", d(-2, 0), d(4, 0), right(16, 0)},
		{"Pow", d(5, 0), d(1, 0), right(5, 0)},
		{"Pow", d(3, 0), d(5, -1), wrong(api.ErrNum)},
		{"Pow", d(1, 0), d(5, -1), wrong(api.ErrNum)},
		{"Pow", d(0, 0), d(15, -1), wrong(api.ErrNum)},
		{"Pow", d(1, 0), d(1, -18), wrong(api.ErrNum)},
		{"Pow", d(1, 0), d(64, 0), right(1, 0)},
		{"Pow", d(1, 0), d(65, 0), wrong(api.ErrNum)},
		{"Pow", d(1, 0), d(-64, 0), right(1, 0)},
		{"Pow", d(1, 0), d(-65, 0), wrong(api.ErrNum)},
		{"Pow", d(1, 0), d(6, 1), right(1, 0)},
		{"Pow", d(1, 0), d(7, 1), wrong(api.ErrNum)},
		{"Pow", d(1, 0), d(greatest, 18), wrong(api.ErrNum)},
		{"Pow", d(1, 0), d(least, 0), wrong(api.ErrNum)},
		{"Pow", d(1, 0), d(645, -1), wrong(api.ErrNum)},
		{"Pow", d(-1, 0), d(64, 0), right(1, 0)},
		{"Pow", d(-1, 0), d(63, 0), right(-1, 0)},
		{"Pow", d(-1, 0), d(-63, 0), right(-1, 0)},
		{"Pow", d(0, 0), d(0, 0), right(1, 0)},
		{"Pow", d(0, 7), d(0, -7), right(1, 0)},
		{"Pow", d(greatest, 18), d(0, 0), right(1, 0)},
		{"Pow", d(least, -18), d(0, 0), right(1, 0)},
		{"Pow", d(0, 0), d(1, 0), right(0, 0)},
		{"Pow", d(0, 0), d(64, 0), right(0, 0)},
		{"Pow", d(0, 0), d(65, 0), wrong(api.ErrNum)},
		{"Pow", d(0, 0), d(-1, 0), wrong(api.ErrDiv)},
		{"Pow", d(0, 18), d(-64, 0), wrong(api.ErrDiv)},
		{"Pow", d(0, 0), d(-65, 0), wrong(api.ErrNum)}, // the first that is named
		{"Pow", d(0, 0), d(-5, -1), wrong(api.ErrNum)},
		{"Pow", d(2, 0), d(62, 0), right(1<<62, 0)},
		{"Pow", d(2, 0), d(63, 0), wrong(api.ErrNum)},
		{"Pow", d(-2, 0), d(63, 0), right(least, 0)},
		{"Pow", d(2, 0), d(64, 0), wrong(api.ErrNum)},
		{"Pow", d(-2, 0), d(64, 0), wrong(api.ErrNum)},
		{"Pow", d(3, 0), d(39, 0), right(4052555153018976267, 0)},
		{"Pow", d(3, 0), d(40, 0), wrong(api.ErrNum)},
		{"Pow", d(1, 1), d(36, 0), right(1e18, 18)},
		{"Pow", d(1, 1), d(37, 0), wrong(api.ErrNum)},
		{"Pow", d(1, 1), d(-18, 0), right(1, -18)},
		{"Pow", d(1, 1), d(-19, 0), wrong(api.ErrNum)},
		{"Pow", d(1, -1), d(18, 0), right(1, -18)},
		{"Pow", d(1, -1), d(19, 0), wrong(api.ErrNum)},
		{"Pow", d(1, -1), d(-18, 0), right(1, 18)},
		{"Pow", d(1, -1), d(-36, 0), right(1e18, 18)},
		{"Pow", d(1, -1), d(-37, 0), wrong(api.ErrNum)},
		{"Pow", d(1, 18), d(2, 0), right(1e18, 18)},
		{"Pow", d(1, 18), d(-1, 0), right(1, -18)},
		{"Pow", d(1, 18), d(-2, 0), wrong(api.ErrNum)},
		{"Pow", d(1, -18), d(-2, 0), right(1e18, 18)},
		{"Pow", d(10, 18), d(1, 0), right(10, 18)},
		{"Pow", d(10, 18), d(2, 0), wrong(api.ErrNum)},
		{"Pow", d(10, 18), d(-1, 0), wrong(api.ErrNum)},
		{"Pow", d(2, 0), d(-18, 0), right(3814697265625, -18)},
		{"Pow", d(2, 0), d(-19, 0), wrong(api.ErrNum)},
		{"Pow", d(-2, 0), d(-3, 0), right(-125, -3)},
		{"Pow", d(3, 0), d(-1, 0), wrong(api.ErrNum)},
		{"Pow", d(3, 0), d(-64, 0), wrong(api.ErrNum)},
		{"Pow", d(5, 0), d(-18, 0), right(262144, -18)},
		{"Pow", d(5, -1), d(-18, 0), right(262144, 0)},
		{"Pow", d(5, -1), d(-62, 0), right(1<<62, 0)}, // can be told, while 0.5 to the 62 can't
		{"Pow", d(5, -1), d(-63, 0), wrong(api.ErrNum)},
		{"Pow", d(-5, -1), d(-63, 0), right(least, 0)},
		{"Pow", d(2, -1), d(-27, 0), right(7450580596923828125, 0)},
		{"Pow", d(2, -1), d(-28, 0), wrong(api.ErrNum)},
		{"Pow", d(125, -3), d(-20, 0), right(1<<60, 0)},
		{"Pow", d(1<<62, 0), d(-1, 0), wrong(api.ErrNum)},
		{"Pow", d(1<<62, 0), d(-2, 0), wrong(api.ErrNum)},
		{"Pow", d(least, 0), d(1, 0), right(least, 0)},
		{"Pow", d(least, 0), d(2, 0), wrong(api.ErrNum)},
		{"Pow", d(least, 0), d(-1, 0), wrong(api.ErrNum)},
		{"Pow", d(greatest, 18), d(1, 0), right(greatest, 18)},
		{"Pow", d(greatest, 18), d(64, 0), wrong(api.ErrNum)},
		{"Pow", d(200, -2), d(30, -1), right(8, 0)},
		{"Pow", d(2, 0), d(300, -2), right(8, 0)},
	})
}

// TestExponentBeyond: an E beyond MaxExp is ErrArg ahead of all other errors, of a C of 0 too.
func TestExponentBeyond(t *testing.T) {
	others := []api.Dec{d(0, 0), d(1, 0), d(-3, -18), d(10, 0), d(least, 18), d(5, -1), d(-65, 0)}
	for _, e := range beyondE {
		for _, c := range []int64{0, 1, -1, 10, 1000, greatest, least} {
			bad := d(c, e)
			for _, p := range pairs() {
				for _, other := range others {
					is(t, got(p.call(bad, other)), wrong(api.ErrArg), p.name, bad, other)
					is(t, got(p.call(other, bad)), wrong(api.ErrArg), p.name, other, bad)
				}
				is(t, got(p.call(bad, bad)), wrong(api.ErrArg), p.name, bad, bad)
			}
			is(t, got(dec.Neg(bad)), wrong(api.ErrArg), "Neg", bad)
		}
	}
}

func TestPairsOfEdges(t *testing.T) {
	cs := []int64{0, 1, -1, 2, -3, 5, -10, 64, 1024, 1e18, -9e18, 922337203685477581, 1 << 62, greatest, least, 7450580596923828125}
	es := []int{-18, -17, -9, -1, 0, 1, 9, 17, 18, 19}
	for _, ca := range cs {
		for _, ea := range es {
			for _, cb := range cs {
				for _, eb := range es {
					againstModel(t, d(ca, ea), d(cb, eb))
				}
			}
		}
	}
}

func TestPairsOfAnyDecs(t *testing.T) {
	r := rand.New(rand.NewSource(9))
	for range 20000 {
		a, b := anyDec(r), anyDec(r)
		switch r.Intn(4) {
		case 0:
			b = d(int64(r.Intn(140)-70), 0)
		case 1:
			b.E = a.E
		}
		againstModel(t, a, b)
	}
}

// TestPowOfAll asks for all powers of numbers that have many.
func TestPowOfAll(t *testing.T) {
	for _, c := range []int64{1, -1, 2, -2, 3, 4, 5, -5, 8, 10, 16, 20, 25, 125, 1000, 3125} {
		for e := -4; e <= 4; e++ {
			for n := -66; n <= 66; n++ {
				a, b := d(c, e), d(int64(n), 0)
				is(t, got(dec.Pow(a, b)), modelPow(a, b), "Pow", a, b)
			}
		}
	}
}

// P905

func TestOrderOfTwo(t *testing.T) {
	r := rand.New(rand.NewSource(905))
	for range 50000 {
		a, b := anyDec(r), anyDec(r)
		if r.Intn(50) == 0 {
			a.E = beyondE[r.Intn(len(beyondE))]
		}
		is(t, got(dec.Add(a, b)), got(dec.Add(b, a)), "Add", a, b)
		is(t, got(dec.Mul(a, b)), got(dec.Mul(b, a)), "Mul", a, b)
	}
}

func TestAddedIsTakenOff(t *testing.T) {
	r := rand.New(rand.NewSource(906))
	told := 0
	for range 50000 {
		a, b := anyDec(r), anyDec(r)
		if r.Intn(2) == 0 {
			b.E = a.E
		}
		s, e := dec.Add(a, b)
		if e != api.OK {
			continue
		}
		told++
		is(t, got(dec.Sub(s, b)), got(dec.Make(a.C, a.E)), "Sub", s, b)
		is(t, got(dec.Sub(s, a)), got(dec.Make(b.C, b.E)), "Sub", s, a)
	}
	if told < 10000 {
		t.Errorf("only %d sums could be told", told)
	}
}
