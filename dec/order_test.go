package dec_test

import (
	"math"
	"math/big"
	"math/rand"
	"testing"

	"quire/api"
	"quire/dec"
)

// P903

func TestCmp(t *testing.T) {
	tests := []struct {
		a, b api.Dec
		want int
	}{
		{d(1, 0), d(2, 0), -1},
		{d(-1, 0), d(-2, 0), 1},
		{d(-1, 0), d(1, 0), -1},
		{d(0, 0), d(0, 0), 0},
		{d(0, 0), d(1, -18), -1},
		{d(0, 0), d(-1, -18), 1},
		{d(0, 18), d(0, -18), 0},
		{d(0, -18), d(1, -18), -1},
		{d(10, 0), d(1, 1), 0},
		{d(1000, -3), d(1, 0), 0},
		{d(-1000, -3), d(-1, 0), 0},
		{d(1001, -3), d(1, 0), 1},
		{d(-1001, -3), d(-1, 0), -1},
		{d(1, 18), d(1e18, 0), 0},
		{d(1, 18), d(999999999999999999, 0), 1},
		{d(1, 18), d(1000000000000000001, 0), -1},
		{d(9, 18), d(greatest, 0), -1},
		{d(1, 0), d(1e18, -18), 0},
		{d(1, 18), d(greatest, -18), 1},
		{d(-1, 18), d(greatest, -18), -1},
		{d(-1, 18), d(least, -18), -1},
		{d(least, -18), d(-1, 18), 1},
		{d(greatest, 18), d(greatest, -18), 1},
		{d(greatest, -18), d(greatest, 18), -1},
		{d(least, 18), d(least, -18), -1},
		{d(least, -18), d(least, 18), 1},
		{d(least, 0), d(greatest, 0), -1},
		{d(least, 0), d(least+1, 0), -1},
		{d(least, 0), d(least, 0), 0},
		{d(least, 18), d(-greatest, 18), -1},
		{d(1, 19), d(2, 0), 0},
		{d(1, 0), d(2, 19), 0},
		{d(1, -19), d(-2, 0), 0},
		{d(0, 19), d(1, 0), 0},
		{d(5, 0), d(0, math.MinInt), 0},
		{d(5, math.MaxInt), d(-5, math.MinInt), 0},
	}
	for _, x := range tests {
		if c := dec.Cmp(x.a, x.b); c != x.want {
			t.Errorf("Cmp(%v, %v): %d, not %d", x.a, x.b, c, x.want)
		}
		if c := dec.Cmp(x.b, x.a); c != -x.want {
			t.Errorf("Cmp(%v, %v): %d, not %d", x.b, x.a, c, -x.want)
		}
	}
}

// TestCmpNear holds numbers against each other that differ in their last digit alone, or not at all.
func TestCmpNear(t *testing.T) {
	r := rand.New(rand.NewSource(903))
	for range 20000 {
		a := anyDec(r)
		b := a
		for n := r.Intn(19); n > 0 && b.E > -api.MaxExp && b.C < greatest/10 && b.C > least/10; n-- {
			b = d(b.C*10, b.E-1)
		}
		if b.C > least && b.C < greatest {
			b.C += int64(r.Intn(3) - 1)
		}
		if c, want := dec.Cmp(a, b), rat(a).Cmp(rat(b)); c != want {
			t.Errorf("Cmp(%v, %v): %d, not %d", a, b, c, want)
		}
	}
}

func TestSign(t *testing.T) {
	for _, c := range edgeC {
		for _, e := range edgeE {
			if s, want := dec.Sign(d(c, e)), big.NewInt(c).Sign(); s != want {
				t.Errorf("Sign(%d, %d): %d, not %d", c, e, s, want)
			}
		}
		for _, e := range beyondE {
			if s := dec.Sign(d(c, e)); s != 0 {
				t.Errorf("Sign(%d, %d): %d, not 0", c, e, s)
			}
		}
	}
}

func TestRound(t *testing.T) {
	tests := []struct {
		a      api.Dec
		places int
		want   answer
	}{
		{d(25, -1), 0, right(3, 0)},
		{d(-25, -1), 0, right(-3, 0)},
		{d(1250, 0), -2, right(13, 2)},
		{d(125, 1), -2, right(13, 2)},
		{d(5, -1), 0, right(1, 0)},
		{d(-5, -1), 0, right(-1, 0)},
		{d(49, -2), 0, right(0, 0)},
		{d(-49, -2), 0, right(0, 0)},
		{d(499999, -6), 0, right(0, 0)},
		{d(500001, -6), 0, right(1, 0)},
		{d(45, -2), 0, right(0, 0)}, // not by way of 0.5
		{d(24, -1), 0, right(2, 0)},
		{d(26, -1), 0, right(3, 0)},
		{d(15, -1), 0, right(2, 0)},
		{d(-15, -1), 0, right(-2, 0)},
		{d(95, -1), 0, right(1, 1)},
		{d(1005, -3), 2, right(101, -2)},
		{d(-1005, -3), 2, right(-101, -2)},
		{d(1005, -3), 3, right(1005, -3)},
		{d(1005, -3), 18, right(1005, -3)},
		{d(1, -18), 18, right(1, -18)},
		{d(1, -18), 17, right(0, 0)},
		{d(5, -18), 17, right(1, -17)},
		{d(greatest, -18), 18, right(greatest, -18)},
		{d(greatest, -18), 17, right(922337203685477581, -17)},
		{d(greatest, -18), 0, right(9, 0)},
		{d(greatest, -18), -1, right(1, 1)},
		{d(greatest, -18), -2, right(0, 0)},
		{d(least, -18), -1, right(-1, 1)},
		{d(greatest, -18), -18, right(0, 0)},
		{d(least, -18), -18, right(0, 0)},
		{d(greatest, 0), 0, right(greatest, 0)},
		{d(greatest, 0), 18, right(greatest, 0)},
		{d(least, 0), 18, right(least, 0)},
		{d(least, 0), 0, right(least, 0)},
		{d(greatest, 0), -1, right(922337203685477581, 1)},
		{d(least, 0), -1, right(-922337203685477581, 1)},
		{d(greatest, 0), -18, right(9, 18)},
		{d(8500000000000000000, 0), -18, right(9, 18)},
		{d(greatest, 18), -18, right(greatest, 18)},
		{d(least, 18), -18, right(least, 18)},
		{d(greatest, -1), -18, right(1, 18)}, // 0.92 of a whole one
		{d(5, 17), -18, right(1, 18)},
		{d(4, 17), -18, right(0, 0)},
		{d(499999999999999999, 0), -18, right(0, 0)},
		{d(500000000000000000, 0), -18, right(1, 18)},
		{d(10, 18), -18, right(10, 18)},
		{d(10, 18), 18, right(10, 18)},
		{d(0, 0), 0, right(0, 0)},
		{d(0, 18), -18, right(0, 0)},
		{d(0, -18), 18, right(0, 0)},
		{d(100, 0), 2, right(1, 2)}, // not right, by its number
		{d(250, -2), 0, right(3, 0)},
		{d(1, 0), 19, wrong(api.ErrArg)},
		{d(1, 0), -19, wrong(api.ErrArg)},
		{d(0, 0), math.MaxInt, wrong(api.ErrArg)},
		{d(0, 0), math.MinInt, wrong(api.ErrArg)},
		{d(1, 19), 0, wrong(api.ErrArg)},
		{d(1, -19), 0, wrong(api.ErrArg)},
		{d(0, 19), 0, wrong(api.ErrArg)},
		{d(1, math.MinInt), math.MaxInt, wrong(api.ErrArg)},
	}
	for _, x := range tests {
		is(t, got(dec.Round(x.a, x.places)), x.want, "Round", x.a, x.places)
	}
}

// TestRoundByModel asks, with what is rounded, that it can be told always: it has no more digits than the number had, and its exponent is within.
func TestRoundByModel(t *testing.T) {
	for _, c := range edgeC {
		for _, e := range edgeE {
			for places := -20; places <= 20; places++ {
				want := modelRound(d(c, e), places)
				if want.E == api.ErrNum {
					t.Errorf("of %d, %d rounded to %d there is no Dec", c, e, places)
				}
				is(t, got(dec.Round(d(c, e), places)), want, "Round", d(c, e), places)
			}
		}
	}
	r := rand.New(rand.NewSource(904))
	for range 20000 {
		a, places := anyDec(r), r.Intn(41)-20
		is(t, got(dec.Round(a, places)), modelRound(a, places), "Round", a, places)
	}
}

func TestFloor(t *testing.T) {
	tests := []struct {
		a    api.Dec
		want answer
	}{
		{d(25, -1), right(2, 0)},
		{d(-25, -1), right(-3, 0)},
		{d(-1, -18), right(-1, 0)},
		{d(1, -18), right(0, 0)},
		{d(-20, -1), right(-2, 0)},
		{d(20, -1), right(2, 0)},
		{d(-95, -1), right(-1, 1)},
		{d(-10, -1), right(-1, 0)},
		{d(0, 0), right(0, 0)},
		{d(0, -18), right(0, 0)},
		{d(7, 18), right(7, 18)},
		{d(-70, 18), right(-70, 18)},
		{d(greatest, -1), right(92233720368547758, 1)},
		{d(least, -1), right(-922337203685477581, 0)},
		{d(least, -18), right(-1, 1)},
		{d(greatest, -18), right(9, 0)},
		{d(least, 0), right(least, 0)},
		{d(greatest, 18), right(greatest, 18)},
		{d(1, 19), wrong(api.ErrArg)},
		{d(1, -19), wrong(api.ErrArg)},
		{d(0, math.MinInt), wrong(api.ErrArg)},
	}
	for _, x := range tests {
		is(t, got(dec.Floor(x.a)), x.want, "Floor", x.a)
	}
	for _, c := range edgeC {
		for _, e := range edgeE {
			is(t, got(dec.Floor(d(c, e))), tell(floor(rat(d(c, e)))), "Floor", c, e)
		}
	}
}

func TestInt(t *testing.T) {
	tests := []struct {
		a  api.Dec
		n  int
		ok bool
	}{
		{d(0, 0), 0, true},
		{d(0, 18), 0, true},
		{d(0, -18), 0, true},
		{d(5, 0), 5, true},
		{d(-5, 2), -500, true},
		{d(50, -1), 5, true},
		{d(5, -1), 0, false},
		{d(-5, -1), 0, false},
		{d(105, -1), 0, false},
		{d(1<<53, 0), 1 << 53, true},
		{d(1<<53-1, 0), 1<<53 - 1, true},
		{d(1<<53+1, 0), 0, false},
		{d(-1<<53, 0), -1 << 53, true},
		{d(-1<<53-1, 0), 0, false},
		{d(-1<<53+1, 0), -1<<53 + 1, true},
		{d(9007199254740992, 1), 0, false},
		{d(90071992547409920, -1), 1 << 53, true},
		{d(90071992547409925, -1), 0, false}, // half above
		{d(900719925474099, 1), 9007199254740990, true},
		{d(9, 15), 9e15, true},
		{d(1, 16), 0, false},
		{d(1, 18), 0, false},
		{d(1e18, -18), 1, true},
		{d(greatest, 18), 0, false},
		{d(least, 18), 0, false},
		{d(greatest, 0), 0, false},
		{d(least, 0), 0, false},
		{d(1<<62, 2), 0, false}, // whose low 64 bits are 0
		{d(greatest, -18), 0, false},
		{d(1, 19), 0, false},
		{d(0, 19), 0, false},
		{d(10, -19), 0, false},
		{d(0, math.MaxInt), 0, false},
	}
	for _, x := range tests {
		if n, ok := dec.Int(x.a); n != x.n || ok != x.ok {
			t.Errorf("Int(%v): %d, %v, not %d, %v", x.a, n, ok, x.n, x.ok)
		}
	}
	for _, c := range edgeC {
		for _, e := range edgeE {
			n, ok := dec.Int(d(c, e))
			if want, is := modelInt(d(c, e)); n != want || ok != is {
				t.Errorf("Int(%d, %d): %d, %v, not %d, %v", c, e, n, ok, want, is)
			}
		}
	}
}

// P905

func TestCmpThroughThree(t *testing.T) {
	r := rand.New(rand.NewSource(907))
	near := func() api.Dec { return d(int64(r.Intn(25)-12), r.Intn(3)-1) }
	for i := range 50000 {
		a, b, c := anyDec(r), anyDec(r), anyDec(r)
		if i%2 == 0 {
			a, b, c = near(), near(), near()
		}
		if dec.Cmp(a, b) <= 0 && dec.Cmp(b, c) <= 0 {
			through := dec.Cmp(a, c)
			if through > 0 || through == 0 && (dec.Cmp(a, b) != 0 || dec.Cmp(b, c) != 0) {
				t.Errorf("%v, %v, %v go up, but Cmp of the ends is %d", a, b, c, through)
			}
		}
		if dec.Cmp(a, b) != -dec.Cmp(b, a) {
			t.Errorf("Cmp of %v and %v is not turned", a, b)
		}
	}
}
