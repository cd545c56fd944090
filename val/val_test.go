package val_test

import (
	"math"
	"strings"
	"testing"

	"quire/api"
	"quire/dec"
	"quire/val"
)

// The words: which values are right.

func TestRight(t *testing.T) {
	for _, v := range rightValues() {
		is(t, val.Right(v), true, "Right", v)
	}
	for _, v := range wrongValues() {
		is(t, val.Right(v), false, "Right", v)
	}
	is(t, val.Right(api.Value{}), true, "Right of the zero value")
}

func TestRightTexts(t *testing.T) {
	for n, want := range map[int]bool{0: true, 1: true, 254: true, 255: true, 256: false, 257: false, 1 << 20: false} {
		is(t, val.Right(text(long(n))), want, "Right", n)
		is(t, val.Right(text(strings.Repeat("ñ", n/2)+long(n%2))), want, "Right", n)
	}
	for b := range 256 {
		want := b >= 0x20 && b < 0x80 || b == 9 || b == 10 || b == 13
		is(t, val.Right(text(string([]byte{byte(b)}))), want, "Right", b)
	}
}

func TestRightErrors(t *testing.T) {
	for code := -20; code <= 20; code++ {
		is(t, val.Right(fail(code)), code >= api.EDiv && code <= api.ECycle, "Right", code)
	}
}

func TestRightNumbers(t *testing.T) {
	for _, c := range []int64{0, 1, -1, 10, -10, 100, 15, greatest, least, least + 8} {
		for e := -20; e <= 20; e++ {
			is(t, val.Right(num(c, e)), dec.Right(api.Dec{C: c, E: e}), "Right", c, e)
		}
	}
}

// TestWrongValues asks that each call takes what is not right as EValue.
func TestWrongValues(t *testing.T) {
	value := fail(api.EValue)
	for _, v := range wrongValues() {
		stop(t)
		is(t, val.Num(v), value, "Num", v)
		is(t, val.Text(v), value, "Text", v)
		is(t, val.Bool(v), value, "Bool", v)
		is(t, val.Neg(v), value, "Neg", v)
		is(t, val.Pct(v), value, "Pct", v)
		is(t, val.Show(v), "#VALUE!", "Show", v)
		is(t, val.Cmp(v, v), 0, "Cmp", v)
		for _, other := range rightValues() {
			is(t, val.Cmp(v, other), 0, "Cmp", v, other)
			is(t, val.Cmp(other, v), 0, "Cmp", other, v)
		}
		for _, op := range ops {
			is(t, val.Bin(op, v, num(1, 0)), value, "Bin", op, v)
			is(t, val.Bin(op, num(1, 0), v), value, "Bin", op, v)
			is(t, val.Bin(op, text("x"), v), value, "Bin", op, v)
			is(t, val.Bin(op, v, fail(api.ENA)), value, "Bin", op, v)
			is(t, val.Bin(op, fail(api.ENA), v), fail(api.ENA), "Bin", op, v)
		}
	}
}

// P1302

func TestOf(t *testing.T) {
	for _, d := range rightDecs {
		is(t, val.Of(d, api.OK), num(d.C, d.E), "Of", d)
	}
	for _, d := range wrongDecs {
		is(t, val.Of(d, api.OK), fail(api.ENum), "Of", d)
	}
	for _, d := range append(append([]api.Dec{}, rightDecs...), wrongDecs...) {
		is(t, val.Of(d, api.ErrDiv), fail(api.EDiv), "Of ErrDiv", d)
		for e := api.Errno(-100); e <= 100; e++ {
			if e != api.OK && e != api.ErrDiv {
				is(t, val.Of(d, e), fail(api.ENum), "Of", d, int(e))
			}
		}
		is(t, val.Of(d, math.MaxInt), fail(api.ENum), "Of", d)
		is(t, val.Of(d, math.MinInt), fail(api.ENum), "Of", d)
	}
}

func TestStr(t *testing.T) {
	for _, s := range fine {
		is(t, val.Str(s), text(s), "Str", s)
		is(t, val.Str(s+"x"+s), text(s+"x"+s), "Str", s)
	}
	for _, s := range never {
		is(t, val.Str(s), fail(api.EValue), "Str", s)
		is(t, val.Str("x"+s), fail(api.EValue), "Str", s)
		is(t, val.Str(s+"x"), fail(api.EValue), "Str", s)
	}
	is(t, val.Str(long(255)), text(long(255)), "Str of MaxText bytes")
	is(t, val.Str(long(256)), fail(api.EValue), "Str of one more")
	is(t, val.Str(long(253)+"ñ"), text(long(253)+"ñ"), "Str of MaxText bytes, fewer characters")
	is(t, val.Str(long(254)+"ñ"), fail(api.EValue), "Str of MaxText characters, more bytes")
	is(t, val.Str(long(1<<20)), fail(api.EValue), "Str of very many")
	for _, s := range []string{"12", "TRUE", "#N/A", "'x", "''", " x ", "aBc"} {
		is(t, val.Str(s), text(s), "Str", s) // nothing is read out of it
	}
}

func TestTruth(t *testing.T) {
	is(t, val.Truth(true), api.Value{Kind: api.VBool, B: true}, "Truth")
	is(t, val.Truth(false), api.Value{Kind: api.VBool}, "Truth")
}

func TestErrors(t *testing.T) {
	codes := []int{api.EDiv, api.EValue, api.ERef, api.EName, api.ENum, api.ENA, api.ECycle}
	for i, code := range codes {
		is(t, val.Err(code), api.Value{Kind: api.VErr, E: code}, "Err", code)
		is(t, val.ErrName(code), names[i], "ErrName", code)
		got, ok := val.ErrCode(names[i])
		is(t, got, code, "ErrCode", names[i])
		is(t, ok, true, "ErrCode", names[i])
	}
	for _, code := range []int{0, -1, 8, 9, 100, math.MaxInt, math.MinInt} {
		is(t, val.Err(code), fail(api.EValue), "Err", code)
		is(t, val.ErrName(code), "", "ErrName", code)
	}
}

func TestErrCodeOfNone(t *testing.T) {
	wrong := []string{"", "#", "#N/A!", "N/A", "#n/a", "#Ref!", "#REF", "#REF! ", " #REF!", "'#REF!", "#DIV/0", "#VALUE?", "#NAME!", "#NULL!", "#CYCLE", "#DIV/0!#DIV/0!", "TRUE", "1", "\x00", long(1000)}
	for _, name := range names {
		wrong = append(wrong, name[1:], name[:len(name)-1], strings.ToLower(name), name+"\x00", "#"+name)
	}
	for _, name := range wrong {
		code, ok := val.ErrCode(name)
		is(t, code, 0, "ErrCode", name)
		is(t, ok, false, "ErrCode", name)
	}
}
