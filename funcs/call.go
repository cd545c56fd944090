package funcs

import (
	"iter"
	"slices"

	"quire/api"
	"quire/dec"
	"quire/val"
)

// call is a function's right arguments, and the first error among what was taken of them. Behind an error whatever is taken may be nothing, since the error is the answer.
type call struct {
	args  []Arg
	fault api.Value
}

// failed tells whether there was an error.
func (c *call) failed() bool { return c.fault.Kind == api.VErr }

// fails tells whether v is an error, and keeps it, if it is the first one.
func (c *call) fails(v api.Value) bool {
	if v.Kind != api.VErr {
		return false
	}
	if !c.failed() {
		c.fault = v
	}
	return true
}

// has tells whether there is an argument with that number, from 0 on.
func (c *call) has(i int) bool { return i < len(c.args) }

// plain answers the scalar of an argument as it is, an error too.
func (c *call) plain(i int) api.Value {
	a := c.args[i]
	if len(a.V) != 1 {
		return val.Err(api.EValue)
	}
	return a.V[0]
}

// scalar answers the scalar of an argument, of which an error is the answer.
func (c *call) scalar(i int) api.Value {
	v := c.plain(i)
	c.fails(v)
	return v
}

// num answers the number of an argument.
func (c *call) num(i int) api.Dec {
	v := val.Num(c.plain(i))
	c.fails(v)
	return v.N
}

// text answers the text of an argument.
func (c *call) text(i int) string {
	v := val.Text(c.plain(i))
	c.fails(v)
	return v.S
}

// truth answers the bool of an argument.
func (c *call) truth(i int) bool {
	v := val.Bool(c.plain(i))
	c.fails(v)
	return v.B
}

// whole answers the whole number of an argument.
func (c *call) whole(i int) int {
	below, fault := dec.Floor(c.num(i))
	n, fits := dec.Int(below)
	if fault != api.OK || !fits {
		c.fails(val.Err(api.ENum))
	}
	return n
}

// wholeOr answers the whole number of an argument, or another, if there is no such argument.
func (c *call) wholeOr(i, other int) int {
	if !c.has(i) {
		return other
	}
	return c.whole(i)
}

// values are all values, argument by argument, in an area row by row; each with whether it stands in an area.
func (c *call) values() iter.Seq2[api.Value, bool] {
	return func(yield func(api.Value, bool) bool) {
		for i := range c.args {
			for _, v := range c.args[i].V {
				if !yield(v, c.args[i].Area) {
					return
				}
			}
		}
	}
}

// counted are what turn makes of the values that count: of all single ones, and in areas of those of the kinds alone, up to the first error, which counts wherever it stands.
func (c *call) counted(turn func(api.Value) api.Value, kinds ...int) iter.Seq[api.Value] {
	return func(yield func(api.Value) bool) {
		for v, area := range c.values() {
			if area && v.Kind != api.VErr && !slices.Contains(kinds, v.Kind) {
				continue
			}
			if v = turn(v); c.fails(v) || !yield(v) {
				return
			}
		}
	}
}

// numbers answers the numbers of all arguments.
func (c *call) numbers() (l []api.Dec) {
	for v := range c.counted(val.Num, api.VNum) {
		l = append(l, v.N)
	}
	return l
}

// howMany answers the value of a whole number.
func howMany(n int) api.Value { return val.Of(dec.Make(int64(n), 0)) }
