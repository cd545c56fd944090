package expr

import "quire/api"

// Levels, from what binds least to what binds closest.
const (
	compares = 1 + iota
	joins
	adds
	multiplies
	powers
	negates
	percents
	atoms
)

// operator is one of two sides: how it is written, and how close it binds.
type operator struct {
	sign  string
	level int
}

// operators are those of two sides, by their numbers.
var operators = [api.OGe + 1]operator{
	api.OAdd: {"+", adds},
	api.OSub: {"-", adds},
	api.OMul: {"*", multiplies},
	api.ODiv: {"/", multiplies},
	api.OPow: {"^", powers},
	api.OCat: {"&", joins},
	api.OEq:  {"=", compares},
	api.ONe:  {"<>", compares},
	api.OLt:  {"<", compares},
	api.OLe:  {"<=", compares},
	api.OGt:  {">", compares},
	api.OGe:  {">=", compares},
}

// Names that stand for values, and what is written for a reference to what is not there any more.
const (
	yes  = "TRUE"
	no   = "FALSE"
	lost = "#REF!"
)
