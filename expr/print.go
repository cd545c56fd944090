package expr

import (
	"strings"

	"quire/api"
	"quire/cells"
	"quire/dec"
	"quire/lex"
	"quire/utf"
)

// Right answers why x is no formula that can be written, or api.OK.
func Right(x api.Expr) api.Errno {
	_, fault := Print(x)
	return fault
}

// Print answers how x is written. It asks for what nodes have first, since only what is built so can be written.
func Print(x api.Expr) (string, api.Errno) {
	if !every(x, asKindSays) {
		return "", api.ErrArg
	}
	if fault := tooMuch(x); fault != api.OK {
		return "", fault
	}
	s := written(x)
	if len(s) > api.MaxFormula {
		return "", api.ErrBig
	}
	return s, api.OK
}

// asKindSays tells whether n has just what its Kind says.
func asKindSays(n *api.Expr) bool {
	right, just := true, own{kind: n.Kind}
	switch n.Kind {
	case api.XNum:
		just.v = api.Value{Kind: api.VNum, N: n.V.N}
		right = dec.Right(n.V.N) && dec.Sign(n.V.N) >= 0
	case api.XText:
		just.v = api.Value{Kind: api.VText, S: n.V.S}
		right = len(n.V.S) <= api.MaxText && utf.Xml(n.V.S) == api.OK
	case api.XBool:
		just.v = api.Value{Kind: api.VBool, B: n.V.B}
	case api.XRef:
		just.ref = n.Ref
		right = cells.Right(n.Ref)
	case api.XRange:
		just.ref, just.to = n.Ref, n.To
		right = cells.Right(n.Ref) && cells.Right(n.To) && n.Ref.Sheet == n.To.Sheet
	case api.XName:
		just.name = n.Name
		right = lex.Word(n.Name)
	case api.XCall:
		just.name, just.kids = n.Name, len(n.Kids)
		right = Call(n.Name) && fewKids(n)
	case api.XNeg, api.XPct:
		just.kids = 1
	case api.XBin:
		just.op, just.kids = n.Op, 2
		right = n.Op >= api.OAdd && n.Op <= api.OGe
	case api.XBad:
	default:
		right = false
	}
	return right && ownOf(n) == just
}

// written answers the text of x, whose nodes are as their kinds say.
func written(x api.Expr) string {
	switch x.Kind {
	case api.XNum:
		return dec.Print(x.V.N)
	case api.XText:
		return lex.Quote(x.V.S)
	case api.XBool:
		return truth(x.V.B)
	case api.XRef:
		return cells.Print(x.Ref)
	case api.XRange:
		return cells.PrintRange(x.Ref, x.To)
	case api.XName:
		return x.Name
	case api.XCall:
		return x.Name + "(" + arguments(x.Kids) + ")"
	case api.XNeg:
		return "-" + part(x.Kids[0], negates)
	case api.XPct:
		return part(x.Kids[0], percents) + "%"
	case api.XBin:
		o := operators[x.Op]
		return part(x.Kids[0], o.level) + o.sign + part(x.Kids[1], o.level+1)
	}
	return lost
}

func truth(is bool) string {
	if is {
		return yes
	}
	return no
}

func arguments(kids []api.Expr) string {
	var all []string
	for _, kid := range kids {
		all = append(all, written(kid))
	}
	return strings.Join(all, ",")
}

// part answers the text of x at a place that asks for a level.
func part(x api.Expr, asked int) string {
	if level(x) < asked {
		return "(" + written(x) + ")"
	}
	return written(x)
}

// level answers how close x binds.
func level(x api.Expr) int {
	switch x.Kind {
	case api.XBin:
		return operators[x.Op].level
	case api.XNeg:
		return negates
	case api.XPct:
		return percents
	}
	return atoms
}
