package expr

import (
	"quire/api"
	"quire/lex"
)

// reader goes along the tokens of a formula. Behind the last of them stands one more, of no kind, which can't stand anywhere: it tells where the text ends.
type reader struct {
	tokens []lex.Token
	at     int
}

// Each of the reader's functions below that answers a formula reads the one that comes next; false, if none does: then the reader stands at the token that can't stand there, and the formula does not count.

// Parse answers the formula that s is the text of; or what is wrong with it, and where.
func Parse(s string) (api.Expr, int, api.Errno) {
	tokens, place, fault := lex.Lex(s)
	if fault != api.OK {
		return api.Expr{}, place, fault
	}
	r := reader{tokens: append(tokens, lex.Token{At: len(s)})}
	x, ok := r.formula(compares)
	if !ok || r.at < len(tokens) {
		return api.Expr{}, r.next().At, api.ErrSyntax
	}
	if fault := tooMuch(x); fault != api.OK {
		return api.Expr{}, 0, fault
	}
	return x, 0, api.OK
}

// tooMuch answers which limit x passes. It is asked behind all else, since what is no formula is told first.
func tooMuch(x api.Expr) api.Errno {
	switch {
	case Depth(x) > api.MaxDepth:
		return api.ErrDeep
	case Nodes(x) > api.MaxNodes || !every(x, fewKids):
		return api.ErrBig
	}
	return api.OK
}

func fewKids(n *api.Expr) bool { return len(n.Kids) <= api.MaxArgs }

func (r *reader) next() lex.Token { return r.tokens[r.at] }

// take goes past the Mark with that sign, if it comes next.
func (r *reader) take(sign string) bool {
	if !isMark(r.next(), sign) {
		return false
	}
	r.at++
	return true
}

// isMark tells a Mark with that sign; a Text may have the same one.
func isMark(t lex.Token, sign string) bool { return t.Kind == lex.Mark && t.S == sign }

// past goes past the token that comes next, which is all that x is made of.
func (r *reader) past(x api.Expr) (api.Expr, bool) {
	r.at++
	return x, true
}

// formula reads the operators of a level, from the left, and their sides, which bind closer.
func (r *reader) formula(level int) (api.Expr, bool) {
	if level > powers {
		return r.negated()
	}
	x, ok := r.formula(level + 1)
reading:
	for ok {
		for op, o := range operators {
			if o.level != level || !r.take(o.sign) {
				continue
			}
			right, is := r.formula(level + 1)
			x, ok = api.Expr{Kind: api.XBin, Op: op, Kids: []api.Expr{x, right}}, is
			continue reading
		}
		break reading
	}
	return x, ok
}

// negated reads any number of `-`, and what stands behind them.
func (r *reader) negated() (api.Expr, bool) {
	count := 0
	for r.take("-") {
		count++
	}
	x, ok := r.percent()
	for range count {
		x = around(api.XNeg, x)
	}
	return x, ok
}

// percent reads an atom, and any number of `%` behind it.
func (r *reader) percent() (api.Expr, bool) {
	x, ok := r.atom()
	for ok && r.take("%") {
		x = around(api.XPct, x)
	}
	return x, ok
}

func around(kind int, x api.Expr) api.Expr {
	return api.Expr{Kind: kind, Kids: []api.Expr{x}}
}

// atom reads what no operator takes apart.
func (r *reader) atom() (api.Expr, bool) {
	t := r.next()
	switch t.Kind {
	case lex.Num:
		return r.past(api.Expr{Kind: api.XNum, V: api.Value{Kind: api.VNum, N: t.N}})
	case lex.Text:
		return r.past(api.Expr{Kind: api.XText, V: api.Value{Kind: api.VText, S: t.S}})
	case lex.Bad:
		return r.past(api.Expr{Kind: api.XBad})
	case lex.Ref:
		return r.reference()
	case lex.Name:
		return r.named()
	}
	if !r.take("(") {
		return api.Expr{}, false
	}
	x, ok := r.formula(compares)
	return x, ok && r.take(")")
}

// reference reads a Ref, or two of them with a `:` between.
func (r *reader) reference() (api.Expr, bool) {
	from := r.next().R
	r.at++
	if !r.take(":") {
		return api.Expr{Kind: api.XRef, Ref: from}, true
	}
	t := r.next()
	if t.Kind != lex.Ref || t.R.Sheet != "" {
		return api.Expr{}, false
	}
	to := t.R
	to.Sheet = from.Sheet
	return r.past(api.Expr{Kind: api.XRange, Ref: from, To: to})
}

// named reads what a Name begins: a call, a bool or a name. What stands for a bool is a call's name all the same, if a `(` says so.
func (r *reader) named() (api.Expr, bool) {
	name := r.next().S
	called := isMark(r.tokens[r.at+1], "(")
	switch {
	case called && Call(name):
		r.at += 2
		return r.call(name)
	case called:
		return api.Expr{}, false
	case name == yes || name == no:
		return r.past(api.Expr{Kind: api.XBool, V: api.Value{Kind: api.VBool, B: name == yes}})
	case lex.Word(name):
		return r.past(api.Expr{Kind: api.XName, Name: name})
	}
	return api.Expr{}, false
}

// call reads what stands behind a call's `(`.
func (r *reader) call(name string) (api.Expr, bool) {
	x := api.Expr{Kind: api.XCall, Name: name}
	if r.take(")") {
		return x, true
	}
	for {
		kid, ok := r.formula(compares)
		x.Kids = append(x.Kids, kid)
		switch {
		case ok && r.take(")"):
			return x, true
		case !ok || !r.take(","):
			return api.Expr{}, false
		}
	}
}
