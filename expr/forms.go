package expr

import "ceiling/api"

// expression: relation { operator relation }
func expression(r *reader) { r.plan(relation, moreRelations) }

// moreRelations reads the rest of an expression that begins with a relation. The first operator decides which one the others are.
func moreRelations(r *reader) {
	if o, _ := r.operator(); dyadicLevel(o) == 0 {
		r.plan(chain(o))
	}
}

// chain reads { operator relation } for one operator.
func chain(o api.Operator) step {
	var more step
	more = func(r *reader) {
		if next, _ := r.operator(); next == o {
			r.operand(relation, more)
		}
	}
	return more
}

// operand reads the operator that is next, and plans its second operand and what comes behind both.
func (r *reader) operand(form, behind step) {
	o, n := r.operator()
	r.At += n
	left := r.expr
	r.plan(form, func(r *reader) {
		r.expr = of(api.ExDyadic, left, r.expr)
		r.expr.Oper = o
	}, behind)
}

// relation: simple [ one of = /= < <= > >=, simple ], or simple [ in or not in, simple [ .. simple ] ]
func relation(r *reader) { r.plan(simple, moreSimple) }

// moreSimple reads the rest of a relation that begins with a simple.
func moreSimple(r *reader) {
	o, _ := r.operator()
	switch {
	case dyadicLevel(o) == 1:
		r.operand(simple, nothing)
	case r.Takes("in"):
		r.plan(simple, member(api.ExIn, r.expr))
	case r.Sees(0, "not") && r.Sees(1, "in"):
		r.At += 2
		r.plan(simple, member(api.ExNotIn, r.expr))
	}
}

func nothing(*reader) {}

// member reads the rest of a test of membership whose second simple has been read.
func member(kind api.ExprKind, left api.Expr) step {
	return func(r *reader) {
		first := r.expr
		if r.Takes("..") {
			r.plan(simple, func(r *reader) { r.expr = of(kind, left, first, r.expr) })
			return
		}
		if !Named(first) {
			r.Miss()
		}
		r.expr = of(kind, left, first)
	}
}

// simple: [ + or - ] term { + or - , term }
func simple(r *reader) { r.plan(prefixed(2, term), moreTerms) }

func moreTerms(r *reader) {
	if o, _ := r.operator(); dyadicLevel(o) == 2 {
		r.operand(term, moreTerms)
	}
}

// term: factor { one of * / mod rem, factor }
func term(r *reader) { r.plan(factor, moreFactors) }

func moreFactors(r *reader) {
	if o, _ := r.operator(); dyadicLevel(o) == 3 {
		r.operand(factor, moreFactors)
	}
}

// factor: [ abs or not ] primary
func factor(r *reader) { r.plan(prefixed(4, primary)) }

// prefixed reads a form, perhaps behind an operator with one operand, of a level.
func prefixed(level int, form step) step {
	return func(r *reader) {
		o, line := r.found(r.monadic), r.Ahead(0).Line
		if monadicLevel(o) != level {
			r.plan(form)
			return
		}
		r.At++
		r.plan(form, func(r *reader) {
			r.expr = api.Expr{Kind: api.ExMonadic, Oper: o, L: []api.Expr{r.expr}, Line: line}
		})
	}
}

// primary: an integer; null; a name; or a parenthesis
func primary(r *reader) {
	t := r.Ahead(0)
	switch {
	case t.Kind == api.TokInt:
		r.At++
		r.expr = api.Expr{Kind: api.ExInt, N: t.N, Line: t.Line}
	case r.Takes("null"):
		r.expr = api.Expr{Kind: api.ExNull, Line: t.Line}
	case r.Named():
		r.plan(name)
	default:
		r.plan(parenthesis)
	}
}

// name: a TokName { a suffix }
func name(r *reader) {
	line := r.Ahead(0).Line
	r.expr = api.Expr{Kind: api.ExName, S: r.Name(), Line: line}
	r.plan(suffixes)
}

// suffixes reads the suffixes of the name that has been read.
func suffixes(r *reader) {
	before := r.expr
	switch {
	case r.Takes("."):
		r.selected()
		r.plan(suffixes)
	case r.Takes("("):
		r.plan(list(argument, nil), func(r *reader) {
			r.Must(")")
			r.expr = of(api.ExCall, before)
			r.expr.A = r.assocs
		}, suffixes)
	case r.Takes("'"):
		if r.Named() {
			r.expr = of(api.ExAttr, before)
			r.expr.S = r.Name()
			r.plan(suffixes)
			return
		}
		r.plan(parenthesis, func(r *reader) { r.expr = of(api.ExQual, before, r.expr) }, suffixes)
	}
}

// selected reads what stands behind the `.` of a suffix.
func (r *reader) selected() {
	if r.Takes("all") {
		r.expr = of(api.ExDeref, r.expr)
		return
	}
	s := r.Name()
	r.expr = of(api.ExSelect, r.expr)
	r.expr.S = s
}

// parenthesis: ( and the rest of an ExIf; or (, associations and )
func parenthesis(r *reader) {
	line := r.Ahead(0).Line
	r.Must("(")
	if r.Takes("if") {
		r.plan(conditional(line))
		return
	}
	r.plan(list(association, nil), func(r *reader) {
		r.Must(")")
		if single(r.assocs) {
			r.expr = r.assocs[0].E
		} else {
			r.expr = api.Expr{Kind: api.ExAggr, A: r.assocs, Line: line}
		}
	})
}

// conditional reads expression then expression else expression ), the rest of an ExIf that began in a line.
func conditional(line int) step {
	return func(r *reader) {
		var l []api.Expr
		keep := func(end string) step {
			return func(r *reader) {
				l = append(l, r.expr)
				r.Must(end)
			}
		}
		r.plan(expression, keep("then"), expression, keep("else"), expression, keep(")"), func(r *reader) {
			r.expr = api.Expr{Kind: api.ExIf, L: l, Line: line}
		})
	}
}

// list reads an item { , an item } behind those that have been read.
func list(item step, l []api.Assoc) step {
	return func(r *reader) {
		r.plan(item, func(r *reader) {
			r.assocs = append(l, r.assoc)
			if r.Takes(",") {
				r.plan(list(item, r.assocs))
			}
		})
	}
}

// argument: a TokName, =>, an expression; or an expression
func argument(r *reader) {
	t := r.Ahead(0)
	r.choices = nil
	if r.Named() && r.Sees(1, "=>") {
		r.At += 2
		x := api.Expr{Kind: api.ExName, S: t.Text, Line: t.Line}
		r.choices = []api.Choice{{Kind: api.ChExpr, L: []api.Expr{x}}}
	}
	r.plan(value)
}

// value reads the expression of an association whose choices have been read.
func value(r *reader) {
	l := r.choices
	r.plan(expression, func(r *reader) { r.assoc = api.Assoc{Choices: l, E: r.expr} })
}

// association: others, =>, an expression; or what begins with a choice that begins with an expression
func association(r *reader) {
	if r.Sees(0, "others") {
		r.plan(choice, alone, arrow, value)
	} else {
		r.plan(choice, associated)
	}
}

// alone takes the choice that has been read for all of the choices.
func alone(r *reader) { r.choices = []api.Choice{r.choice} }

func arrow(r *reader) { r.Must("=>") }

// associated reads the rest of an association that begins with a choice: { | a choice }, =>, an expression; or nothing.
func associated(r *reader) {
	c := r.choice
	switch {
	case r.Takes("|"):
		r.plan(choices([]api.Choice{c}), arrow, value)
	case c.Kind == api.ChRange || r.Sees(0, "=>"):
		r.plan(alone, arrow, value)
	default:
		r.assoc = api.Assoc{E: c.L[0]}
	}
}

// choices reads a choice { | a choice } behind those that have been read.
func choices(l []api.Choice) step {
	return func(r *reader) {
		r.plan(choice, func(r *reader) {
			r.choices = append(l, r.choice)
			if r.Takes("|") {
				r.plan(choices(r.choices))
			}
		})
	}
}

// choice: others; or a simple and the rest of a range or of an expression
func choice(r *reader) {
	if r.Takes("others") {
		r.choice = api.Choice{Kind: api.ChOthers}
	} else {
		r.plan(simple, chosen)
	}
}

// chosen reads the rest of a choice that begins with a simple.
func chosen(r *reader) {
	if !r.Takes("..") {
		r.plan(moreSimple, moreRelations, func(r *reader) {
			r.choice = api.Choice{Kind: api.ChExpr, L: []api.Expr{r.expr}}
		})
		return
	}
	lo := r.expr
	r.plan(simple, func(r *reader) {
		r.choice = api.Choice{Kind: api.ChRange, L: []api.Expr{lo, r.expr}}
	})
}
