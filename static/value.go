package static

import "ceiling/api"

// noValue ends an evaluation: what is being worked out has no value.
type noValue struct{}

// A frame is an expression that is being worked out.
type frame struct {
	e     *api.Expr
	left  []*api.Expr // the operands that are to be worked out
	n     int         // how many of them have been
	given [3]int64    // their values, in this order
}

// A worker works out the expressions of a table.
type worker struct {
	t    api.Table
	oper map[api.Operator]operator
}

// evaluate returns the value of a static expression.
func evaluate(t api.Table, e *api.Expr) (v int64, why api.Errno) {
	defer func() {
		if recover() != nil {
			v, why = 0, api.ErrValue
		}
	}()
	w := &worker{t, operators()}
	return w.work(e), api.OK
}

// work returns the value of a static expression. What waits for an operand is kept in a list, since a tree can be deeper than calls can be nested.
func (w *worker) work(e *api.Expr) int64 {
	todo := []frame{w.begin(e)}
	for {
		last := len(todo) - 1
		f := &todo[last]
		if len(f.left) > 0 {
			next := f.left[0]
			f.left = f.left[1:]
			todo = append(todo, w.begin(next))
			continue
		}
		v := w.result(f)
		if last == 0 {
			return v
		}
		todo = todo[:last]
		w.give(&todo[last-1], v)
	}
}

func (w *worker) begin(e *api.Expr) frame {
	l, _ := operands(w.t, e)
	return frame{e: e, left: l}
}

// give adds the value of an operand, and drops the operands that are not needed any more.
func (w *worker) give(f *frame, v int64) {
	f.given[f.n] = v
	f.n++
	if f.n > 1 {
		return
	}
	switch f.e.Kind {
	case api.ExIf:
		if v == 1 {
			f.left = f.left[:1]
		} else {
			f.left = f.left[1:]
		}
	case api.ExDyadic:
		if ends := w.oper[f.e.Oper].ends; ends != nil && ends(v) {
			f.left = nil
		}
	}
}

// result returns the value of an expression whose operands have been worked out, as far as they are needed.
func (w *worker) result(f *frame) int64 {
	all, _ := span(w.t, f.e.T)
	return inside(w.compute(f), all)
}

// inside returns a value, which must be one of these.
func inside(v int64, b api.Bounds) int64 {
	if !has(b, v) {
		panic(noValue{})
	}
	return v
}

func (w *worker) compute(f *frame) int64 {
	e := f.e
	switch e.Kind {
	case api.ExInt:
		return e.N
	case api.ExName, api.ExSelect:
		return entity(w.t, e.Ent).Value
	case api.ExAttr:
		return w.measure(e)
	case api.ExCall:
		return w.call(e, f.given[0])
	case api.ExQual:
		sub, _ := plainMark(w.t, &e.L[0])
		return inside(f.given[0], values(w.t, sub))
	case api.ExIf:
		return f.given[1]
	case api.ExMonadic:
		return w.oper[e.Oper].one(f.given[0])
	case api.ExDyadic:
		return w.oper[e.Oper].two(f.given[0], f.given[1])
	}
	return truth(w.member(f) == (e.Kind == api.ExIn))
}

// measure returns the value of an attribute without an argument.
func (w *worker) measure(e *api.Expr) int64 {
	b, _ := measured(w.t, e)
	switch e.S {
	case "First":
		return b.Lo
	case "Last":
		return b.Hi
	}
	// The difference may be too great for an int64, but not for a uint64.
	if uint64(b.Hi)-uint64(b.Lo) >= api.MaxValue {
		panic(noValue{})
	}
	return b.Hi - b.Lo + 1
}

// call returns the value of an attribute or conversion with an argument.
func (w *worker) call(e *api.Expr, v int64) int64 {
	sub, ok := shifted(w.t, &e.L[0])
	if !ok {
		return inside(v, values(w.t, entity(w.t, e.Ent).Sub))
	}
	all, _ := span(w.t, w.t.Subs[sub].T)
	switch e.L[0].S {
	case "Val":
		return inside(v, all)
	case "Succ":
		return inside(v+1, all)
	case "Pred":
		return inside(v-1, all)
	}
	return v
}

// member reports whether what is tested is in the subtype or range behind it.
func (w *worker) member(f *frame) bool {
	b := api.Bounds{Lo: f.given[1], Hi: f.given[2]}
	if len(f.e.L) == 2 {
		sub, _ := plainMark(w.t, &f.e.L[1])
		b = values(w.t, sub)
	}
	return has(b, f.given[0])
}
