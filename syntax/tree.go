package syntax

import (
	"slices"

	"ceiling/api"
	"ceiling/expr"
	"ceiling/shape"
)

// A tour tells how a tree is gone over: whether to go on behind what has been met, and what is in it.
type tour[T any] struct {
	fits  func(T) bool
	parts func(T) []T
}

// over goes over a tree up to the first part that does not fit. It returns how many parts fitted, and whether all did. It works by a list, since a tree can be deeper than calls can be nested.
func over[T any](root T, t tour[T]) (n int, all bool) {
	for todo := []T{root}; len(todo) > 0; n++ {
		last := len(todo) - 1
		x := todo[last]
		if !t.fits(x) {
			return n, false
		}
		todo = append(todo[:last], t.parts(x)...)
	}
	return n, true
}

// A node is a statement or a declaration; the other one is nil.
type node struct {
	s *api.Stmt
	d *api.Decl
}

// nodes are what is in a node.
type nodes []node

func (l *nodes) stmts(more []api.Stmt) {
	for i := range more {
		*l = append(*l, node{s: &more[i]})
	}
}

func (l *nodes) decls(more []api.Decl) {
	for i := range more {
		*l = append(*l, node{d: &more[i]})
	}
}

func (l *nodes) handlers(more []api.Handler) {
	for i := range more {
		l.stmts(more[i].Stmts)
	}
}

// parts returns the statements and declarations in the fields of a node, its arms and its handlers.
func parts(n node) []node {
	var l nodes
	if s := n.s; s != nil {
		l.decls(s.Decls)
		l.stmts(s.Stmts)
		for i := range s.Arms {
			l.stmts(s.Arms[i].First)
			l.stmts(s.Arms[i].Stmts)
		}
		l.stmts(s.Else)
		l.handlers(s.Handlers)
	}
	if d := n.d; d != nil {
		l.decls(d.Formals)
		l.decls(d.Decls)
		l.decls(d.Private)
		l.stmts(d.Stmts)
		l.handlers(d.Handlers)
	}
	return l
}

// A pair are the nodes at the same place of two trees.
type pair struct{ a, b node }

// pairs returns the pairs in a pair of nodes that are alike.
func pairs(p pair) []pair {
	l, m := parts(p.a), parts(p.b)
	out := make([]pair, len(l))
	for i := range l {
		out[i] = pair{l[i], m[i]}
	}
	return out
}

// alike reports whether two nodes of the same sort are equal but for the nodes in them, of which they have as many at the same places.
func alike(p pair) bool {
	if p.a.s != nil {
		return alikeStmts(p.a.s, p.b.s)
	}
	return alikeDecls(p.a.d, p.b.d)
}

func alikeStmts(a, b *api.Stmt) bool {
	return a.Kind == b.Kind && a.Label == b.Label && a.Var == b.Var &&
		a.Reverse == b.Reverse && a.Abort == b.Abort && a.Body == b.Body &&
		expr.Same(a.Name, b.Name) && expr.Same(a.E, b.E) && expr.Same(a.Cond, b.Cond) &&
		slices.EqualFunc(a.Names, b.Names, expr.Same) && shape.SameDisc(a.Disc, b.Disc) &&
		shape.SameAspects(a.Aspects, b.Aspects) && shape.SameParams(a.Params, b.Params) &&
		len(a.Decls) == len(b.Decls) && len(a.Stmts) == len(b.Stmts) && len(a.Else) == len(b.Else) &&
		slices.EqualFunc(a.Arms, b.Arms, alikeArms) && slices.EqualFunc(a.Handlers, b.Handlers, alikeHandlers)
}

func alikeDecls(a, b *api.Decl) bool {
	return a.Kind == b.Kind && a.Of == b.Of && slices.Equal(a.Names, b.Names) &&
		a.Aliased == b.Aliased && a.Constant == b.Constant && a.Box == b.Box &&
		expr.Same(a.E, b.E) && expr.Same(a.Name, b.Name) && expr.Same(a.Result, b.Result) && expr.Same(a.Cond, b.Cond) &&
		shape.SameIndic(a.Sub, b.Sub) && shape.SameParams(a.Disc, b.Disc) && shape.SameType(a.Type, b.Type) &&
		shape.SameParams(a.Params, b.Params) && shape.SameAspects(a.Aspects, b.Aspects) && expr.SameArgs(a.Actuals, b.Actuals) &&
		slices.EqualFunc(a.Uses, b.Uses, expr.Same) && shape.SameComps(a.Comps, b.Comps) &&
		len(a.Formals) == len(b.Formals) && len(a.Decls) == len(b.Decls) && len(a.Private) == len(b.Private) &&
		len(a.Stmts) == len(b.Stmts) && slices.EqualFunc(a.Handlers, b.Handlers, alikeHandlers)
}

func alikeArms(a, b api.Arm) bool {
	return a.Kind == b.Kind && expr.Same(a.Cond, b.Cond) && expr.SameChoices(a.Choices, b.Choices) &&
		len(a.First) == len(b.First) && len(a.Stmts) == len(b.Stmts)
}

func alikeHandlers(a, b api.Handler) bool {
	return slices.EqualFunc(a.Names, b.Names, expr.Same) && a.Others == b.Others && len(a.Stmts) == len(b.Stmts)
}
