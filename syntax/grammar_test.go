package syntax_test

import (
	"slices"
	"strings"

	"ceiling/api"
	"ceiling/expr"
	"ceiling/lex"
	"ceiling/shape"
)

// grammar is a reference of reading: the forms as the chapter writes them, without what is made of them. A rule is one or more alternatives, between which the next token decides; the last one is taken if it decides for none. In an alternative, [ ] and { } hold what is read if, and as often as, its first token is next. Words with a capital letter are forms that are not written here (see special); words with a small letter and an underscore are rules.
var grammar = map[string]string{
	"the_unit":  "{ clause_ } unit_ Fits",
	"clause_":   "with names_ ; | use marks_ ;",
	"unit_":     "separate ( Mark ) Sub sub_ | library_",
	"library_":  "package package_ | procedure procedure_ | generic generic_ | Miss",
	"sub_":      "package package_ | procedure procedure_ | task task_ | protected protected_ | Miss",
	"names_":    "Name { , Name }",
	"marks_":    "Mark { , Mark }",
	"handlers_": "[ exception handler_ { handler_ } ]",
	"handler_":  "when handled_ => S",
	"handled_":  "others | Mark { bar Mark }",

	"stmt_":        "null ; | if if_ | case Expr is arm_ { arm_ } end case ; | exit [ Name ] [ when Expr ] ; | return ; | raise [ Mark ] ; | delay delay_ | abort marks_ ; | requeue Mark [ with abort ] ; | accept accept_ | select select_ | NoLabel labelled_ Label ;",
	"labelled_":    "loop S end loop | while Expr aspects_ loop S end loop | for Name in [ reverse ] Disc loop S end loop | declare D begin block_ | begin block_ | Miss",
	"block_":       "S handlers_ end",
	"if_":          "Expr then S { elsif Expr then S } else_ end if ;",
	"else_":        "[ else S ]",
	"arm_":         "when Choices => S",
	"delay_":       "[ until ] Expr ;",
	"accept_":      "Push params_ accepted_",
	"accepted_":    "; Pop | do S handlers_ close_",
	"params_":      "[ ( Params ) ]",
	"aspects_":     "[ with Aspects ]",
	"close_":       "end Same ;",
	"select_":      "Alternatives alternative_ { or alternative_ } else_ end select ; | call_",
	"call_":        "Form Callable ; P timed_ end select ;",
	"timed_":       "or delay delay_ P | else S",
	"alternative_": "[ when Expr => ] first_",
	"first_":       "accept accept_ P | delay delay_ P | terminate ; | Miss",

	"type_":           "Name params_ is Type ;",
	"subtype_":        "Name is Indic ;",
	"body_":           "D begin S handlers_ close_ Body",
	"instance_":       "Mark [ ( Args ) ] ;",
	"package_":        "body Push is package_body_ | Push packaged_",
	"packaged_":       "renames Mark ; Pop Other | is package_is_",
	"package_is_":     "new instance_ Pop Library | private_ Library",
	"private_":        "D [ private D ] close_",
	"package_body_":   "separate ; Pop Other | D [ begin S handlers_ ] close_ Body",
	"procedure_":      "Push params_ procedured_",
	"procedured_":     "; Pop Other | renames Mark ; Pop Other | is procedure_is_",
	"procedure_is_":   "separate ; Pop Other | New instance_ Pop Library | body_",
	"function_":       "Name params_ return Mark functioned_",
	"functioned_":     "; | renames Mark ; | returned_",
	"returned_":       "is ( Expr ) ;",
	"task_":           "body Push is task_body_ | Push aspects_ tasked_",
	"task_body_":      "separate ; Pop Other | body_",
	"tasked_":         "; Pop Other | is { entry profile_ } close_ Other",
	"profile_":        "Name params_ ;",
	"protected_":      "body Push is protected_body_ | Push aspects_ is { operation_ } [ private Comps ] close_ Other",
	"operation_":      "entry profile_ | procedure profile_ | function Name params_ return Mark ;",
	"protected_body_": "separate ; Pop Other | { inner_ } close_ Body",
	"inner_":          "entry Push params_ when Expr is body_ | procedure Push params_ is body_ | function Name params_ return Mark returned_",
	"generic_":        "{ formal_ } generic_unit_ Library",
	"generic_unit_":   "package Push is private_ | procedure profile_ | Miss",
	"formal_":         "names_ : [ in ] Mark [ := Expr ] ; | type Name is formal_type_ ; | with formal_unit_ [ is <> ] ;",
	"formal_type_":    "private | ( <> ) | range <>",
	"formal_unit_":    "procedure Name params_ | function Name params_ return Mark",
	"exception_":      "; | renames Mark ;",
	"object_":         "[ := Expr ] aspects_ ;",
}

// decls are how declarations go on behind their first words.
var decls = map[string]string{
	"type": "type_", "subtype": "subtype_", "use": "marks_ ;", "procedure": "procedure_", "function": "function_", "package": "package_", "task": "task_", "protected": "protected_", "generic": "generic_",
}

// beginners are the words with which statements begin that do not begin with a name.
var beginners = strings.Fields("null if case loop while for exit return declare begin raise delay abort requeue accept select")

// A parser tells whether tokens are a unit, by the grammar.
type parser struct {
	l     []api.Token
	i     int
	names []string // of what is open, the last one last; - for a statement without a label
	none  bool     // the last parameters were none
	form  api.Expr // the last name form
	sub   bool     // the unit has a parent
	kind  string   // what the last declaration was: a Body, another one of a Library, or Other
}

type stop struct {
	at int
	e  api.Errno
}

// parsed returns the error of tokens and its index, as far as it does not depend on what is read as a whole.
func parsed(l []api.Token) (at int, e api.Errno) {
	p := &parser{l: l}
	defer func() {
		switch s := recover().(type) {
		case nil:
		case stop:
			at, e = s.at, s.e
		default:
			panic(s)
		}
	}()
	p.rule("the_unit")
	if p.i < len(l) {
		p.miss()
	}
	return 0, api.OK
}

func (p *parser) miss() { panic(stop{p.i, api.ErrSyntax}) }

// see reports what the next token is: its text if it is a symbol or a reserved word, "Name" if it is a name.
func (p *parser) see(ahead int) string {
	if p.i+ahead >= len(p.l) {
		return ""
	}
	t := p.l[p.i+ahead]
	switch {
	case t.Kind == api.TokName:
		return "Name"
	case t.Kind == api.TokSym && t.Text == "|":
		return "bar"
	case t.Kind == api.TokSym && lex.Symbol(t.Text), t.Kind == api.TokKey && lex.Key(t.Text):
		return t.Text
	}
	return ""
}

func (p *parser) rule(name string) {
	form, ok := grammar[name]
	if !ok {
		panic(name)
	}
	alternatives := strings.Split(form, " | ")
	for _, a := range alternatives {
		if l := strings.Fields(a); p.begins(l[0]) {
			p.sequence(l)
			return
		}
	}
	p.sequence(strings.Fields(alternatives[len(alternatives)-1]))
}

// begins reports whether a word can begin with the next token.
func (p *parser) begins(word string) bool {
	switch word {
	case "Alternatives":
		return slices.Contains([]string{"when", "accept", "delay", "terminate"}, p.see(0))
	case "New":
		return p.none && p.see(0) == "new"
	case "Name", "Mark":
		return p.see(0) == "Name"
	}
	if form, ok := grammar[word]; ok {
		return slices.ContainsFunc(strings.Split(form, " | "), func(a string) bool { return p.begins(strings.Fields(a)[0]) })
	}
	return p.see(0) == word
}

func (p *parser) sequence(l []string) {
	for i := 0; i < len(l); i++ {
		end := map[string]string{"[": "]", "{": "}"}[l[i]]
		if end == "" {
			p.word(l[i])
			continue
		}
		n := i + slices.Index(l[i:], end)
		for p.begins(l[i+1]) {
			p.sequence(l[i+1 : n])
			if end == "]" {
				break
			}
		}
		i = n
	}
}

func (p *parser) word(s string) {
	switch {
	case s[0] >= 'A' && s[0] <= 'Z':
		p.special(s)
	case strings.HasSuffix(s, "_"):
		p.rule(s)
	case p.see(0) == s:
		p.i++
	default:
		p.miss()
	}
}

// below goes on behind what a lower layer has read.
func below[T any](p *parser, f func([]api.Token) (T, int, api.Errno)) T {
	x, n, e := f(p.l[p.i:])
	switch e {
	case api.ErrExpr, api.ErrShape:
		panic(stop{p.i + n, api.ErrSyntax})
	case api.ErrLong:
		panic(stop{0, api.ErrLong})
	}
	p.i += n
	return x
}

func level(n int) func([]api.Token) (api.Expr, int, api.Errno) {
	return func(l []api.Token) (api.Expr, int, api.Errno) { return expr.Front(l, n) }
}

func (p *parser) name() string {
	if p.see(0) != "Name" {
		p.miss()
	}
	p.i++
	return p.l[p.i-1].Text
}

func (p *parser) special(s string) {
	switch s {
	case "Miss":
		p.miss()
	case "Name":
		p.name()
	case "Mark":
		for p.name(); p.see(0) == "."; p.name() {
			p.i++
		}
	case "Expr":
		below(p, level(0))
	case "Form":
		p.form = below(p, level(6))
	case "Callable":
		if !callable(p.form) {
			p.miss()
		}
	case "Choices":
		below(p, expr.FrontChoices)
	case "Args":
		below(p, expr.FrontArgs)
	case "Disc":
		below(p, shape.FrontDisc)
	case "Params":
		below(p, shape.FrontParams)
		p.none = false
	case "Aspects":
		below(p, shape.FrontAspects)
	case "Comps":
		below(p, shape.FrontComps)
	case "Type":
		below(p, shape.FrontType)
	case "Indic":
		below(p, shape.FrontIndic)
	case "New":
		p.i++
	case "Push", "NoLabel", "Pop", "Same", "Label":
		p.remember(s)
	case "S", "P":
		p.statements(s == "S")
	case "D":
		for p.see(0) == "Name" || decls[p.see(0)] != "" {
			p.declaration()
		}
	case "Sub":
		p.sub = true
	case "Body", "Library", "Other":
		p.kind = s
	case "Fits":
		if p.kind == "Other" || p.kind == "Library" && p.sub {
			p.miss()
		}
	case "Alternatives":
	default:
		panic(s)
	}
}

func callable(e api.Expr) bool {
	return slices.Contains([]api.ExprKind{api.ExName, api.ExSelect, api.ExCall}, e.Kind)
}

// remember does what is to be done with the names of what is open.
func (p *parser) remember(s string) {
	last := len(p.names) - 1
	switch s {
	case "Push":
		p.names = append(p.names, p.name())
		p.none = true
	case "NoLabel":
		p.names = append(p.names, "-")
	case "Pop":
		p.names = p.names[:last]
	default:
		if s == "Same" || p.names[last] != "-" {
			if p.see(0) != "Name" || p.l[p.i].Text != p.names[last] {
				p.miss()
			}
			p.i++
		}
		p.names = p.names[:last]
	}
}

func (p *parser) statements(one bool) {
	for one || p.see(0) == "Name" || slices.Contains(beginners, p.see(0)) {
		one = false
		switch {
		case p.see(0) != "Name":
			p.rule("stmt_")
		case p.see(1) == ":":
			p.names = append(p.names, p.name())
			p.i++
			p.sequence([]string{"labelled_", "Label", ";"})
		default:
			if p.special("Form"); p.see(0) == ";" && callable(p.form) {
				p.i++
			} else {
				p.sequence([]string{":=", "Expr", ";"})
			}
		}
	}
}

func (p *parser) declaration() {
	if rule := decls[p.see(0)]; rule != "" {
		p.i++
		p.sequence(strings.Fields(rule))
		return
	}
	from := p.i
	p.rule("names_")
	one := p.i == from+1
	p.word(":")
	if p.see(0) == "exception" {
		p.i++
		if one {
			p.rule("exception_")
		} else {
			p.word(";")
		}
		return
	}
	aliased, constant := p.take("aliased"), p.take("constant")
	if constant && !aliased && p.see(0) == ":=" {
		p.sequence([]string{":=", "Expr", ";"})
		return
	}
	x := below(p, shape.FrontIndic)
	if one && !aliased && !constant && same(x, api.Indic{Name: x.Name}) && p.take("renames") {
		p.sequence([]string{"Form", ";"})
		return
	}
	p.rule("object_")
}

func (p *parser) take(s string) bool {
	if p.see(0) == s {
		p.i++
		return true
	}
	return false
}
