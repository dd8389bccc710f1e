package print_test

import (
	"fmt"
	"math/rand"
	"reflect"
	"slices"
	"strings"

	"louver/api"
	"louver/bits"
	"louver/syntax"
)

// tree is an expression, made by chance.
type tree struct {
	last api.Term
	of   []*tree
}

func (x *tree) terms() []api.Term {
	var all []api.Term
	for _, y := range x.of {
		all = append(all, y.terms()...)
	}
	return append(all, x.last)
}

func randomTree(r *rand.Rand, deep int) *tree {
	name := []string{"a", "b", "t", "_", "if_", "x1", strings.Repeat("n", 32)}[r.Intn(7)]
	sort := r.Intn(6)
	if deep == 0 {
		sort = r.Intn(2)
	}
	inner := func() *tree { return randomTree(r, deep-1) }
	switch sort {
	case 0:
		return &tree{num([]int64{0, 7, 1<<63 - 1}[r.Intn(3)]), nil}
	case 1:
		return &tree{named(name), nil}
	case 2:
		return &tree{index(name), []*tree{inner()}}
	case 3:
		return &tree{unary(int64(15 + r.Intn(3))), []*tree{inner()}}
	}
	return &tree{binary(int64(1 + r.Intn(14))), []*tree{inner(), inner()}}
}

func signOf(op int64) string {
	return strings.Fields("+ - * / % & | ^ << >> == != < <= - ! ~")[op-1]
}

// full is a tree's text with brackets around all operands.
func (x *tree) full() string {
	switch x.last.Kind {
	case api.TNumber:
		return fmt.Sprint(x.last.Value)
	case api.TName:
		return x.last.Name
	case api.TIndex:
		return x.last.Name + "[" + x.of[0].full() + "]"
	case api.TUnary:
		return signOf(x.last.Value) + "(" + x.of[0].full() + ")"
	}
	return "(" + x.of[0].full() + ") " + signOf(x.last.Value) + " (" + x.of[1].full() + ")"
}

// pairs are the places of the round brackets of a text, and of those that close them.
func pairs(text string) [][2]int {
	var all [][2]int
	var open []int
	for i := range len(text) {
		switch text[i] {
		case '(':
			open = append(open, i)
		case ')':
			all = append(all, [2]int{open[len(open)-1], i})
			open = open[:len(open)-1]
		}
	}
	return all
}

func without(text string, pair [2]int) string {
	return text[:pair[0]] + text[pair[0]+1:pair[1]] + text[pair[1]+1:]
}

func reads(text string, l []api.Term) bool {
	got, f := syntax.Expr(text)
	return f == (api.Fault{}) && slices.Equal(got, l)
}

// bare leaves out of a text each bracket pair that it can do without.
func bare(text string, l []api.Term) string {
again:
	for _, p := range pairs(text) {
		if less := without(text, p); reads(less, l) {
			text = less
			goto again
		}
	}
	return text
}

// modelTree is the tree of terms; none, where they are not whole.
func modelTree(l []api.Term) *tree {
	x, rest := lastTree(l)
	if x == nil || len(rest) > 0 {
		return nil
	}
	return x
}

// lastTree takes from the end what belongs together.
func lastTree(l []api.Term) (*tree, []api.Term) {
	if len(l) == 0 {
		return nil, nil
	}
	last, rest := l[len(l)-1], l[:len(l)-1]
	wants := map[int]int{api.TNumber: 0, api.TName: 0, api.TIndex: 1, api.TUnary: 1, api.TBinary: 2}
	n, ok := wants[last.Kind]
	if !ok || !goodTerm(last) {
		return nil, nil
	}
	x := &tree{last: last}
	for range n {
		var y *tree
		if y, rest = lastTree(rest); y == nil {
			return nil, nil
		}
		x.of = append([]*tree{y}, x.of...)
	}
	return x, rest
}

// goodTerm reads the chapter's table of what each kind has.
func goodTerm(t api.Term) bool {
	isName := func(s string) bool {
		l, f := syntax.Expr(s)
		return f == (api.Fault{}) && len(l) == 1 && l[0] == named(s)
	}
	switch t.Kind {
	case api.TNumber:
		return t == num(max(t.Value, 0))
	case api.TName:
		return t == named(t.Name) && isName(t.Name)
	case api.TIndex:
		return t == index(t.Name) && isName(t.Name)
	case api.TUnary:
		return t.Name == "" && slices.Contains([]int64{15, 16, 17}, t.Value)
	}
	return t.Kind == api.TBinary && t.Name == "" && 1 <= t.Value && t.Value <= 14
}

// modelExpr is the text of terms with just the brackets that they need; of small ones alone, since the syntax has to read it fully bracketed.
func modelExpr(l []api.Term) string {
	x := modelTree(l)
	if x == nil {
		return ""
	}
	return bare(x.full(), l)
}

// forms have, by the statements' kinds, what their lines are: T the targets, N the name, E all expressions, 0 and 1 one of them.
var forms = map[int]string{
	api.SAssign: "T = 0;", api.SStore: "N[0] = 1;", api.SSend: "send N 0;", api.SCall: "N(E);", api.SIf: "if 0 {",
	api.SElse: "} else {", api.SWhile: "while 0 {", api.SEnd: "}", api.SReturn: "return;",
}

func modelStmt(s api.Stmt, expr func([]api.Term) string) string {
	form := forms[s.Kind]
	switch {
	case s.Kind == api.SCall && len(s.Targets) > 0:
		form = "T = " + form
	case s.Kind == api.SReturn && len(s.Exprs) > 0:
		form = "return E;"
	}
	var exprs []string
	for _, l := range s.Exprs {
		exprs = append(exprs, expr(l))
	}
	two := append(slices.Clone(exprs), "", "")
	return strings.NewReplacer("T", strings.Join(s.Targets, ", "), "N", s.Name, "E", strings.Join(exprs, ", "), "0", two[0], "1", two[1]).Replace(form)
}

func modelBody(body []api.Stmt, expr func([]api.Term) string) string {
	all := ""
	for i, s := range body {
		if forms[s.Kind] == "" {
			continue
		}
		deep := 1
		for _, x := range body[:i] {
			switch x.Kind {
			case api.SIf, api.SWhile:
				deep++
			case api.SEnd:
				deep--
			}
		}
		if s.Kind == api.SElse || s.Kind == api.SEnd {
			deep--
		}
		all += strings.Repeat("  ", max(deep, 0)) + modelStmt(s, expr) + "\n"
	}
	return all
}

// modelText is the text of any source, by the chapter's table.
func modelText(s api.Source) string { return written(s, modelExpr) }

// written is a source's text with its expressions told in some way.
func written(s api.Source, expr func([]api.Term) string) string {
	all := ""
	if len(s.Principals) > 0 {
		all = "principal " + strings.Join(s.Principals, " ") + ";\n"
	}
	label := func(l api.Label) string { return bits.Text(l, s.Principals) }
	for _, d := range s.Globals {
		all += fmt.Sprintf("global %s %s;\n", d.Name, label(d.Label))
	}
	for _, d := range s.Arrays {
		all += fmt.Sprintf("array %s %d %s;\n", d.Name, d.Len, label(d.Label))
	}
	for _, d := range s.Channels {
		all += fmt.Sprintf("channel %s %s;\n", d.Name, label(d.Label))
	}
	for _, f := range s.Funcs {
		var params, results []string
		for _, d := range f.Params {
			params = append(params, d.Name+" "+label(d.Label))
		}
		for _, l := range f.Results {
			results = append(results, label(l))
		}
		all += fmt.Sprintf("func %s %s (%s) (%s) {\n", f.Name, label(f.Level), strings.Join(params, ", "), strings.Join(results, ", "))
		for _, d := range f.Vars {
			all += fmt.Sprintf("  var %s %s;\n", d.Name, label(d.Label))
		}
		all += modelBody(f.Body, expr) + "}\n"
	}
	return all
}

// equal takes no list and an empty one for the same.
func equal(a, b any) bool {
	return reflect.DeepEqual(tidy(reflect.ValueOf(a)), tidy(reflect.ValueOf(b)))
}

// tidy is a value as nested lists, without its lists' emptiness.
func tidy(v reflect.Value) any {
	all := []any{}
	switch v.Kind() {
	case reflect.Struct:
		for i := range v.NumField() {
			all = append(all, tidy(v.Field(i)))
		}
	case reflect.Slice:
		for i := range v.Len() {
			all = append(all, tidy(v.Index(i)))
		}
	default:
		return v.Interface()
	}
	return all
}
