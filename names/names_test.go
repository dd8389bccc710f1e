package names_test

import (
	"regexp"
	"slices"
	"strings"
	"testing"

	"louver/api"
	"louver/names"
	"louver/syntax"
)

// parsed is the source of a text that the syntax has no fault in.
func parsed(t *testing.T, text string) api.Source {
	t.Helper()
	s, f := syntax.Parse(text)
	if f != (api.Fault{}) {
		t.Fatalf("Parse of %q: %+v", text, f)
	}
	return s
}

func fault(err api.Errno, f, at int) api.Fault { return api.Fault{Err: err, Func: f, At: at} }

func wantFault(t *testing.T, what string, s api.Source, want api.Fault) {
	t.Helper()
	if got := names.Check(s); got != want {
		t.Errorf("%s: Check = %+v, want %+v", what, got, want)
	}
}

// wantTexts asks for the faults of texts.
func wantTexts(t *testing.T, texts map[string]api.Fault) {
	t.Helper()
	for text, want := range texts {
		wantFault(t, text, parsed(t, text), want)
	}
}

func wantRef(t *testing.T, s api.Source, f int, name string, want names.Ref) {
	t.Helper()
	got, ok := names.Find(s, f, name)
	if got != want || ok != (want != names.Ref{}) {
		t.Errorf("Find of %q in %d = %+v, %t, want %+v", name, f, got, ok, want)
	}
}

func TestExamplesOfTheChapter(t *testing.T) { // P7.1
	wantTexts(t, map[string]api.Fault{
		"":                          {},
		"global x {}; global x {};": fault(api.ErrTwice, -1, 1),
		"global x {}; func f {} () () { var x {}; return; }":                       fault(api.ErrTwice, 0, -1),
		"func f {} () () { x = 1; return; }":                                       fault(api.ErrUnknown, 0, 0),
		"channel c {}; func f {} () () { c = 1; return; }":                         fault(api.ErrKind, 0, 0),
		"func f {} (a {}) () { return; } func g {} () () { f(); f(1); return 2; }": fault(api.ErrCount, 1, 0),
		"func f {} (a {}) () { return; } func g {} () () { f(1); return 2; }":      fault(api.ErrCount, 1, 1),
		"func f {} (a {}) () { return; } func g {} () () { f(1); return; }":        {},
		"array t 0 {};":                                 fault(api.ErrArg, -1, 0),
		"array t 256 {};":                               {},
		"array t 257 {};":                               fault(api.ErrArg, -1, 0),
		"array t 1 {};":                                 {},
		"array t 9223372036854775807 {};":               fault(api.ErrArg, -1, 0),
		"principal a; global x {a};":                    {},
		"principal a; global a {a};":                    {},
		"principal a b a; global x {a b};":              fault(api.ErrTwice, -1, 2),
		"principal x; func x {} () () { return; }":      {},
		"principal a; func f {} (a {a}) () { return; }": {},
		"func f {} () () { var v {}; v = 1; return; } func g {} () () { var v {}; return; }": {},
	})
	wantFault(t, "a label of nobody", api.Source{Principals: []string{"p"}, Globals: []api.Decl{{Name: "x", Label: 2}}}, fault(api.ErrPrincipal, -1, 1))
}

func TestFindOfTheChapter(t *testing.T) { // P7.2
	s := parsed(t, "global y {}; func f {} () () { var x {}; return; }")
	wantRef(t, s, 0, "x", names.Ref{Kind: names.Local})
	wantRef(t, s, 0, "y", names.Ref{Kind: names.Global})
	wantRef(t, s, 0, "f", names.Ref{Kind: names.Func})
	wantRef(t, s, 0, "z", names.Ref{})
	wantRef(t, s, 0, "", names.Ref{})
}

func TestKinds(t *testing.T) { // P7.2
	if names.Local != 1 || names.Global != 2 || names.Array != 3 || names.Channel != 4 || names.Func != 5 {
		t.Error("the kinds have other numbers")
	}
}

func TestFindEachKind(t *testing.T) { // P7.2
	s := parsed(t, `global x {}; global y {}; array t 1 {}; array u 1 {}; channel c {}; channel d {};
		func f {} (p {}, q {}) () { var v {}; var w {}; return; } func g {} () () { var p {}; return; }`)
	for name, want := range map[string]names.Ref{
		"p": {Kind: names.Local, Index: 0}, "q": {Kind: names.Local, Index: 1}, "v": {Kind: names.Local, Index: 2}, "w": {Kind: names.Local, Index: 3},
		"x": {Kind: names.Global, Index: 0}, "y": {Kind: names.Global, Index: 1}, "t": {Kind: names.Array, Index: 0}, "u": {Kind: names.Array, Index: 1},
		"c": {Kind: names.Channel, Index: 0}, "d": {Kind: names.Channel, Index: 1}, "f": {Kind: names.Func, Index: 0}, "g": {Kind: names.Func, Index: 1},
		"z": {}, "": {}, "fg": {}, "F": {},
	} {
		wantRef(t, s, 0, name, want)
		for _, f := range []int{-1, 2, 3, 1 << 62, -1 << 63} {
			if want.Kind == names.Local {
				wantRef(t, s, f, name, names.Ref{})
			} else {
				wantRef(t, s, f, name, want)
			}
		}
	}
	wantRef(t, s, 1, "p", names.Ref{Kind: names.Local})
	wantRef(t, s, 1, "q", names.Ref{})
	wantRef(t, api.Source{}, 0, "x", names.Ref{})
}

// TestFindTheFirst has names that are declared several times, and such as are none: Find is asked of any source.
func TestFindTheFirst(t *testing.T) { // P7.2
	for _, n := range []string{"n", "", "if", "1 a", strings.Repeat("n", 99)} {
		two := []api.Decl{{Name: "other"}, {Name: n}, {Name: n}}
		s := api.Source{
			Principals: []string{n}, Globals: two, Arrays: []api.ArrayDecl{{Name: "other"}, {Name: "another"}, {Name: n}, {Name: n}},
			Channels: two[1:], Funcs: []api.FuncDecl{{Name: "other", Params: two, Vars: two}, {Name: n, Params: two[:1], Vars: two}},
		}
		wantRef(t, s, 0, n, names.Ref{Kind: names.Local, Index: 1})
		wantRef(t, s, 1, n, names.Ref{Kind: names.Local, Index: 2})
		wantRef(t, s, 2, n, names.Ref{Kind: names.Global, Index: 1})
		s.Globals = nil
		wantRef(t, s, -1, n, names.Ref{Kind: names.Array, Index: 2})
		s.Arrays = nil
		wantRef(t, s, -1, n, names.Ref{Kind: names.Channel, Index: 0})
		s.Channels = nil
		wantRef(t, s, -1, n, names.Ref{Kind: names.Func, Index: 1})
		s.Funcs = nil
		wantRef(t, s, -1, n, names.Ref{})
	}
}

var (
	nameForm = regexp.MustCompile(`\A[a-z_][a-z_0-9]{0,31}\z`)
	keywords = strings.Fields("principal global array channel func var if else while send return")
)

// modelName reads the chapter's sentence once more.
func modelName(text string) bool {
	return nameForm.MatchString(text) && !slices.Contains(keywords, text)
}

func TestNameOfTheChapter(t *testing.T) { // P7.3
	for text, want := range map[string]bool{"a_1": true, "1a": false, "if": false, "": false, strings.Repeat("a", 33): false, strings.Repeat("a", 32): true} {
		if names.Name(text) != want {
			t.Errorf("Name of %q is not %t", text, want)
		}
	}
}

func TestName(t *testing.T) { // P7.3
	var all []string
	for c := range 256 {
		b := string([]byte{byte(c)})
		all = append(all, b, b+"a", "a"+b, b+"1", "a1"+b+"_", strings.Repeat("b", 31)+b, b+strings.Repeat("0", 31), b+strings.Repeat("_", 32))
	}
	for _, word := range strings.Fields("principal global array channel func var if else while send return true int print for") {
		all = append(all, word, word+"_", "_"+word, word+"1", word[1:], strings.ToUpper(word), word+" ", " "+word, word+"\n")
	}
	all = append(all, "é", "ａ", "a\x00", strings.Repeat("x", 1<<17), strings.Repeat("return", 6))
	for _, text := range all {
		if got := names.Name(text); got != modelName(text) {
			t.Errorf("Name of %.50q = %t", text, got)
		}
	}
}
