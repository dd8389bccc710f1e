package syntax_test

import (
	"math/rand"
	"strings"
	"testing"

	"louver/api"
	"louver/lex"
	"louver/syntax"
)

func TestParseByTheGrammar(t *testing.T) { // P5.1, P1
	r := rand.New(rand.NewSource(51))
	seen := map[api.Errno]int{}
	for range 6000 {
		text := spaced(r, randomWords(r, "source"))
		want := modelFault(text, "source")
		s, got := syntax.Parse(text)
		seen[want.Err]++
		if got != want {
			t.Fatalf("Parse of %q: %+v, want %+v", text, got, want)
		}
		if got != (api.Fault{}) && !isZero(s) {
			t.Fatalf("Parse of %q: a source beside a fault", text)
		}
		if got == (api.Fault{}) {
			wantWhole(t, text, s)
		}
	}
	for _, err := range []api.Errno{api.OK, api.ErrSyntax, api.ErrPrincipal, api.ErrDeep} {
		if seen[err] < 20 {
			t.Errorf("only %d texts with the error %d", seen[err], err)
		}
	}
}

func TestExprByTheGrammar(t *testing.T) { // P5.2, P1
	r := rand.New(rand.NewSource(52))
	seen := map[api.Errno]int{}
	for range 2500 {
		text := spaced(r, randomWords(r, "e"))
		want := modelFault(text, "e")
		l, got := syntax.Expr(text)
		seen[want.Err]++
		if got != want {
			t.Fatalf("Expr of %q: %+v, want %+v", text, got, want)
		}
		if got != (api.Fault{}) && len(l) != 0 {
			t.Fatalf("Expr of %q: terms beside a fault", text)
		}
		if got == (api.Fault{}) && !whole(l) {
			t.Fatalf("Expr of %q: terms that are not whole", text)
		}
	}
	for _, err := range []api.Errno{api.OK, api.ErrSyntax, api.ErrDeep} {
		if seen[err] < 20 {
			t.Errorf("only %d texts with the error %d", seen[err], err)
		}
	}
}

// TestEachPlaceOfATour sets every word at every place of a text that has all that the grammar has.
func TestEachPlaceOfATour(t *testing.T) { // P5.1
	words := strings.Fields(tour)
	if _, f := syntax.Parse(tour); f != (api.Fault{}) {
		t.Fatalf("the tour has the fault %+v", f)
	}
	for i := range words {
		for _, w := range strings.Fields("principal global var if else return { } ( ) [ , ; = == - ! p 1") {
			text := strings.Join(words[:i], " ") + " " + w + " " + strings.Join(words[i:], " ")
			wantFault(t, text, modelFault(text, "source"))
			text = strings.Join(words[:i], " ") + " " + w + " " + strings.Join(words[i+1:], " ")
			wantFault(t, text, modelFault(text, "source"))
		}
		text := strings.Join(words[:i], " ")
		wantFault(t, text, modelFault(text, "source"))
	}
}

func TestAhead(t *testing.T) { // P5.6
	r := rand.New(rand.NewSource(56))
	seen := map[api.Errno]int{}
	for range 4000 {
		words := randomWords(r, "source")
		text := strings.Join(words, " ")
		_, f := syntax.Parse(text)
		if f == (api.Fault{}) || f.At == len(text) {
			continue
		}
		seen[f.Err]++
		all, _, _ := lex.Scan(text)
		end := 0
		for _, w := range all {
			if w.At == f.At {
				end = w.At + len(w.Text)
			}
		}
		for range 3 {
			wantFault(t, text[:end]+" "+spaced(r, randomWords(r, "source")), f)
		}
		wantFault(t, text[:end], f)
	}
	for _, err := range []api.Errno{api.ErrSyntax, api.ErrPrincipal, api.ErrDeep} {
		if seen[err] < 20 {
			t.Errorf("only %d texts with the error %d", seen[err], err)
		}
	}
}

func TestBlanksMakeNoDifference(t *testing.T) { // P5.5
	r := rand.New(rand.NewSource(55))
	for range 1500 {
		words := randomWords(r, "source")
		plain, f := syntax.Parse(strings.Join(words, " "))
		for range 2 {
			text := spaced(r, words)
			s, g := syntax.Parse(text)
			if !equal(s, plain) || g.Err != f.Err {
				t.Fatalf("Parse of %q differs by blanks from that of %q", text, strings.Join(words, " "))
			}
		}
	}
}
