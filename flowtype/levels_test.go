package flowtype_test

import (
	"math"
	"slices"
	"strings"
	"testing"

	"louver/api"
	"louver/flowtype"
)

// nested declares principals a to d and globals of them, of which bodies hang on.
const nested = "principal a b c d; global x {a}; global y {b}; global z {c}; global o {}; array t 2 {d}; "

func levelsOf(t *testing.T, level, body string) []api.Label {
	t.Helper()
	return flowtype.Levels(parsed(t, nested+"func f "+level+" (p {a b}) () { var v {c d}; "+body+" return; }"), 0)
}

func TestLevelsOfBlocks(t *testing.T) { // P8.3
	for body, want := range map[string][]api.Label{
		"":                                      {0},
		"o = 1; o = 2;":                         {0, 0, 0},
		"if x { }":                              {0, 0, 0},
		"if x { o = 1; }":                       {0, 1, 0, 0},
		"if x { } else { }":                     {0, 0, 0, 0},
		"if x { } else { o = 1; } o = 2;":       {0, 0, 1, 0, 0, 0},
		"if x { o = 1; } else { } o = 2;":       {0, 1, 0, 0, 0, 0},
		"while x + y { send c t[z]; }":          {0, 3, 0, 0},
		"while t[z] { o = 1; }":                 {0, 12, 0, 0},
		"while p * v { g(); }":                  {0, 15, 0, 0},
		"while 7 { o = x; }":                    {0, 0, 0, 0},
		"if x { if y { if z { o = 1; } } }":     {0, 1, 3, 7, 3, 1, 0, 0},
		"if x { if y { } o = 1; } o = 2;":       {0, 1, 1, 1, 0, 0, 0},
		"if x { } if y { o = 1; } if z { }":     {0, 0, 0, 2, 0, 0, 0, 0},
		"while x { while x { o = 1; } o = 2; }": {0, 1, 1, 1, 1, 0, 0},
		"if x { while y { o = 1; } } else { while z { o = 2; } o = 3; }":                      {0, 1, 3, 1, 0, 1, 5, 1, 1, 0, 0},
		"if o { if x { } else { o = 1; } } else { if y { o = 2; } else { if z { o = 3; } } }": {0, 0, 0, 1, 0, 0, 0, 2, 0, 2, 6, 2, 0, 0, 0},
	} {
		if got := levelsOf(t, "{}", body); !slices.Equal(got, want) {
			t.Errorf("%s: levels %b, want %b", body, got, want)
		}
		for i := range want {
			want[i] |= 10
		}
		if got := levelsOf(t, "{b d}", body); !slices.Equal(got, want) {
			t.Errorf("{b d} %s: levels %b, want %b", body, got, want)
		}
	}
}

// TestLevelsHangOnNamesOfTheFunction has one name that stands for other things in other functions.
func TestLevelsHangOnNamesOfTheFunction(t *testing.T) { // P8.3
	s := parsed(t, `principal a b c; global x {a};
		func f {} () () { if n { x = 1; } if x { x = 1; } return; }
		func g {c} (n {b}) () { if n { x = 1; } if x { x = 1; } return; }
		func h {} (m {b}) () { var n {a b}; if n { x = 1; } if m { x = 1; } return; }`)
	wantLevels(t, s, 0, 0, 0, 0, 0, 1, 0, 0)
	wantLevels(t, s, 1, 4, 6, 4, 4, 5, 4, 4)
	wantLevels(t, s, 2, 0, 3, 0, 0, 2, 0, 0)
}

func TestLevelsOfNoFunction(t *testing.T) { // P8.3
	s := parsed(t, nested+"func f {a} () () { return; } func g {b} () () { return; }")
	wantLevels(t, s, 0, 1)
	wantLevels(t, s, 1, 2)
	for _, f := range []int{-1, 2, 3, 1 << 32, math.MaxInt, math.MinInt} {
		wantLevels(t, s, f)
	}
}

// bodyOf is a source with a function of level {a}, and these kinds as its statements, with a condition of {b}.
func bodyOf(kinds ...int) api.Source {
	var body []api.Stmt
	for _, kind := range kinds {
		body = append(body, api.Stmt{Kind: kind, Exprs: [][]api.Term{{{Kind: api.TName, Name: "y"}}}})
	}
	return api.Source{Globals: []api.Decl{{Name: "y", Label: 2}}, Funcs: []api.FuncDecl{{Level: 1, Body: body}}}
}

func TestLevelsOfBlocksThatDoNotNest(t *testing.T) { // P8.3
	for _, kinds := range [][]int{
		{api.SEnd}, {api.SElse}, {api.SIf}, {api.SWhile}, {api.SElse, api.SEnd}, {api.SIf, api.SEnd, api.SEnd}, {api.SIf, api.SElse},
		{api.SWhile, api.SElse, api.SEnd}, {api.SIf, api.SElse, api.SElse, api.SEnd}, {api.SReturn, api.SEnd, api.SIf}, {api.SIf, api.SWhile, api.SEnd},
		{api.SIf, api.SIf, api.SEnd}, {api.SIf, api.SWhile, api.SElse, api.SEnd, api.SEnd}, {api.SIf, api.SEnd, api.SElse}, {api.SAssign, api.SAssign, api.SWhile},
	} {
		wantLevels(t, bodyOf(kinds...), 0)
	}
}

// TestLevelsOfOtherFaults has bodies that layer 7 finds faults in, but whose blocks nest.
func TestLevelsOfOtherFaults(t *testing.T) { // P8.3
	wantLevels(t, bodyOf(), 0)
	wantLevels(t, bodyOf(api.SIf, api.SReturn, api.SElse, api.SReturn, api.SEnd), 0, 1, 3, 1, 3, 1)
	wantLevels(t, bodyOf(0, -1, 10, 1<<40, api.SWhile, 99, api.SEnd), 0, 1, 1, 1, 1, 1, 3, 1)
	// Only an SIf's and an SWhile's expressions make a level.
	wantLevels(t, bodyOf(api.SAssign, api.SStore, api.SSend, api.SCall, api.SReturn, api.SReturn), 0, 1, 1, 1, 1, 1, 1)
	s := bodyOf(api.SIf, api.SCall, api.SElse, api.SCall, api.SEnd, api.SWhile, api.SEnd, api.SCall)
	s.Funcs[0].Body[0].Exprs = nil
	wantLevels(t, s, 0, 1, 1, 1, 1, 1, 1, 1, 1)
	s.Funcs[0].Body[0].Exprs = [][]api.Term{{}, {{Kind: api.TName, Name: "z"}}}
	wantLevels(t, s, 0, 1, 1, 1, 1, 1, 1, 1, 1)
	s.Globals = append(s.Globals, api.Decl{Name: "z", Label: 1 << 63})
	wantLevels(t, s, 0, 1, 1<<63+1, 1, 1<<63+1, 1, 1, 1, 1)
	s.Funcs[0].Body[0].Exprs = append(s.Funcs[0].Body[0].Exprs, termsOf(t, "y + 1"))
	wantLevels(t, s, 0, 1, 1<<63+3, 1, 1<<63+3, 1, 1, 1, 1)
}

// TestLevelsOfNamesThatAreNotFound: such an expression has no label (P8.2).
func TestLevelsOfNamesThatAreNotFound(t *testing.T) { // P8.3
	for _, condition := range []string{"nobody", "x[1]", "t", "c", "f", "c[y]"} {
		s := parsed(t, nested+"channel c {a b c d}; func f {} () () { if "+condition+" { o = 1; } if y { if "+condition+" { o = 2; } } return; }")
		wantLevels(t, s, 0, 0, 0, 0, 0, 2, 2, 2, 0, 0)
	}
}

// TestDeepLevels nests deeper than layer 7 allows.
func TestDeepLevels(t *testing.T) { // P8.3
	for _, deep := range []int{1, 12, 13, 63} {
		s := bodyOf(slices.Concat(slices.Repeat([]int{api.SWhile}, deep), []int{api.SCall}, slices.Repeat([]int{api.SEnd}, deep))...)
		want := make([]api.Label, 2*deep+1)
		for k := range deep {
			name := strings.Repeat("n", k+1)
			s.Globals = append(s.Globals, api.Decl{Name: name, Label: 2 << k})
			s.Funcs[0].Body[k].Exprs[0][0].Name = name
			want[k] = 2<<k - 1
			want[2*deep-k] = want[k]
		}
		want[deep] = 2<<deep - 1
		wantLevels(t, s, 0, want...)
	}
	deep := 50000
	levels := flowtype.Levels(bodyOf(slices.Concat(slices.Repeat([]int{api.SIf}, deep), slices.Repeat([]int{api.SEnd}, deep))...), 0)
	if len(levels) != 2*deep || levels[0] != 1 || levels[1] != 3 || levels[2*deep-2] != 3 || levels[2*deep-1] != 1 {
		t.Errorf("%d levels of deep blocks", len(levels))
	}
}
