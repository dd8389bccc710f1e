package flowtype_test

import (
	"fmt"
	"strings"
	"testing"

	"louver/api"
	"louver/bits"
	"louver/flowtype"
)

// every is each label of two principals.
var every = []api.Label{0, 1, 2, 3}

// ofEach is a text once for each label, which $l stands for.
func ofEach(text string) string {
	all := ""
	for _, l := range every {
		all += filled(text, 0, 0, l)
	}
	return all
}

// filled is a text in which labels stand for $s, $d and $l: their numbers, but their texts within braces.
func filled(text string, src, dst, level api.Label) string {
	var pairs []string
	for sign, l := range map[string]api.Label{"$s": src, "$d": dst, "$l": level, "#3": 3} {
		pairs = append(pairs, "{"+sign+"}", bits.Text(l, []string{"a", "b"}), sign, fmt.Sprint(l))
	}
	return strings.NewReplacer(pairs...).Replace(text)
}

// inside is the source of a function in which all that bears a label is there once for each label, whose number stands behind its name; and of functions behind it that it calls.
func inside(t *testing.T, level, result api.Label, body string) api.Source {
	t.Helper()
	text := "principal a b; " + ofEach("global x$l {$l}; array t$l 3 {$l}; channel c$l {$l}; ") +
		filled("func f {$l} (p0 {}, p1 {a}, p2 {b}, p3 {#3}) ({#3}, {$d}) { ", 0, result, level) + ofEach("var v$l {$l}; ") + body + " } " +
		ofEach("func arg$l {#3} (m {#3}, n {$l}) () { return; } func level$l {$l} () () { return; } func result$l {#3} () ({}, {$l}) { return 0, 0; } ")
	return parsed(t, text)
}

// valued are expressions with the label $s.
var valued = []string{
	"x$s", "p$s", "v$s", "t$s[1]", "t0[x$s]", "-v$s", "!(1 + x0 * p$s)", "t0[t0[x$s] + 1]", "t$s[x$s] + v$s", "x0 + v$s", "v$s + x0", "7 << t0[2 - p$s]",
}

// wants are statements by which $e goes to what has the label $d.
var wants = []string{
	"x$d = $e;", "p$d = $e;", "v$d = $e;", "t$d[0] = $e;", "t$d[$e] = 0;", "t$d[$e] = $e;", "t$d[x0] = $e;", "send c$d $e;", "arg$d(0, $e);", "arg$d(x3, $e);",
}

// levelled are bodies with $x as their statement at the number at, and the level $l there.
var levelled = []struct {
	text string
	at   int
}{
	{"if x$l { $x }", 1},
	{"if x$l { } else { $x }", 2},
	{"while v$l { $x }", 1},
	{"if 1 { while t$l[2] { v3 = 0; $x } }", 3},
	{"if x$l { while 0 { } $x }", 3},
	{"while t0[x$l] { if 0 { } else { $x } }", 3},
	{"if x3 { v3 = v3; } if p$l { $x }", 4},
	{"if x0 { if x$l { } else { while x0 { $x } } }", 4},
}

// wantKept asks whether a statement of the first function keeps the labels: if so, a fault can only be in one behind that.
func wantKept(t *testing.T, s api.Source, at int, kept bool, what string) {
	t.Helper()
	got := flowtype.Check(s)
	if kept && got != (api.Fault{}) && got.Func == 0 || !kept && got != leak(0, at) {
		t.Errorf("%s: Check = %+v, kept at %d: %t", what, got, at, kept)
	}
}

// within asks once more, number by number.
func within(a, b api.Label) bool {
	for k := range 64 {
		if a&(1<<k) != 0 && b&(1<<k) == 0 {
			return false
		}
	}
	return true
}

// eachThree goes through the labels of what flows, of where it goes, and of the level.
func eachThree(do func(src, dst, level api.Label)) {
	for n := range 64 {
		do(every[n%4], every[n/4%4], every[n/16])
	}
}

func TestEachFlow(t *testing.T) { // P8.1
	for _, want := range wants {
		for _, value := range valued {
			statement := strings.ReplaceAll(want, "$e", value)
			eachThree(func(src, dst, level api.Label) {
				kept := within(src|level, dst)
				x := filled(statement, src, dst, level)
				wantKept(t, inside(t, level, 3, x+" return 0, 0;"), 0, kept, x)
			})
		}
	}
}

func TestEachLevel(t *testing.T) { // P8.1, P8.3
	for _, around := range levelled {
		for _, want := range wants {
			statement := strings.ReplaceAll(want, "$e", "x$s")
			body := strings.ReplaceAll(around.text, "$x", statement)
			eachThree(func(src, dst, level api.Label) {
				s := inside(t, 0, 3, filled(body, src, dst, level)+" return 0, 0;")
				wantKept(t, s, around.at, within(src|level, dst), filled(body, src, dst, level))
				if got := flowtype.Levels(s, 0)[around.at]; got != level {
					t.Errorf("the level at %d of %s is %b", around.at, body, got)
				}
			})
		}
	}
}

func TestReturns(t *testing.T) { // P8.1
	for _, value := range valued {
		eachThree(func(src, dst, level api.Label) {
			x := filled("return x3, "+value+";", src, dst, level)
			wantKept(t, inside(t, level, dst, x), 0, within(src|level, dst), x)
		})
	}
	// Behind all blocks the level is the function's again.
	s := inside(t, 0, 0, "if x3 { while x3 { v3 = 1; } } else { x3 = x1; } return x3, 7;")
	wantKept(t, s, 7, true, "a return behind blocks")
}

// TestCallsOfLevels has functions that want nothing but that the level of the call is within their own.
func TestCallsOfLevels(t *testing.T) { // P8.1
	eachThree(func(src, dst, level api.Label) {
		s := inside(t, level, 3, filled("if x$s { level$d(); } return 0, 0;", src, dst, level))
		wantKept(t, s, 1, within(src|level, dst), "a call of a level")
		s = inside(t, level, 3, filled("level$d(); return 0, 0;", src, dst, level))
		wantKept(t, s, 0, within(level, dst), "a call of a level")
	})
}

// TestCallsWithTargets calls functions whose own returns do not keep the labels: else nothing could flow into a target but what their Level allows.
func TestCallsWithTargets(t *testing.T) { // P8.1
	eachThree(func(src, dst, level api.Label) {
		want := func(kept bool, call string) {
			call = filled(call, src, dst, level)
			wantKept(t, inside(t, level, 3, call+" return 0, 0;"), 0, kept, call)
		}
		for _, sort := range []string{"x", "p", "v"} {
			want(within(src|level, dst), "x3, "+sort+"$d = result$s();")
			want(within(level, dst), sort+"$d, v3 = result$s();")
			want(within(src|level, dst), sort+"$d, "+sort+"$d = result$s();")
		}
		want(true, "result$s();")
	})
}

// TestEachOfMany has one place among several, by which alone the labels are not kept.
func TestEachOfMany(t *testing.T) { // P8.1
	for body, kept := range map[string]bool{
		"g(y, x, y, y);":               true,
		"g(y, y, y, y);":               true,
		"g(x, x, y, y);":               false,
		"g(y, x, x, y);":               false,
		"g(y, x, y, x);":               false,
		"y, y, x, y = g(1, 1, 1, 1);":  true,
		"x, x, x, x = g(1, 1, 1, 1);":  true,
		"y, y, y, y = g(1, 1, 1, 1);":  false,
		"x, x, y, x = g(1, 1, 1, 1);":  false,
		"x, y, x, y = g(1, x, 1, 1);":  true,
		"x, y, x, y = g(1, 1, 1, -x);": false,
	} {
		wantKept(t, parsed(t, "principal a; global y {}; global x {a}; func f {} () () { "+body+` return; }
			func g {} (_ {}, k {a}, l {}, m {}) ({}, {}, {a}, {}) { return 0, 0, k, l; }`), 0, kept, body)
	}
	for values, kept := range map[string]bool{"0, k, l": true, "l, l, l": true, "k, k, l": false, "l, k, k": false, "l, l, 2 * k": false} {
		text := "principal a; func f {} (k {a}, l {}) ({}, {a}, {}) { return " + values + "; }"
		wantKept(t, parsed(t, text), 0, kept, text)
	}
}

// TestHighNumbers has principals at both ends of a label.
func TestHighNumbers(t *testing.T) { // P8.1
	s := parsed(t, "global x {}; global y {}; func f {} () () { y = x; if x { y = 1; } return; }")
	for k := range api.MaxPrincipals {
		s.Principals = append(s.Principals, fmt.Sprint("q", k))
	}
	for k := range api.MaxPrincipals {
		s.Globals[0].Label, s.Globals[1].Label = 1<<k, ^api.Label(0)
		wantKept(t, s, 0, true, "all see it")
		s.Globals[1].Label = ^api.Label(1 << k)
		wantKept(t, s, 0, false, fmt.Sprint("but ", k))
		s.Globals[0].Label, s.Funcs[0].Level = 0, 1<<k
		wantKept(t, s, 0, false, fmt.Sprint("a level but ", k))
		s.Funcs[0].Level = 0
		wantKept(t, s, 0, true, "nothing flows")
	}
}
