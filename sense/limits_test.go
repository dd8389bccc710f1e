package sense_test

import (
	"fmt"
	"strings"
	"testing"

	"louver/api"
	"louver/sense"
)

// largest is a text with as many things of each kind as there may be: each function calls the next one, and does something with its last things.
func largest() string {
	text := ""
	for _, name := range numbered("x", api.MaxGlobals) {
		text += "global " + name + " {};\n"
	}
	for _, name := range numbered("t", api.MaxArrays) {
		text += fmt.Sprintf("array %s %d {};\n", name, api.MaxLen)
	}
	for _, name := range numbered("c", api.MaxChannels) {
		text += "channel " + name + " {};\n"
	}
	for f := range api.MaxFuncs {
		text += fmt.Sprintf("func f%d {} (%s {}) ({}, {}, {}, {}) {\n", f, strings.Join(numbered("p", api.MaxParams), " {}, "))
		for _, v := range numbered("v", api.MaxLocals) {
			text += "var " + v + " {};\n"
		}
		if f+1 < api.MaxFuncs {
			text += fmt.Sprintf("v28, v29, v30, v31 = f%d(p0 + 1, p1, p2, p3, p4, p5, p6, p7 + 2);\n", f+1)
		}
		text += fmt.Sprintf("x31 = x31 + p7; x%d = p0; t15[255 - p7] = v31; send c15 p7; send c%d v0;\n", f, f%api.MaxChannels)
		text += "return p0, p7, v28, v31 + 1;\n}\n"
	}
	return text
}

func TestLargestSource(t *testing.T) { // P9.1, P9.3
	s := parsed(t, largest())
	in := input{args: []int64{0, 1, 2, 3, 4, 5, 6, 7}, memory: sense.Zero(s)}
	got := in.run(s, plenty)
	want := api.Outcome{Results: []int64{0, 7, 1, 32}, Memory: sense.Zero(s), Logs: make([][]int64, api.MaxChannels)}
	for f := int64(api.MaxFuncs - 1); f >= 0; f-- {
		p0, p7 := f, 7+2*f
		want.Memory.Globals[31] += p7
		want.Memory.Globals[f] = p0
		want.Memory.Arrays[15][255-p7] = 31 - f
		want.Logs[15] = append(want.Logs[15], p7)
		want.Logs[f%api.MaxChannels] = append(want.Logs[f%api.MaxChannels], 0)
	}
	// The body, the return and the entry of each function, and the calls of all but the last one.
	want.Steps = api.MaxFuncs*(5+3+5+2+2+7+1) + (api.MaxFuncs-1)*(1+12+4)
	wantOutcome(t, "the largest source", got, want)
	wantOutcome(t, "the model", modelRun(s, in, plenty), want)
}

func TestLongestBody(t *testing.T) { // P9.1
	count := strings.Repeat("x = x + 1;", api.MaxStmts-1)
	s := parsed(t, "global x {}; func f {} () ({}) { "+count+" return x; }")
	wantOutcome(t, "many statements", sense.Run(s, 0, nil, sense.Zero(s), plenty), api.Outcome{Results: []int64{255}, Memory: api.Memory{Globals: []int64{255}}, Steps: 1 + 5*255 + 2})
	terms := "1" + strings.Repeat(" - (x", 11) + strings.Repeat(" + 1)", 11) + "* 2"
	if n := len(termsOf(t, terms)); n != api.MaxTerms-1 {
		t.Fatalf("%d terms", n)
	}
	s = parsed(t, "global x {}; func f {} () ({}) { return -"+terms+"; }")
	for n := int64(0); n < 5; n++ {
		memory := api.Memory{Globals: []int64{n}}
		o := sense.Run(s, 0, nil, memory, plenty)
		wantOutcome(t, "many terms", o, modelRun(s, input{memory: memory}, plenty))
	}
}

func TestDeepestBlocks(t *testing.T) { // P9.1
	loops := ""
	for k := range api.MaxNest {
		loops += fmt.Sprintf("v%d = 2; while v%d { v%d = v%d - 1; ", k, k, k, k)
	}
	vars := "var " + strings.Join(numbered("v", api.MaxNest), " {}; var ") + " {}; "
	s := parsed(t, "global x {}; func f {} () () { "+vars+loops+"x = x + 1;"+strings.Repeat("}", api.MaxNest)+" return; }")
	o := sense.Run(s, 0, nil, sense.Zero(s), plenty)
	if o.Err != api.OK || o.Memory.Globals[0] != 1<<api.MaxNest {
		t.Errorf("loops: %s", told(o))
	}
	elses := strings.Repeat("if x { x = 100; } else { x = 0; ", api.MaxNest)
	s = parsed(t, "global x {}; func f {} () () { "+elses+"x = 7;"+strings.Repeat("} x = x * 2;", api.MaxNest)+" return; }")
	for value, want := range map[int64]int64{0: 7 << api.MaxNest, 1: 200} {
		o := sense.Run(s, 0, nil, api.Memory{Globals: []int64{value}}, plenty)
		if o.Err != api.OK || o.Memory.Globals[0] != want {
			t.Errorf("branches of %d: %s", value, told(o))
		}
	}
}

// TestLongRuns have plenty of uses in few frames.
func TestLongRuns(t *testing.T) { // P9.1
	s := parsed(t, "global x {}; channel c {}; func f {} () () { while 1 { x = x + 1; send c x; } return; }")
	const limit = 3_000_001
	o := sense.Run(s, 0, nil, sense.Zero(s), limit)
	const rounds = (limit - 1) / 10 // each takes nine uses
	if o.Err != api.ErrFuel || o.Steps != limit || len(o.Logs[0]) < rounds {
		t.Errorf("error %d, steps %d, %d sent", o.Err, o.Steps, len(o.Logs[0]))
	}
	for k, v := range o.Logs[0] {
		if v != int64(k+1) {
			t.Fatalf("sent %d in the place %d", v, k)
		}
	}
}
