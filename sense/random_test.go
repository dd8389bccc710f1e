package sense_test

import (
	"fmt"
	"math"
	"math/rand"
	"slices"
	"testing"

	"louver/api"
	"louver/names"
	"louver/sense"
)

func (in input) run(s api.Source, limit uint64) api.Outcome {
	return sense.Run(s, in.f, in.args, in.memory, limit)
}

// eachInput hands on made sources with inputs, each source in memory of its own.
func eachInput(t *testing.T, seed int64, n int, do func(r *rand.Rand, s api.Source, in input, what string)) {
	t.Helper()
	r := rand.New(rand.NewSource(seed))
	for range n {
		text := source(r)
		for range 3 {
			s := parsed(t, text)
			in := someInput(r, s)
			do(r, s, in, fmt.Sprintf("%+v of\n%s", in, text))
			if t.Failed() {
				return
			}
		}
	}
}

func TestMadeRuns(t *testing.T) { // P9.1
	count := map[api.Errno]int{}
	long := 0
	eachInput(t, 91, 2500, func(r *rand.Rand, s api.Source, in input, what string) {
		want := modelRun(s, in, 5000)
		wantOutcome(t, what, in.run(s, 5000), want)
		count[want.Err]++
		if want.Steps > 100 {
			long++
		}
	})
	if count[api.OK] < 3000 || count[api.ErrDepth] < 300 || count[api.ErrFuel] < 300 || len(count) != 3 || long < 500 {
		t.Errorf("runs by their ends: %v; %d are long", count, long)
	}
}

// TestMadeLimits has runs end within each rule.
func TestMadeLimits(t *testing.T) { // P9.1, P9.4
	eachInput(t, 92, 250, func(r *rand.Rand, s api.Source, in input, what string) {
		whole := in.run(s, 120)
		for limit := range min(whole.Steps+2, 120) {
			wantOutcome(t, fmt.Sprint("limit ", limit, ", ", what), in.run(s, limit), modelRun(s, in, limit))
		}
	})
}

func begins(a, b [][]int64) bool {
	return slices.EqualFunc(a, b, func(x, y []int64) bool { return len(x) <= len(y) && slices.Equal(x, y[:len(x)]) })
}

func TestMoreFuel(t *testing.T) { // P9.4
	ended := 0
	eachInput(t, 93, 250, func(r *rand.Rand, s api.Source, in input, what string) {
		most := in.run(s, 2000)
		if most.Err != api.ErrFuel {
			ended++
			for _, more := range []uint64{0, 1, uint64(r.Intn(1000)), 1 << 40, math.MaxUint64 - most.Steps} {
				wantOutcome(t, what, in.run(s, most.Steps+more), most)
			}
		} else if most.Steps != 2000 {
			t.Errorf("out of fuel behind %d uses: %s", most.Steps, what)
		}
		last := in.run(s, 0)
		for limit := uint64(0); limit < most.Steps; limit += 1 + uint64(r.Intn(1+int(most.Steps)/40)) {
			o := in.run(s, limit)
			if o.Err != api.ErrFuel || o.Steps != limit || len(o.Results) > 0 {
				t.Errorf("limit %d: %s, %s", limit, told(o), what)
			}
			if !begins(last.Logs, o.Logs) || !begins(o.Logs, most.Logs) {
				t.Errorf("limit %d: logs %v, then %v, at last %v: %s", limit, last.Logs, o.Logs, most.Logs, what)
			}
			last = o
		}
	})
	if ended < 400 {
		t.Errorf("only %d runs end by themselves", ended)
	}
}

// shuffled is a list with its elements moved, and where each one's place is now.
func shuffled[T any](r *rand.Rand, l []T) ([]T, []int) {
	places := r.Perm(len(l))
	return moved(l, places), places
}

func moved[T any](l []T, places []int) []T {
	to := make([]T, len(l))
	for k, x := range l {
		to[places[k]] = x
	}
	return to
}

func TestOrderOfDeclarations(t *testing.T) { // P9.5
	eachInput(t, 94, 1000, func(r *rand.Rand, s api.Source, in input, what string) {
		want := in.run(s, 3000)
		var globals, arrays, channels, funcs []int
		s.Globals, globals = shuffled(r, s.Globals)
		s.Arrays, arrays = shuffled(r, s.Arrays)
		s.Channels, channels = shuffled(r, s.Channels)
		s.Funcs, funcs = shuffled(r, s.Funcs)
		for f, d := range s.Funcs {
			s.Funcs[f].Vars, _ = shuffled(r, d.Vars)
		}
		in.f, in.memory.Globals, in.memory.Arrays = funcs[in.f], moved(in.memory.Globals, globals), moved(in.memory.Arrays, arrays)
		want.Memory.Globals, want.Memory.Arrays, want.Logs = moved(want.Memory.Globals, globals), moved(want.Memory.Arrays, arrays), moved(want.Logs, channels)
		wantOutcome(t, what, in.run(s, 3000), want)
	})
}

// TestWhatMakesNoDifference alters labels, adds principals, and declares things that nothing uses: what is added stands behind the others.
func TestWhatMakesNoDifference(t *testing.T) { // P9.5
	eachInput(t, 95, 1000, func(r *rand.Rand, s api.Source, in input, what string) {
		want := in.run(s, 3000)
		s.Principals = []string{"a", "b", "c"}
		some := func() api.Label { return api.Label(r.Intn(8)) }
		relabel := func(l []api.Decl) {
			for k := range l {
				l[k].Label = some()
			}
		}
		relabel(s.Globals)
		relabel(s.Channels)
		for k := range s.Arrays {
			s.Arrays[k].Label = some()
		}
		for f := range s.Funcs {
			d := &s.Funcs[f]
			relabel(d.Params)
			d.Vars = append(d.Vars, api.Decl{Name: "other"})
			relabel(d.Vars)
			d.Level = some()
			for k := range d.Results {
				d.Results[k] = some()
			}
		}
		s.Funcs = append(s.Funcs, api.FuncDecl{Name: "more", Body: []api.Stmt{{Kind: api.SReturn}}})
		wantOutcome(t, "labels, vars: "+what, in.run(s, 3000), want)
		s.Globals, s.Channels = append(s.Globals, api.Decl{Name: "one_more"}), append(s.Channels, api.Decl{Name: "empty"})
		s.Arrays = append(s.Arrays, api.ArrayDecl{Name: "long", Len: 2})
		in.memory.Globals, in.memory.Arrays = append(in.memory.Globals, 7), append(in.memory.Arrays, []int64{8, 9})
		want.Memory.Globals, want.Memory.Arrays, want.Logs = append(want.Memory.Globals, 7), append(want.Memory.Arrays, []int64{8, 9}), append(want.Logs, nil)
		wantOutcome(t, "globals, arrays, channels: "+what, in.run(s, 3000), want)
	})
}

// TestEvalOfMadeExpressions holds Eval against the model, and against a run that returns the expression.
func TestEvalOfMadeExpressions(t *testing.T) { // P9.2
	count := 0
	eachInput(t, 96, 600, func(r *rand.Rand, s api.Source, in input, what string) {
		d := s.Funcs[in.f]
		locals := someValues(r, len(d.Params)+len(d.Vars))
		cells := map[string]*int64{}
		for k, v := range slices.Concat(d.Params, d.Vars) {
			cells[v.Name] = &locals[k]
		}
		m := modelOf(s, in.memory, 0)
		for _, x := range d.Body {
			for _, e := range x.Exprs {
				want, _ := m.eval(e, cells)
				wantValue(t, what, s, in.f, e, locals, in.memory, want, true)
				count++
			}
		}
	})
	if count < 5000 {
		t.Errorf("only %d expressions", count)
	}
}

// change alters one thing of a source, mostly so that layer 7 finds a fault.
func change(r *rand.Rand, s *api.Source) {
	d := &s.Funcs[r.Intn(len(s.Funcs))]
	if len(d.Body) == 0 {
		return
	}
	x := &d.Body[r.Intn(len(d.Body))]
	some := []string{"x0", "x3", "x9", "t0", "c1", "f0", "p0", "v0", "v1", "", "if"}
	name := some[r.Intn(len(some))]
	switch r.Intn(9) {
	case 0:
		x.Name = name
	case 1:
		x.Kind = r.Intn(12) - 1
	case 2:
		x.Targets = append(slices.Clone(x.Targets), name)
	case 3:
		x.Exprs = append(slices.Clone(x.Exprs), terms(api.Term{Kind: r.Intn(7), Name: name, Value: int64(r.Intn(20))}))
	case 4:
		s.Globals[r.Intn(len(s.Globals))].Name = name
	case 5:
		d.Results = append(slices.Clone(d.Results), 0)
	case 6:
		s.Arrays[0].Len = r.Intn(400) - 20
	case 7:
		d.Body = slices.Delete(slices.Clone(d.Body), 0, 1)
	default:
		for _, e := range x.Exprs {
			if len(e) > 0 {
				e[r.Intn(len(e))] = api.Term{Kind: r.Intn(7), Name: name, Value: int64(r.Intn(20))}
			}
		}
	}
}

func TestChangedSources(t *testing.T) { // P9.1, P9.2, P1
	count := map[api.Errno]int{}
	eachInput(t, 97, 4000, func(r *rand.Rand, s api.Source, in input, what string) {
		for range 1 + r.Intn(3) {
			change(r, &s)
		}
		err := names.Check(s).Err
		count[err]++
		got := in.run(s, 1000)
		if err != api.OK {
			wantOutcome(t, what, got, alone(err))
			wantValue(t, what, s, in.f, terms(number(1)), make([]int64, len(s.Funcs[in.f].Params)+len(s.Funcs[in.f].Vars)), in.memory, 0, false)
			return
		}
		if s.Arrays[0].Len != len(in.memory.Arrays[0]) {
			wantOutcome(t, what, got, alone(api.ErrArg))
			return
		}
		wantOutcome(t, what, got, modelRun(s, in, 1000))
	})
	for _, err := range []api.Errno{api.OK, api.ErrSyntax, api.ErrUnknown, api.ErrKind, api.ErrCount, api.ErrArg} {
		if count[err] < 100 {
			t.Errorf("too few with the error %d: %v", err, count)
		}
	}
}
