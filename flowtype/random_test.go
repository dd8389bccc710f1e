package flowtype_test

import (
	"math/rand"
	"slices"
	"testing"

	"louver/api"
	"louver/flowtype"
	"louver/names"
)

func pick[T any](r *rand.Rand, l []T) T { return l[r.Intn(len(l))] }

func TestMadeSources(t *testing.T) { // P8.1, P8.3
	r := rand.New(rand.NewSource(81))
	count := map[api.Errno]int{}
	for range 10000 {
		s, text := source(t, r)
		got := flowtype.Check(s)
		if want := modelCheck(s); got != want {
			t.Fatalf("Check = %+v, want %+v, of\n%s", got, want, text)
		}
		count[got.Err]++
		for f := range s.Funcs {
			if got, want := flowtype.Levels(s, f), modelLevels(s, f); !slices.Equal(got, want) {
				t.Fatalf("Levels of %d = %b, want %b, of\n%s", f, got, want, text)
			}
		}
	}
	if count[api.OK] < 1000 || count[api.ErrFlow] < 1000 || len(count) != 2 {
		t.Errorf("sources by their faults: %v", count)
	}
}

// mended is a source with the labels kept: what does not keep them is left out, and a return's results are seen by fewer.
func mended(s api.Source) api.Source {
	for fault := flowtype.Check(s); fault != (api.Fault{}); fault = flowtype.Check(s) {
		d := &s.Funcs[fault.Func]
		if fault.At < len(d.Body)-1 {
			d.Body = slices.Delete(d.Body, fault.At, fault.At+1)
			continue
		}
		for k := range d.Results {
			d.Results[k] = 1<<len(s.Principals) - 1
		}
	}
	return s
}

// eachMended hands on sources that keep their labels.
func eachMended(t *testing.T, seed int64, do func(r *rand.Rand, s api.Source, text string)) {
	r := rand.New(rand.NewSource(seed))
	for range 4000 {
		s, text := source(t, r)
		do(r, mended(s), text)
	}
}

func TestGreaterLabels(t *testing.T) { // P8.4
	eachMended(t, 82, func(r *rand.Rand, s api.Source, text string) {
		greater := func(l api.Label) api.Label { return l | api.Label(r.Uint64())&(1<<len(s.Principals)-1) }
		for k := range s.Channels {
			s.Channels[k].Label = greater(s.Channels[k].Label)
		}
		for k := range s.Arrays {
			s.Arrays[k].Len += r.Intn(api.MaxLen - s.Arrays[k].Len + 1)
		}
		for f, d := range s.Funcs {
			for k := range d.Results {
				if !hasTargets(s, d.Name) {
					s.Funcs[f].Results[k] = greater(d.Results[k])
				}
			}
		}
		wantFault(t, text, s, api.Fault{})
	})
}

// hasTargets asks whether a call of the function has targets for its results.
func hasTargets(s api.Source, name string) bool {
	return slices.ContainsFunc(s.Funcs, func(d api.FuncDecl) bool {
		return slices.ContainsFunc(d.Body, func(x api.Stmt) bool { return x.Name == name && len(x.Targets) > 0 })
	})
}

func TestOneLabel(t *testing.T) { // P8.4
	r := rand.New(rand.NewSource(83))
	for range 4000 {
		s, text := source(t, r)
		l := api.Label(r.Uint64()) & (1<<len(s.Principals) - 1)
		same := func(decls []api.Decl) {
			for k := range decls {
				decls[k].Label = l
			}
		}
		same(s.Globals)
		same(s.Channels)
		for k := range s.Arrays {
			s.Arrays[k].Label = l
		}
		for f := range s.Funcs {
			d := &s.Funcs[f]
			same(d.Params)
			same(d.Vars)
			d.Level, d.Results = l, slices.Repeat([]api.Label{l}, len(d.Results))
		}
		wantFault(t, text, s, api.Fault{})
	}
}

func TestFewerStatements(t *testing.T) { // P8.5
	left := 0
	eachMended(t, 84, func(r *rand.Rand, s api.Source, text string) {
		for f, d := range s.Funcs {
			for i, x := range d.Body {
				switch x.Kind {
				case api.SAssign, api.SStore, api.SSend, api.SCall:
					left++
					s.Funcs[f].Body = slices.Concat(d.Body[:i], d.Body[i+1:])
					wantFault(t, text, s, api.Fault{})
				}
			}
			s.Funcs[f].Body = d.Body
		}
	})
	if left < 4000 {
		t.Errorf("only %d statements were left out", left)
	}
}

// change alters one thing of a source, mostly so that layer 7 finds a fault.
func change(r *rand.Rand, s *api.Source) {
	d := &s.Funcs[r.Intn(len(s.Funcs))]
	x := &d.Body[r.Intn(len(d.Body))]
	some := []string{"x0", "x3", "x9", "t0", "c1", "f0", "p0", "v0", "v1", "a0", "", "if"}
	switch r.Intn(9) {
	case 0:
		x.Name = pick(r, some)
	case 1:
		x.Kind = r.Intn(12) - 1
	case 2:
		x.Targets = append(slices.Clone(x.Targets), pick(r, some))
	case 3:
		x.Exprs = append(slices.Clone(x.Exprs), []api.Term{{Kind: r.Intn(7), Name: pick(r, some), Value: int64(r.Intn(20))}})
	case 4:
		s.Globals[r.Intn(len(s.Globals))].Label ^= 1 << r.Intn(5)
	case 5:
		d.Results = append(slices.Clone(d.Results), 1)
	case 6:
		s.Arrays[0].Name = pick(r, some)
	case 7:
		d.Body = slices.Delete(slices.Clone(d.Body), 0, 1)
		d.Body = append(d.Body, api.Stmt{Kind: r.Intn(12)})
	default:
		for _, e := range x.Exprs {
			if len(e) > 0 {
				e[r.Intn(len(e))] = api.Term{Kind: r.Intn(7), Name: pick(r, some)}
			}
		}
	}
}

func TestChangedSources(t *testing.T) { // P8.1
	r := rand.New(rand.NewSource(85))
	count := map[api.Errno]int{}
	for range 10000 {
		s, text := source(t, r)
		for range 1 + r.Intn(2) {
			change(r, &s)
		}
		want := names.Check(s)
		if want == (api.Fault{}) {
			want = modelCheck(s)
		}
		if got := flowtype.Check(s); got != want {
			t.Fatalf("Check = %+v, want %+v, of a change of\n%s", got, want, text)
		}
		count[want.Err]++
	}
	for _, err := range []api.Errno{api.OK, api.ErrFlow, api.ErrSyntax, api.ErrUnknown, api.ErrKind, api.ErrCount, api.ErrTwice, api.ErrPrincipal, api.ErrArg} {
		if count[err] < 50 {
			t.Errorf("too few with the error %d: %v", err, count)
		}
	}
}

// modelExpr asks for what each term names, as layer 7's Find has it.
func modelExpr(s api.Source, f int, e []api.Term) (api.Label, bool) {
	if f < 0 || f >= len(s.Funcs) {
		return 0, false
	}
	var all api.Label
	for _, t := range e {
		r, ok := names.Find(s, f, t.Name)
		switch {
		case t.Kind != api.TName && t.Kind != api.TIndex:
		case !ok:
			return 0, false
		case t.Kind == api.TName && r.Kind == names.Global:
			all |= s.Globals[r.Index].Label
		case t.Kind == api.TName && r.Kind == names.Local:
			all |= slices.Concat(s.Funcs[f].Params, s.Funcs[f].Vars)[r.Index].Label
		case t.Kind == api.TIndex && r.Kind == names.Array:
			all |= s.Arrays[r.Index].Label
		default:
			return 0, false
		}
	}
	return all, true
}

// eachExpr goes through all expressions of changed sources.
func eachExpr(t *testing.T, seed int64, do func(s api.Source, f int, e []api.Term)) {
	r := rand.New(rand.NewSource(seed))
	for range 3000 {
		s, _ := source(t, r)
		for range r.Intn(4) {
			change(r, &s)
		}
		for _, d := range s.Funcs {
			for _, x := range d.Body {
				for _, e := range x.Exprs {
					do(s, r.Intn(len(s.Funcs)+2)-1, e)
				}
			}
		}
	}
}

func TestExprsOfChangedSources(t *testing.T) { // P8.2
	count := map[bool]int{}
	eachExpr(t, 86, func(s api.Source, f int, e []api.Term) {
		want, found := modelExpr(s, f, e)
		wantExpr(t, s, f, e, want, found)
		count[found]++
	})
	if count[true] < 5000 || count[false] < 5000 {
		t.Errorf("expressions that have a label, and others: %v", count)
	}
}

func TestAnythingEnds(t *testing.T) { // P1
	r := rand.New(rand.NewSource(87))
	for range 3000 {
		s, _ := source(t, r)
		for range 30 {
			if change(r, &s); r.Intn(40) == 0 {
				s.Funcs[0].Body = nil
				break
			}
		}
		flowtype.Check(s)
		for f := -2; f < 5; f++ {
			if levels := flowtype.Levels(s, f); len(levels) > 0 && len(levels) != len(s.Funcs[f].Body) {
				t.Fatalf("%d levels of %+v", len(levels), s.Funcs[f])
			}
		}
	}
}
