package flowtype_test

import (
	"math/rand"
	"reflect"
	"slices"
	"testing"

	"louver/api"
	"louver/flowtype"
)

// roomy is a copy of a list with room behind its end, in which a mark stands.
func roomy[T any](l []T, mark T) []T {
	return slices.Concat(l, slices.Repeat([]T{mark}, 4))[:len(l)]
}

// roomySource is a copy of a source, all of whose lists have room.
func roomySource(s api.Source) api.Source {
	decl := api.Decl{Name: "mark"}
	s.Principals, s.Globals, s.Channels = roomy(s.Principals, "mark"), roomy(s.Globals, decl), roomy(s.Channels, decl)
	s.Arrays, s.Funcs = roomy(s.Arrays, api.ArrayDecl{Name: "mark"}), roomy(s.Funcs, api.FuncDecl{Name: "mark"})
	for f := range s.Funcs {
		d := &s.Funcs[f]
		d.Params, d.Vars, d.Results = roomy(d.Params, decl), roomy(d.Vars, decl), roomy(d.Results, 99)
		d.Body = roomy(d.Body, api.Stmt{Name: "mark"})
		for i := range d.Body {
			x := &d.Body[i]
			x.Targets, x.Exprs = roomy(x.Targets, "mark"), roomy(x.Exprs, []api.Term{{Name: "mark"}})
			for k := range x.Exprs {
				x.Exprs[k] = roomy(x.Exprs[k], api.Term{Name: "mark"})
			}
		}
	}
	return s
}

// withRooms is a source whose lists are told with what stands in their rooms.
func withRooms(s api.Source) api.Source {
	s.Principals, s.Globals, s.Channels, s.Arrays, s.Funcs = whole(s.Principals), whole(s.Globals), whole(s.Channels), whole(s.Arrays), slices.Clone(whole(s.Funcs))
	for f := range s.Funcs {
		d := &s.Funcs[f]
		d.Params, d.Vars, d.Results, d.Body = whole(d.Params), whole(d.Vars), whole(d.Results), slices.Clone(whole(d.Body))
		for i := range d.Body {
			x := &d.Body[i]
			x.Targets, x.Exprs = whole(x.Targets), slices.Clone(whole(x.Exprs))
			for k := range x.Exprs {
				x.Exprs[k] = whole(x.Exprs[k])
			}
		}
	}
	return s
}

func whole[T any](l []T) []T { return l[:cap(l)] }

// answers makes all calls about a source.
func answers(s api.Source) []any {
	l := []any{flowtype.Check(s)}
	for f, d := range s.Funcs {
		l = append(l, slices.Clone(flowtype.Levels(s, f)))
		for _, x := range d.Body {
			for _, e := range x.Exprs {
				of, ok := flowtype.Expr(s, f, e)
				l = append(l, of, ok)
			}
		}
	}
	return l
}

func TestArgumentsStay(t *testing.T) { // P8.6
	r := rand.New(rand.NewSource(88))
	for range 1000 {
		s, text := source(t, r)
		if r.Intn(2) == 0 {
			s = mended(s)
		}
		s = roomySource(s)
		was := roomySource(s)
		answers(s)
		if !reflect.DeepEqual(withRooms(s), withRooms(was)) {
			t.Fatalf("changed:\n%s", text)
		}
	}
}

// TestLevelsAreNew changes what was answered: that changes neither the source nor another answer.
func TestLevelsAreNew(t *testing.T) { // P8.6, P0.3
	r := rand.New(rand.NewSource(89))
	for range 1000 {
		s, text := source(t, r)
		was := roomySource(s)
		for f := range s.Funcs {
			first, second := flowtype.Levels(s, f), flowtype.Levels(s, f)
			want := slices.Clone(second)
			for _, l := range [][]api.Label{first, whole(first)} {
				for i := range l {
					l[i] = ^l[i]
				}
			}
			if !slices.Equal(second, want) || !slices.Equal(flowtype.Levels(s, f), want) || !reflect.DeepEqual(roomySource(s), was) {
				t.Fatalf("levels of %d share memory:\n%s", f, text)
			}
		}
	}
}

// TestNothingIsKept asks of one source in the place of another one.
func TestNothingIsKept(t *testing.T) { // P8.6, P0.5
	r := rand.New(rand.NewSource(90))
	for range 1000 {
		s, text := source(t, r)
		before := answers(s)
		other, _ := source(t, r)
		answers(other)
		if after := answers(s); !reflect.DeepEqual(before, after) {
			t.Fatalf("answers %v, then %v, of\n%s", before, after, text)
		}
		s.Globals, s.Funcs = roomy(other.Globals, api.Decl{}), roomy(other.Funcs, api.FuncDecl{})
		s.Principals, s.Arrays, s.Channels = other.Principals, other.Arrays, other.Channels
		if !reflect.DeepEqual(answers(s), answers(other)) {
			t.Fatalf("answers behind\n%s", text)
		}
	}
}
