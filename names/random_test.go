package names_test

import (
	"fmt"
	"math/rand"
	"reflect"
	"slices"
	"testing"

	"louver/api"
	"louver/names"
	"louver/print"
	"louver/syntax"
)

// made is a source made by chance, that many changes away from one without a fault.
func made(r *rand.Rand, changes int) api.Source {
	s := (&maker{r: r}).source()
	for range changes {
		changeSome(r, &s)
	}
	return s
}

// changeSome changes a function's body more often than what stands ahead of it.
func changeSome(r *rand.Rand, s *api.Source) {
	v := reflect.ValueOf(s).Elem()
	if len(s.Funcs) > 0 && r.Intn(4) > 0 {
		f := &s.Funcs[r.Intn(len(s.Funcs))]
		v = reflect.ValueOf(f).Elem()
		if r.Intn(4) > 0 {
			v = reflect.ValueOf(&f.Body).Elem()
		}
	}
	change(r, v)
}

// allNames are the places of all names in a value.
func allNames(v reflect.Value) []*string {
	var l []*string
	switch v.Kind() {
	case reflect.Struct:
		for i := range v.NumField() {
			l = append(l, allNames(v.Field(i))...)
		}
	case reflect.Slice:
		for i := range v.Len() {
			l = append(l, allNames(v.Index(i))...)
		}
	case reflect.String:
		l = append(l, v.Addr().Interface().(*string))
	}
	return l
}

func TestMadeSources(t *testing.T) { // P7.1
	r := rand.New(rand.NewSource(71))
	for range 1500 {
		s := made(r, 0)
		text, _ := print.Source(s)
		wantFault(t, text, s, api.Fault{})
		read, f := syntax.Parse(text)
		wantFault(t, text, read, f)
		if f != (api.Fault{}) {
			t.Fatalf("a source that is not read: %+v\n%s", f, text)
		}
	}
}

func TestChangedSources(t *testing.T) { // P7.1
	r := rand.New(rand.NewSource(72))
	count := map[string]int{}
	for range 30000 {
		s := made(r, 1+r.Intn(3))
		got, want := names.Check(s), modelCheck(s)
		if got != want {
			t.Fatalf("Check of %+v = %+v, want %+v", s, got, want)
		}
		count[fmt.Sprint(want.Err, min(want.Func, 0), min(want.At, 0))]++
	}
	for _, kind := range []string{"0 0 0", "1 -1 0", "70 -1 0", "10 -1 0", "10 0 -1", "1 0 -1", "70 0 -1", "50 0 -1", "50 0 0", "71 0 0", "72 0 0", "73 0 0"} {
		if count[kind] < 20 {
			t.Errorf("too few of %s (error, function, place): %v", kind, count)
		}
	}
}

func TestFindInChangedSources(t *testing.T) { // P7.2
	r := rand.New(rand.NewSource(74))
	for range 2000 {
		s := made(r, r.Intn(8))
		for k := range 20 {
			f, name := r.Intn(len(s.Funcs)+3)-1, fresh(k)
			if l := allNames(reflect.ValueOf(&s).Elem()); len(l) > 0 && k%2 > 0 {
				name = *pick(r, l)
			}
			got, ok := names.Find(s, f, name)
			if want, found := modelFind(s, f, name); got != want || ok != found {
				t.Fatalf("Find of %q in %d of %+v = %+v, %t, want %+v, %t", name, f, s, got, ok, want, found)
			}
		}
	}
}

// TestUsesAreFound walks sources without a fault: some of them are changed ones.
func TestUsesAreFound(t *testing.T) { // P7.4
	r := rand.New(rand.NewSource(75))
	uses := 0
	for range 4000 {
		s := made(r, r.Intn(3))
		if names.Check(s) != (api.Fault{}) {
			continue
		}
		for f, d := range s.Funcs {
			want := func(name string, kinds ...int) {
				uses++
				if ref, ok := names.Find(s, f, name); !ok || !slices.Contains(kinds, ref.Kind) {
					t.Errorf("%q in %d of %+v is %+v, %t", name, f, s, ref, ok)
				}
			}
			for _, x := range d.Body {
				wantUses(x, want)
			}
		}
	}
	if uses < 10000 {
		t.Errorf("only %d uses", uses)
	}
}

func wantUses(x api.Stmt, want func(name string, kinds ...int)) {
	for _, name := range x.Targets {
		want(name, names.Local, names.Global)
	}
	switch x.Kind {
	case api.SStore:
		want(x.Name, names.Array)
	case api.SSend:
		want(x.Name, names.Channel)
	case api.SCall:
		want(x.Name, names.Func)
	}
	for _, t := range slices.Concat(x.Exprs...) {
		switch t.Kind {
		case api.TName:
			want(t.Name, names.Local, names.Global)
		case api.TIndex:
			want(t.Name, names.Array)
		}
	}
}

func TestNamesAreApart(t *testing.T) { // P7.4
	r := rand.New(rand.NewSource(76))
	for range 4000 {
		s := made(r, r.Intn(4))
		if names.Check(s) != (api.Fault{}) {
			continue
		}
		var outside []string
		for _, d := range slices.Concat(s.Globals, s.Channels) {
			outside = append(outside, d.Name)
		}
		for _, d := range s.Arrays {
			outside = append(outside, d.Name)
		}
		for _, d := range s.Funcs {
			outside = append(outside, d.Name)
		}
		wantApart(t, s, s.Principals)
		wantApart(t, s, outside)
		for _, d := range s.Funcs {
			all := slices.Clone(outside)
			for _, v := range slices.Concat(d.Params, d.Vars) {
				all = append(all, v.Name)
			}
			wantApart(t, s, all)
		}
	}
}

func wantApart(t *testing.T, s api.Source, l []string) {
	t.Helper()
	sorted := slices.Sorted(slices.Values(l))
	if len(slices.Compact(sorted)) != len(l) {
		t.Errorf("a name stands for two things in %+v", s)
	}
}

// renamed is a source with a name everywhere another one.
func renamed(s api.Source, from, to string) api.Source {
	s = copyOf(s)
	for _, p := range allNames(reflect.ValueOf(&s).Elem()) {
		if *p == from {
			*p = to
		}
	}
	return s
}

func TestRenamed(t *testing.T) { // P7.5
	r := rand.New(rand.NewSource(77))
	for range 5000 {
		s := made(r, r.Intn(3))
		var l []string
		for _, p := range allNames(reflect.ValueOf(&s).Elem()) {
			if names.Name(*p) {
				l = append(l, *p)
			}
		}
		if len(l) == 0 {
			continue
		}
		to := pick(r, []string{"aa", "zzz", "__", "x9x", "elsewhere", "nnnnnnnnnnnnnnnnnnnnnnnnnnnnnnnn"})
		from := pick(r, l)
		if got, want := names.Check(renamed(s, from, to)), names.Check(s); got != want {
			t.Fatalf("Check of %+v with %s for %s = %+v, want %+v", s, to, from, got, want)
		}
	}
}

func TestAnythingEnds(t *testing.T) { // P1
	r := rand.New(rand.NewSource(78))
	for range 3000 {
		s := made(r, 40)
		names.Check(s)
		for _, p := range allNames(reflect.ValueOf(&s).Elem()) {
			names.Name(*p)
			names.Find(s, r.Intn(9)-3, *p)
		}
		for _, d := range s.Funcs {
			for _, x := range d.Body {
				names.Fits(x)
			}
		}
	}
}
