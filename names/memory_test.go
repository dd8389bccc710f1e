package names_test

import (
	"math/rand"
	"reflect"
	"testing"

	"louver/api"
	"louver/names"
)

// roomy gives all lists of a value room behind their ends, and answers what fills it.
func roomy(v reflect.Value) []reflect.Value {
	var all []reflect.Value
	switch v.Kind() {
	case reflect.Struct:
		for i := range v.NumField() {
			all = append(all, roomy(v.Field(i))...)
		}
	case reflect.Slice:
		n := v.Len()
		for i := range n {
			all = append(all, roomy(v.Index(i))...)
		}
		room := reflect.MakeSlice(v.Type(), n+8, n+8)
		reflect.Copy(room, v)
		v.Set(room.Slice(0, n))
		all = append(all, room.Slice(n, n+8))
	}
	return all
}

// ask makes all calls about a source.
func ask(s api.Source) (api.Fault, []names.Ref, []bool) {
	var refs []names.Ref
	var fits []bool
	for f := range s.Funcs {
		for k := range 20 {
			ref, _ := names.Find(s, f, fresh(k))
			refs = append(refs, ref)
		}
		for _, x := range s.Funcs[f].Body {
			fits = append(fits, names.Fits(x))
		}
	}
	return names.Check(s), refs, fits
}

func TestArgumentsStay(t *testing.T) { // P7.6
	r := rand.New(rand.NewSource(79))
	for range 300 {
		s := made(r, r.Intn(3))
		rooms := roomy(reflect.ValueOf(&s).Elem())
		was := copyOf(s)
		ask(s)
		if !reflect.DeepEqual(copyOf(s), was) {
			t.Fatalf("%+v was changed to %+v", was, s)
		}
		for _, room := range rooms {
			for i := range room.Len() {
				if !room.Index(i).IsZero() {
					t.Fatalf("something was written behind a list of %+v", s)
				}
			}
		}
	}
}

// TestNothingIsKept asks of one source in the place of another one.
func TestNothingIsKept(t *testing.T) { // P7.6
	r := rand.New(rand.NewSource(80))
	for range 300 {
		s := made(r, r.Intn(2))
		ask(s)
		for range 3 {
			change(r, reflect.ValueOf(&s).Elem())
		}
		fault, refs, fits := ask(s)
		if want := modelCheck(s); fault != want {
			t.Fatalf("Check of %+v = %+v, want %+v", s, fault, want)
		}
		faultOfCopy, refsOfCopy, fitsOfCopy := ask(copyOf(s))
		if fault != faultOfCopy || !reflect.DeepEqual(refs, refsOfCopy) || !reflect.DeepEqual(fits, fitsOfCopy) {
			t.Fatalf("answers about %+v and a copy of it are not the same", s)
		}
	}
}
