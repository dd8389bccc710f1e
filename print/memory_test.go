package print_test

import (
	"math/rand"
	"reflect"
	"slices"
	"testing"
	"unsafe"

	"louver/api"
	"louver/print"
)

// own is a string over bytes that the test may change afterwards, as no string of the language's own can be.
func own(text string) (string, []byte) {
	b := []byte(text)
	return unsafe.String(&b[0], len(b)), b
}

func TestTextsShareNothingWithTheirNames(t *testing.T) { // P6.6
	for _, l := range [][]api.Term{{{Kind: api.TName}}, {num(1), {Kind: api.TIndex}}, {{Kind: api.TName}, unary(15)}} {
		name, b := own("abc")
		for i := range l {
			if l[i].Kind == api.TName || l[i].Kind == api.TIndex {
				l[i].Name = name
			}
		}
		text, _ := print.Expr(l)
		before := string([]byte(text))
		b[0] = 'z'
		if text != before {
			t.Errorf("Expr of %+v goes with its name: %q", l, text)
		}
	}
	name, b := own("abc")
	text, err := print.Source(api.Source{Principals: []string{name}, Globals: []api.Decl{{Name: name, Label: 1}}})
	b[0] = 'z'
	if text != "principal abc;\nglobal abc {abc};\n" || err != api.OK {
		t.Errorf("Source goes with its names: %q, %d", text, err)
	}
}

// copied is a value with memory of its own, to the last list.
func copied(v reflect.Value) reflect.Value {
	c := reflect.New(v.Type()).Elem()
	switch v.Kind() {
	case reflect.Struct:
		for i := range v.NumField() {
			c.Field(i).Set(copied(v.Field(i)))
		}
	case reflect.Slice:
		for i := range v.Len() {
			c.Set(reflect.Append(c, copied(v.Index(i))))
		}
	default:
		c.Set(v)
	}
	return c
}

// roomy gives all lists of a value room behind their ends, and answers what fills it.
func roomy(v reflect.Value) []reflect.Value {
	var all []reflect.Value
	switch v.Kind() {
	case reflect.Struct:
		for i := range v.NumField() {
			all = append(all, roomy(v.Field(i))...)
		}
	case reflect.Slice:
		n := v.Len()
		for i := range n {
			all = append(all, roomy(v.Index(i))...)
		}
		room := reflect.MakeSlice(v.Type(), n+8, n+8)
		reflect.Copy(room, v)
		v.Set(room.Slice(0, n))
		all = append(all, room.Slice(n, n+8))
	}
	return all
}

func TestArgumentsStay(t *testing.T) { // P6.6
	r := rand.New(rand.NewSource(67))
	for range 200 {
		s := changed(r)
		if r.Intn(2) == 0 {
			s = (&maker{r: r}).source()
		}
		was := copied(reflect.ValueOf(s)).Interface()
		rooms := roomy(reflect.ValueOf(&s).Elem())
		first, err := print.Source(s)
		again, errAgain := print.Source(s)
		if !equal(s, was) || first != again || err != errAgain {
			t.Fatalf("Source changed what it was given, or answers otherwise: %q, %q", first, again)
		}
		for _, room := range rooms {
			for i := range room.Len() {
				if !room.Index(i).IsZero() {
					t.Fatalf("Source wrote behind a list")
				}
			}
		}
	}
}

func TestTermsStay(t *testing.T) { // P6.6
	r := rand.New(rand.NewSource(68))
	for range 500 {
		l := randomTree(r, 4).terms()
		if r.Intn(3) == 0 {
			l = l[1:]
		}
		room := append(slices.Clone(l), slices.Repeat([]api.Term{{Kind: 77}}, 8)...)
		was := slices.Clone(room)
		first, _ := print.Expr(room[:len(l)])
		print.Level(room[:len(l)])
		again, _ := print.Expr(l)
		if !slices.Equal(room, was) || first != again {
			t.Fatalf("Expr or Level changed what it was given, or answers otherwise: %q, %q", first, again)
		}
	}
}
