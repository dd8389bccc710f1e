package syntax_test

import (
	"reflect"
	"slices"
	"strings"
	"testing"
	"unsafe"

	"louver/api"
	"louver/syntax"
)

// span is a piece of memory.
type span struct{ from, to uintptr }

func (a span) meets(b span) bool { return a.from < b.to && b.from < a.to }

// lists are the places of all lists in a value, to the end of their room.
func lists(v reflect.Value) []span {
	var all []span
	switch v.Kind() {
	case reflect.Struct:
		for i := range v.NumField() {
			all = append(all, lists(v.Field(i))...)
		}
	case reflect.Slice:
		if size := uintptr(v.Cap()) * v.Type().Elem().Size(); size > 0 {
			all = append(all, span{v.Pointer(), v.Pointer() + size})
		}
		for i := range v.Len() {
			all = append(all, lists(v.Index(i))...)
		}
	}
	return all
}

// texts are the places of all texts in a value.
func texts(v reflect.Value) []span {
	var all []span
	switch v.Kind() {
	case reflect.Struct:
		for i := range v.NumField() {
			all = append(all, texts(v.Field(i))...)
		}
	case reflect.Slice:
		for i := range v.Len() {
			all = append(all, texts(v.Index(i))...)
		}
	case reflect.String:
		all = append(all, place(v.String()))
	}
	return all
}

func place(s string) span {
	from := uintptr(unsafe.Pointer(unsafe.StringData(s)))
	return span{from, from + uintptr(len(s))}
}

func wantOwnMemory(t *testing.T, text string, answer any) {
	t.Helper()
	v := reflect.ValueOf(answer)
	all := lists(v)
	slices.SortFunc(all, func(a, b span) int { return int(a.from) - int(b.from) })
	for i := 1; i < len(all); i++ {
		if all[i-1].meets(all[i]) {
			t.Fatalf("%q: two lists of the answer share memory", text)
		}
	}
	for _, s := range texts(v) {
		if s.meets(place(text)) {
			t.Fatalf("%q: the answer keeps a piece of the text", text)
		}
	}
}

func TestAnswersAreNew(t *testing.T) { // P5.7
	text := strings.Clone(tour)
	first, _ := syntax.Parse(text)
	wantOwnMemory(t, text, first)
	second, _ := syntax.Parse(text)
	blot(reflect.ValueOf(&first).Elem())
	if third, _ := syntax.Parse(text); !equal(second, third) {
		t.Errorf("what is written into an answer comes up in another one")
	}
	body := second.Funcs[0].Body
	ends, elses, _ := syntax.Ends(body)
	wantOwnMemory(t, "", [][]int{ends, elses})
	blot(reflect.ValueOf(ends))
	blot(reflect.ValueOf(elses))
	again, _ := syntax.Parse(text)
	if !equal(body, again.Funcs[0].Body) {
		t.Errorf("Ends keeps or changes the body")
	}
}

// blot writes over all numbers and texts of a value.
func blot(v reflect.Value) {
	switch v.Kind() {
	case reflect.Struct:
		for i := range v.NumField() {
			blot(v.Field(i))
		}
	case reflect.Slice:
		for i := range v.Len() {
			blot(v.Index(i))
		}
	case reflect.String:
		v.SetString("blot")
	case reflect.Uint64:
		v.SetUint(99)
	default:
		v.SetInt(99)
	}
}

func TestEndsLeavesTheBody(t *testing.T) { // P5.7
	for _, kinds := range [][]int{{api.SIf, api.SAssign, api.SElse, api.SEnd}, {api.SEnd}, {api.SWhile}} {
		body := bodyOf(kinds...)
		for i := range body {
			body[i].Name, body[i].Targets = "n", []string{"t"}
		}
		room := append(slices.Clone(body), api.Stmt{Kind: 77})
		syntax.Ends(room[:len(body)])
		if !equal(room[:len(body)], body) || room[len(body)].Kind != 77 {
			t.Errorf("Ends of %v changed what it was given", kinds)
		}
	}
}
