package sense_test

import (
	"fmt"
	"math/rand"
	"strings"

	"louver/api"
)

// maker writes texts of sources by chance in which layer 7 finds no fault: it knows what it has declared.
type maker struct {
	r                         *rand.Rand
	globals, arrays, channels int
	calls                     []signature
	values                    []string // locals and globals of the function whose body is being written
}

// signature is what a call of a function must have.
type signature struct{ params, results, vars int }

func numbered(prefix string, n int) []string {
	var l []string
	for k := range n {
		l = append(l, fmt.Sprint(prefix, k))
	}
	return l
}

func source(r *rand.Rand) string {
	m := &maker{r: r, globals: 1 + r.Intn(4), arrays: 1 + r.Intn(3), channels: 1 + r.Intn(3)}
	text := ""
	for _, name := range numbered("x", m.globals) {
		text += "global " + name + " {};\n"
	}
	for _, name := range numbered("t", m.arrays) {
		text += fmt.Sprintf("array %s %d {};\n", name, 1+r.Intn(6))
	}
	for _, name := range numbered("c", m.channels) {
		text += "channel " + name + " {};\n"
	}
	for range 1 + r.Intn(3) {
		m.calls = append(m.calls, signature{r.Intn(4), r.Intn(4), r.Intn(4)})
	}
	for f := range m.calls {
		text += m.function(f)
	}
	return text
}

func (m *maker) function(f int) string {
	c := m.calls[f]
	params, vars := numbered("p", c.params), numbered("v", c.vars)
	m.values = append(append(numbered("x", m.globals), params...), vars...)
	for k := range params {
		params[k] += " {}"
	}
	results := strings.Join(make([]string, c.results+1), ", {}")
	text := fmt.Sprintf("func f%d {} (%s) (%s) {\n", f, strings.Join(params, ", "), strings.TrimPrefix(results, ", "))
	for _, v := range vars {
		text += "var " + v + " {};\n"
	}
	return text + m.block(3) + "return " + m.list(c.results) + ";\n}\n"
}

func (m *maker) block(deep int) string {
	text := ""
	for range m.r.Intn(5) {
		text += m.stmt(deep)
	}
	return text
}

func (m *maker) stmt(deep int) string {
	switch sort := m.r.Intn(10); {
	case sort == 0:
		return fmt.Sprintf("t%d[%s] = %s;\n", m.r.Intn(m.arrays), m.expr(2), m.expr(2))
	case sort == 1:
		return fmt.Sprintf("send c%d %s;\n", m.r.Intn(m.channels), m.expr(2))
	case sort == 2:
		return m.call()
	case sort == 3 && deep > 0:
		return fmt.Sprintf("if %s {\n%s}\n", m.expr(2), m.block(deep-1))
	case sort == 4 && deep > 0:
		return fmt.Sprintf("if %s {\n%s} else {\n%s}\n", m.expr(2), m.block(deep-1), m.block(deep-1))
	case sort == 5 && deep > 0:
		// Mostly such as come to an end.
		k := m.value()
		return fmt.Sprintf("%s = %d;\nwhile %s {\n%s%s = %s - 1;\n}\n", k, m.r.Intn(4), k, m.block(deep-1), k, k)
	case sort == 6 && deep > 0 && m.r.Intn(4) == 0:
		return fmt.Sprintf("while %s {\n%s}\n", m.expr(2), m.block(deep-1))
	}
	return m.value() + " = " + m.expr(3) + ";\n"
}

func (m *maker) value() string { return m.values[m.r.Intn(len(m.values))] }

func (m *maker) call() string {
	f := m.r.Intn(len(m.calls))
	text := fmt.Sprintf("f%d(%s);\n", f, m.list(m.calls[f].params))
	if m.calls[f].results == 0 || m.r.Intn(4) == 0 {
		return text
	}
	var l []string
	for range m.calls[f].results {
		l = append(l, m.value())
	}
	return strings.Join(l, ", ") + " = " + text
}

func (m *maker) list(n int) string {
	var l []string
	for range n {
		l = append(l, m.expr(2))
	}
	return strings.Join(l, ", ")
}

func (m *maker) expr(deep int) string {
	switch sort := m.r.Intn(8); {
	case sort < 2 && deep > 0:
		signs := []string{"+", "-", "*", "/", "%", "&", "|", "^", "<<", ">>", "==", "!=", "<", "<="}
		return "(" + m.expr(deep-1) + " " + signs[m.r.Intn(len(signs))] + " " + m.expr(deep-1) + ")"
	case sort == 2 && deep > 0:
		return fmt.Sprintf("t%d[%s]", m.r.Intn(m.arrays), m.expr(deep-1))
	case sort == 3 && deep > 0:
		return []string{"-", "!", "~"}[m.r.Intn(3)] + m.expr(deep-1)
	case sort < 6:
		return m.value()
	case m.r.Intn(8) == 0:
		return fmt.Sprint(m.r.Int63())
	}
	return fmt.Sprint(m.r.Intn(6))
}

// input is what a run is given beside its source.
type input struct {
	f      int
	args   []int64
	memory api.Memory
}

func someValue(r *rand.Rand) int64 {
	if r.Intn(6) == 0 {
		return int64(r.Uint64())
	}
	return int64(r.Intn(8) - 2)
}

func someValues(r *rand.Rand, n int) []int64 {
	l := make([]int64, n)
	for k := range l {
		l[k] = someValue(r)
	}
	return l
}

func someInput(r *rand.Rand, s api.Source) input {
	f := r.Intn(len(s.Funcs))
	memory := api.Memory{Globals: someValues(r, len(s.Globals))}
	for _, d := range s.Arrays {
		memory.Arrays = append(memory.Arrays, someValues(r, d.Len))
	}
	return input{f, someValues(r, len(s.Funcs[f].Params)), memory}
}
