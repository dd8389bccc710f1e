package flowtype_test

import (
	"fmt"
	"math/rand"
	"strings"
	"testing"

	"louver/api"
	"louver/bits"
)

// maker writes texts of sources by chance in which layer 7 finds no fault: it knows what it has declared.
type maker struct {
	r       *rand.Rand
	of      int // how many principals there are
	calls   []signature
	targets []string // locals and globals of the function whose body is being written
}

// signature is what a call of a function must have.
type signature struct{ params, results, vars int }

const (
	globals  = 4
	arrays   = 2
	channels = 2
)

func (m *maker) names(prefix string, n int) []string {
	var l []string
	for k := range n {
		l = append(l, fmt.Sprint(prefix, k))
	}
	return l
}

// label answers every label, the least and the greatest more often: else there is hardly a flow that is kept.
func (m *maker) label() string {
	l := api.Label(1)<<m.of - 1
	switch m.r.Intn(4) {
	case 0:
		l = 0
	case 1, 2:
		l &= api.Label(m.r.Uint64())
	}
	return bits.Text(l, m.names("a", m.of))
}

// source is a text, and what it is read as.
func source(t *testing.T, r *rand.Rand) (api.Source, string) {
	t.Helper()
	m := &maker{r: r, of: 1 + r.Intn(3)}
	text := "principal " + strings.Join(m.names("a", m.of), " ") + ";\n"
	for k := range globals {
		text += fmt.Sprintf("global x%d %s;\n", k, m.label())
	}
	for k := range arrays {
		text += fmt.Sprintf("array t%d %d %s;\n", k, 1+r.Intn(256), m.label())
	}
	for k := range channels {
		text += fmt.Sprintf("channel c%d %s;\n", k, m.label())
	}
	for range 1 + r.Intn(3) {
		m.calls = append(m.calls, signature{r.Intn(3), r.Intn(3), r.Intn(3)})
	}
	for f := range m.calls {
		text += m.function(f)
	}
	return parsed(t, text), text
}

func (m *maker) function(f int) string {
	c := m.calls[f]
	params, vars, results := m.names("p", c.params), m.names("v", c.vars), make([]string, c.results)
	m.targets = append(append(m.names("x", globals), params...), vars...)
	for k := range params {
		params[k] += " " + m.label()
	}
	for k := range results {
		results[k] = m.label()
	}
	text := fmt.Sprintf("func f%d %s (%s) (%s) {\n", f, m.label(), strings.Join(params, ", "), strings.Join(results, ", "))
	for _, v := range vars {
		text += fmt.Sprintf("var %s %s;\n", v, m.label())
	}
	return text + m.block(3) + "return " + m.list(c.results) + ";\n}\n"
}

func (m *maker) block(deep int) string {
	text := ""
	for range m.r.Intn(4) {
		text += m.stmt(deep)
	}
	return text
}

func (m *maker) stmt(deep int) string {
	switch sort := m.r.Intn(8); {
	case sort == 0:
		return fmt.Sprintf("t%d[%s] = %s;\n", m.r.Intn(arrays), m.expr(2), m.expr(2))
	case sort == 1:
		return fmt.Sprintf("send c%d %s;\n", m.r.Intn(channels), m.expr(2))
	case sort == 2:
		return m.call()
	case sort == 3 && deep > 0:
		return fmt.Sprintf("if %s {\n%s}\n", m.expr(2), m.block(deep-1))
	case sort == 4 && deep > 0:
		return fmt.Sprintf("if %s {\n%s} else {\n%s}\n", m.expr(2), m.block(deep-1), m.block(deep-1))
	case sort == 5 && deep > 0:
		return fmt.Sprintf("while %s {\n%s}\n", m.expr(2), m.block(deep-1))
	}
	return m.target() + " = " + m.expr(2) + ";\n"
}

func (m *maker) target() string { return m.targets[m.r.Intn(len(m.targets))] }

func (m *maker) call() string {
	f := m.r.Intn(len(m.calls))
	text := fmt.Sprintf("f%d(%s);\n", f, m.list(m.calls[f].params))
	if m.calls[f].results == 0 || m.r.Intn(3) == 0 {
		return text
	}
	var l []string
	for range m.calls[f].results {
		l = append(l, m.target())
	}
	return strings.Join(l, ", ") + " = " + text
}

func (m *maker) list(n int) string {
	var l []string
	for range n {
		l = append(l, m.expr(2))
	}
	return strings.Join(l, ", ")
}

func (m *maker) expr(deep int) string {
	switch sort := m.r.Intn(8); {
	case sort == 0 && deep > 0:
		return m.expr(deep-1) + " + " + m.expr(deep-1)
	case sort == 1 && deep > 0:
		return fmt.Sprintf("t%d[%s]", m.r.Intn(arrays), m.expr(deep-1))
	case sort == 2 && deep > 0:
		return "-(" + m.expr(deep-1) + ")"
	case sort < 5:
		return m.target()
	}
	return fmt.Sprint(m.r.Intn(9))
}
