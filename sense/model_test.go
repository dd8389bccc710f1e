package sense_test

import (
	"slices"

	"louver/api"
	"louver/ops"
)

// model tells the chapter once more, by other means: bodies are trees of blocks, names lead to cells, expressions are taken from their ends, and a run's end is handed up as a false. It is asked of sources in which layer 7 finds no fault.
type model struct {
	s       api.Source
	funcs   map[string]node // by their names: their bodies as blocks
	globals map[string]*int64
	arrays  map[string][]int64
	logs    map[string][]int64
	left    uint64 // the uses that are still allowed
	frames  int
	err     api.Errno
}

// node is a statement with the blocks that hang on it.
type node struct {
	api.Stmt
	decl         api.FuncDecl
	inner, other []node
}

// tree answers the nodes up to the edge that ends a block, and what stands from that edge on.
func tree(body []api.Stmt) ([]node, []api.Stmt) {
	var l []node
	for len(body) > 0 && body[0].Kind != api.SElse && body[0].Kind != api.SEnd {
		n := node{Stmt: body[0]}
		body = body[1:]
		if n.Kind == api.SIf || n.Kind == api.SWhile {
			n.inner, body = tree(body)
			if body[0].Kind == api.SElse {
				n.other, body = tree(body[1:])
			}
			body = body[1:]
		}
		l = append(l, n)
	}
	return l, body
}

func modelOf(s api.Source, memory api.Memory, limit uint64) *model {
	m := &model{s: s, funcs: map[string]node{}, globals: map[string]*int64{}, arrays: map[string][]int64{}, logs: map[string][]int64{}, left: limit}
	for k, d := range s.Globals {
		value := memory.Globals[k]
		m.globals[d.Name] = &value
	}
	for k, d := range s.Arrays {
		m.arrays[d.Name] = append([]int64{}, memory.Arrays[k]...)
	}
	for _, d := range s.Funcs {
		n := node{decl: d}
		n.inner, _ = tree(d.Body)
		m.funcs[d.Name] = n
	}
	return m
}

func modelRun(s api.Source, in input, limit uint64) api.Outcome {
	m := modelOf(s, in.memory, limit)
	results, ok := m.enter(s.Funcs[in.f].Name, in.args)
	o := api.Outcome{Err: m.err, Steps: limit - m.left}
	if ok {
		o.Results = results
	}
	for _, d := range s.Globals {
		o.Memory.Globals = append(o.Memory.Globals, *m.globals[d.Name])
	}
	for _, d := range s.Arrays {
		o.Memory.Arrays = append(o.Memory.Arrays, m.arrays[d.Name])
	}
	for _, d := range s.Channels {
		o.Logs = append(o.Logs, m.logs[d.Name])
	}
	return o
}

// use takes n uses of rules, or as many as are left, which ends the run.
func (m *model) use(n int) bool {
	if uint64(n) > m.left {
		m.left, m.err = 0, api.ErrFuel
		return false
	}
	m.left -= uint64(n)
	return true
}

func (m *model) enter(name string, args []int64) ([]int64, bool) {
	if m.frames == api.MaxDepth {
		m.err = api.ErrDepth
		return nil, false
	}
	if !m.use(1) {
		return nil, false
	}
	n := m.funcs[name]
	cells := map[string]*int64{}
	for k, d := range slices.Concat(n.decl.Params, n.decl.Vars) {
		cells[d.Name] = new(int64)
		if k < len(args) {
			*cells[d.Name] = args[k]
		}
	}
	m.frames++
	results, ok := m.block(n.inner, cells)
	m.frames--
	return results, ok
}

// block answers what a return in it answers.
func (m *model) block(l []node, cells map[string]*int64) ([]int64, bool) {
	var results []int64
	for _, n := range l {
		var ok bool
		if n.Kind == api.SWhile {
			ok = m.loop(n, cells)
		} else {
			results, ok = m.stmt(n, cells)
		}
		if !ok {
			return nil, false
		}
	}
	return results, true
}

func (m *model) loop(n node, cells map[string]*int64) bool {
	for {
		l, ok := m.begin(n, cells)
		if !ok || l[0] == 0 {
			return ok
		}
		if _, ok := m.block(n.inner, cells); !ok {
			return false
		}
	}
}

// begin takes a statement's own use and those of its expressions' terms, and answers the values.
func (m *model) begin(n node, cells map[string]*int64) ([]int64, bool) {
	uses := 1
	var l []int64
	for _, e := range n.Exprs {
		uses += len(e)
		value, _ := m.eval(e, cells)
		l = append(l, value)
	}
	return l, m.use(uses)
}

func (m *model) stmt(n node, cells map[string]*int64) ([]int64, bool) {
	l, ok := m.begin(n, cells)
	if !ok {
		return nil, false
	}
	switch n.Kind {
	case api.SAssign:
		return nil, m.give(n.Targets, l, cells)
	case api.SStore:
		if row := m.arrays[n.Name]; l[0] >= 0 && l[0] < int64(len(row)) {
			row[l[0]] = l[1]
		}
	case api.SSend:
		m.logs[n.Name] = append(m.logs[n.Name], l[0])
	case api.SCall:
		results, ok := m.enter(n.Name, l)
		return nil, ok && m.give(n.Targets, results, cells)
	case api.SIf:
		if l[0] != 0 {
			return m.block(n.inner, cells)
		}
		return m.block(n.other, cells)
	case api.SReturn:
		return l, true
	}
	return nil, true
}

// give is a recursion to the last target, which gets its value first.
func (m *model) give(targets []string, l []int64, cells map[string]*int64) bool {
	if len(targets) == 0 {
		return true
	}
	if !m.give(targets[1:], l[1:], cells) || !m.use(1) {
		return false
	}
	*m.cell(targets[0], cells) = l[0]
	return true
}

func (m *model) cell(name string, cells map[string]*int64) *int64 {
	if cell := cells[name]; cell != nil {
		return cell
	}
	return m.globals[name]
}

// eval takes the last term with what it is of, and answers what stands ahead of that.
func (m *model) eval(e []api.Term, cells map[string]*int64) (int64, []api.Term) {
	t := e[len(e)-1]
	e = e[:len(e)-1]
	switch t.Kind {
	case api.TName:
		return *m.cell(t.Name, cells), e
	case api.TIndex:
		i, e := m.eval(e, cells)
		if row := m.arrays[t.Name]; i >= 0 && i < int64(len(row)) {
			return row[i], e
		}
		return 0, e
	case api.TUnary:
		a, e := m.eval(e, cells)
		value, _ := ops.Unary(int(t.Value), a)
		return value, e
	case api.TBinary:
		b, e := m.eval(e, cells)
		a, e := m.eval(e, cells)
		value, _ := ops.Binary(int(t.Value), a, b)
		return value, e
	}
	return t.Value, e
}
