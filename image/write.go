package image

import (
	"slices"

	"louver/api"
	"louver/code"
	"louver/leb"
)

// hasForm asks whether a module has a form, of whatever length.
func hasForm(m api.Module) bool {
	return !slices.ContainsFunc(m.Arrays, isOddArray) && !slices.ContainsFunc(m.Funcs, isOddFunction)
}

func isOddArray(a api.Array) bool { return a.Len < 0 }

func isOddFunction(f api.Function) bool {
	return f.Locals < 0 || f.Stack < 0 || slices.ContainsFunc(f.Code, isOddInstr)
}

func isOddInstr(i api.Instr) bool { return !code.May(i) }

// writer gathers a form's bytes, all but its sum.
type writer struct{ form []byte }

// isTooLong says that no image begins with what is written.
func (w *writer) isTooLong() bool { return len(w.form)+sumSize > api.MaxImage }

func (w *writer) module(m api.Module) {
	each(w, m.Globals, w.label)
	each(w, m.Arrays, w.array)
	each(w, m.Channels, w.label)
	each(w, m.Funcs, w.function)
}

// each writes how many there are, and then each of them by one of the writer's calls.
func each[T any](w *writer, all []T, put func(T)) {
	w.number(uint64(len(all)))
	for _, x := range all {
		// A module may have far more things than an image has bytes, so they are not gone through any further.
		if w.isTooLong() {
			return
		}
		put(x)
	}
}

func (w *writer) function(f api.Function) {
	w.label(f.Level)
	each(w, f.Params, w.label)
	each(w, f.Results, w.label)
	w.size(f.Locals)
	w.size(f.Stack)
	each(w, f.Code, w.instr)
}

func (w *writer) array(a api.Array) {
	w.size(a.Len)
	w.label(a.Label)
}

func (w *writer) label(l api.Label) { w.number(uint64(l)) }

func (w *writer) size(n int) { w.number(uint64(n)) }

func (w *writer) instr(i api.Instr) { w.form = append(w.form, code.Put(i)...) }

// number asks for the form alone, since the bytes that it would be put behind are copied each time.
func (w *writer) number(n uint64) { w.form = append(w.form, leb.Put(nil, n)...) }
