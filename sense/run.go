package sense

import (
	"slices"

	"louver/api"
)

// run is what all frames share. It is asked only of a source in which layer 7 finds no fault: so each name is found as what it must be, and nothing is there in other numbers than it must.
type run struct {
	s            api.Source
	told         []function
	memory       api.Memory
	logs         [][]int64
	live         int // how many frames
	steps, limit uint64
}

// end is what a run throws that comes to no return.
type end struct{ err api.Errno }

func newRun(s api.Source, memory api.Memory, limit uint64) *run {
	r := &run{s: s, logs: make([][]int64, len(s.Channels)), limit: limit}
	r.memory.Globals = slices.Clone(memory.Globals)
	for _, row := range memory.Arrays {
		r.memory.Arrays = append(r.memory.Arrays, slices.Clone(row))
	}
	for f := range s.Funcs {
		r.told = append(r.told, tell(s, f))
	}
	return r
}

// first enters the first function; however deep in frames the run ends, its end comes up to here.
func (r *run) first(f int, args []int64) (results []int64, err api.Errno) {
	defer func() {
		if thrown := recover(); thrown != nil {
			// What is no run's own value is a fault of the program: it must not look like an end.
			results, err = nil, thrown.(end).err
		}
	}()
	return r.enter(f, args), api.OK
}

// use is asked ahead of what a rule does: what is out of fuel has not been done.
func (r *run) use() {
	if r.steps == r.limit {
		panic(end{api.ErrFuel})
	}
	r.steps++
}

// enter answers the results of a function that is entered.
func (r *run) enter(f int, args []int64) []int64 {
	r.use()
	r.live++
	vars := make([]int64, len(r.s.Funcs[f].Vars))
	results := r.frame(f, slices.Concat(args, vars)).results()
	r.live--
	return results
}

func (r *run) frame(f int, locals []int64) *frame {
	return &frame{r, r.told[f], locals}
}
