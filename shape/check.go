package shape

import (
	"slices"

	"louver/api"
)

// head is where the faults of a function are that are no instruction's.
const head = -1

// tables answers the first error of a module beside its functions' own, and where it is.
func tables(m api.Module) (int, api.Errno) {
	if len(m.Globals) > api.MaxGlobals || len(m.Arrays) > api.MaxArrays ||
		len(m.Channels) > api.MaxChannels || len(m.Funcs) > api.MaxFuncs {
		return 0, api.ErrMany
	}
	if k := slices.IndexFunc(m.Arrays, isOddArray); k >= 0 {
		return k, api.ErrShape
	}
	return 0, api.OK
}

func isOddArray(a api.Array) bool { return a.Len < 1 || a.Len > api.MaxLen }

// function answers the first error of a function, and where it is.
func function(m api.Module, f int) (int, api.Errno) {
	own := m.Funcs[f]
	if err := sizes(own); err != api.OK {
		return head, err
	}
	at, err := 0, api.OK
search:
	for at = range own.Code {
		i := own.Code[at]
		switch err = Instr(m, f, i); {
		case err != api.OK:
			break search
		case at == len(own.Code)-1 && goesOn(i):
			err = api.ErrFall
			break search
		}
	}
	return at, err
}

// sizes answers the first error of a function's head.
func sizes(own api.Function) api.Errno {
	switch {
	case len(own.Params) > api.MaxParams, len(own.Results) > api.MaxResults, len(own.Code) > api.MaxCode,
		own.Locals > api.MaxLocals, own.Stack > api.MaxStack:
		return api.ErrMany
	case own.Locals < 0, own.Stack < 0:
		return api.ErrShape
	case len(own.Code) == 0:
		return api.ErrEmpty
	}
	return api.OK
}
