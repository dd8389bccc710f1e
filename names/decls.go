package names

import (
	"slices"

	"louver/api"
)

// group is the declarations of one kind: how many there are and may be, and what the k-th one is checked for.
type group struct {
	count, most int
	checks      func(k int) []check
}

// declarations answers what is wrong with the first declaration that is not in order, and its number.
func declarations(s api.Source) (int, api.Errno) {
	at := 0
	for _, g := range groups(s) {
		for k := range g.count {
			if k == g.most {
				return at, api.ErrMany
			}
			if err := first(g.checks(k)...); err != api.OK {
				return at, err
			}
			at++
		}
	}
	return 0, api.OK
}

func groups(s api.Source) []group {
	return []group{
		{len(s.Principals), api.MaxPrincipals, func(k int) []check {
			name := s.Principals[k]
			return []check{newName(name, func() bool { return slices.Index(s.Principals, name) != k })}
		}},
		{len(s.Globals), api.MaxGlobals, func(k int) []check {
			d := s.Globals[k]
			return []check{declared(s, d.Name, Ref{Global, k}), labels(s, d.Label)}
		}},
		{len(s.Arrays), api.MaxArrays, func(k int) []check {
			d := s.Arrays[k]
			return []check{declared(s, d.Name, Ref{Array, k}), length(d.Len), labels(s, d.Label)}
		}},
		{len(s.Channels), api.MaxChannels, func(k int) []check {
			d := s.Channels[k]
			return []check{declared(s, d.Name, Ref{Channel, k}), labels(s, d.Label)}
		}},
		{len(s.Funcs), api.MaxFuncs, func(k int) []check {
			return []check{declared(s, s.Funcs[k].Name, Ref{Func, k})}
		}},
	}
}

// declared checks a name outside of functions. Find goes through the declarations in the order in which they are counted: so one ahead has the name just if another one is found.
func declared(s api.Source, name string, here Ref) check {
	return newName(name, func() bool {
		found, _ := Find(s, nobody, name)
		return found != here
	})
}
