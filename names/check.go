package names

import "louver/api"

// check looks for errors of one sort.
type check func() api.Errno

// first asks one check behind the other, since each may lean on what those ahead of it found in order.
func first(row ...check) api.Errno {
	for _, c := range row {
		if err := c(); err != api.OK {
			return err
		}
	}
	return api.OK
}

// unless is the error of what is not so.
func unless(so bool, err api.Errno) api.Errno {
	if so {
		return api.OK
	}
	return err
}

// newName checks a name where it is declared.
func newName(name string, isTaken func() bool) check {
	return func() api.Errno {
		if !Name(name) {
			return api.ErrArg
		}
		return unless(!isTaken(), api.ErrTwice)
	}
}

func length(n int) check {
	return func() api.Errno { return unless(1 <= n && n <= api.MaxLen, api.ErrArg) }
}

func labels(s api.Source, row ...api.Label) check {
	inOrder := func(l api.Label) bool { return l>>len(s.Principals) == 0 }
	return func() api.Errno { return unless(all(row, inOrder), api.ErrPrincipal) }
}
