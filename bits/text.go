package bits

import (
	"slices"
	"strconv"
	"strings"

	"louver/api"
)

// blanks are spelt out, since the library's own notion of white space has more of them.
const blanks = "\t "

// Text: P1.3.
func Text(a api.Label, names []string) string {
	good := goodNames(names)
	var b strings.Builder
	b.WriteByte('{')
	for k := range Each(a) {
		if b.Len() > 1 {
			b.WriteByte(' ')
		}
		b.WriteString(item(k, good))
	}
	b.WriteByte('}')
	return b.String()
}

// Parse: P1.4.
func Parse(s string, names []string) (api.Label, api.Errno) {
	rest, opened := strings.CutPrefix(strings.Trim(s, blanks), "{")
	rest, closed := strings.CutSuffix(rest, "}")
	if !opened || !closed {
		return 0, api.ErrPrincipal
	}
	good := goodNames(names)
	var all api.Label
	for x := range strings.FieldsFuncSeq(rest, isBlank) {
		k, ok := place(x, good)
		if !ok {
			return 0, api.ErrPrincipal
		}
		all = Join(all, Of(k))
	}
	return all, api.OK
}

// goodNames has an entry for each principal, an empty one where no good name stands: no item of a text is empty, so none is taken for it.
func goodNames(names []string) []string {
	good := make([]string, api.MaxPrincipals)
	for k := range min(len(names), len(good)) {
		// A well-formed name that stood earlier is among the good ones, so these are all that need to be looked at.
		if wellFormed(names[k]) && !slices.Contains(good[:k], names[k]) {
			good[k] = names[k]
		}
	}
	return good
}

func wellFormed(name string) bool {
	if len(name) < 1 || len(name) > api.MaxName || isDigit(name[0]) {
		return false
	}
	for i := range len(name) {
		if !isLetter(name[i]) && !isDigit(name[i]) {
			return false
		}
	}
	return true
}

func isLetter(c byte) bool { return 'a' <= c && c <= 'z' || c == '_' }

func isDigit(c byte) bool { return '0' <= c && c <= '9' }

func isBlank(r rune) bool { return strings.ContainsRune(blanks, r) }

func item(k int, good []string) string {
	if good[k] != "" {
		return good[k]
	}
	return numbered(k)
}

func numbered(k int) string { return "#" + strconv.Itoa(k) }

func place(x string, good []string) (int, bool) {
	if k := slices.Index(good, x); k >= 0 {
		return k, true
	}
	digits, marked := strings.CutPrefix(x, "#")
	k, err := strconv.Atoi(digits)
	if !marked || err != nil || k < 0 || k >= api.MaxPrincipals {
		return 0, false
	}
	// Atoi takes signs and noughts ahead too: only the one spelling that Text writes counts.
	return k, numbered(k) == x
}
