package ops

// Arity: P2.2.
func Arity(op int) int {
	switch {
	case add <= op && op <= le:
		return 2
	case neg <= op && op <= inv:
		return 1
	}
	return 0
}

// Sign: P2.2.
func Sign(op int) string {
	switch op {
	case add:
		return "+"
	case sub:
		fallthrough
	case neg:
		return "-"
	case mul:
		return "*"
	case div:
		return "/"
	case rem:
		return "%"
	case and:
		return "&"
	case or:
		return "|"
	case xor:
		return "^"
	case shl:
		return "<<"
	case shr:
		return ">>"
	case eq:
		return "=="
	case ne:
		return "!="
	case lt:
		return "<"
	case le:
		return "<="
	case not:
		return "!"
	case inv:
		return "~"
	}
	return ""
}

// BySign: P2.2.
func BySign(sign string, arity int) (int, bool) {
	for op := add; op <= inv; op++ {
		if Sign(op) == sign && Arity(op) == arity {
			return op, true
		}
	}
	return 0, false
}
