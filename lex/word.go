package lex

import (
	"strconv"

	"louver/api"
)

const (
	lineEnd     = 10
	commentSign = '#'
	longestMark = 2
)

// gap is how many bytes of blanks, or of one comment, the text begins with.
func gap(text string) int {
	if text[0] == commentSign {
		return run(text, isInLine)
	}
	return run(text, isBlank)
}

// first is the word that the text begins with, as if the text stood alone.
func first(text string) (Token, api.Errno) {
	switch c := text[0]; {
	case isLetter(c):
		return name(text[:run(text, isOfName)])
	case isDigit(c):
		return number(text[:run(text, isDigit)])
	}
	return mark(text)
}

func name(text string) (Token, api.Errno) {
	switch {
	case isKeyword(text):
		return Token{Kind: Keyword, Text: text}, api.OK
	case len(text) > api.MaxName:
		return Token{}, api.ErrLong
	}
	return Token{Kind: Name, Text: text}, api.OK
}

func number(digits string) (Token, api.Errno) {
	n, err := strconv.ParseInt(digits, 10, 64)
	if err != nil {
		return Token{}, api.ErrLong
	}
	return Token{Kind: Number, Text: digits, Value: n}, api.OK
}

// mark looks for longer marks first, since some of them begin with shorter ones.
func mark(text string) (Token, api.Errno) {
	for size := min(longestMark, len(text)); size > 0; size-- {
		if isMark(text[:size]) {
			return Token{Kind: Mark, Text: text[:size]}, api.OK
		}
	}
	return Token{}, api.ErrRune
}

// run is how many bytes of one sort the text begins with.
func run(text string, is func(byte) bool) int {
	for i := range len(text) {
		if !is(text[i]) {
			return i
		}
	}
	return len(text)
}

func isBlank(c byte) bool { return c == '\t' || c == lineEnd || c == '\r' || c == ' ' }

func isInLine(c byte) bool { return c != lineEnd }

func isLetter(c byte) bool { return 'a' <= c && c <= 'z' || c == '_' }

func isDigit(c byte) bool { return '0' <= c && c <= '9' }

func isOfName(c byte) bool { return isLetter(c) || isDigit(c) }

func isKeyword(text string) bool {
	switch text {
	case "principal", "global", "array", "channel", "func", "var", "if", "else", "while", "send", "return":
		return true
	}
	return false
}

func isMark(text string) bool {
	switch text {
	case "{", "}", "(", ")", "[", "]", ",", ";",
		"=", "==", "!=", "<", "<=",
		"+", "-", "*", "/", "%", "&", "|", "^", "<<", ">>", "!", "~":
		return true
	}
	return false
}
