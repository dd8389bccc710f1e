package syntax_test

import (
	"math/rand"
	"slices"
	"strings"
	"sync"

	"louver/api"
	"louver/lex"
)

// grammar is the chapter's own, rule by rule: the tests take it as it stands there.
const grammar = `
source    : { principal } { global | array | channel | func }
principal : "principal" name { name } ";"
global    : "global" name label ";"
array     : "array" name number label ";"
channel   : "channel" name label ";"
label     : "{" { name } "}"
func      : "func" name label "(" [ name label { "," name label } ] ")" "(" [ label { "," label } ] ")"
            "{" { "var" name label ";" } { stmt } "return" [ e { "," e } ] ";" "}"
stmt      : name "=" e ";"  |  name "[" e "]" "=" e ";"  |  "send" name e ";"
          | [ name { "," name } "=" ] name "(" [ e { "," e } ] ")" ";"
          | "if" e "{" { stmt } "}" [ "else" "{" { stmt } "}" ]  |  "while" e "{" { stmt } "}"
e         : e1 { ( "==" | "!=" | "<" | "<=" ) e1 }
e1        : e2 { ( "|" | "^" ) e2 }
e2        : e3 { "&" e3 }
e3        : e4 { ( "<<" | ">>" ) e4 }
e4        : e5 { ( "+" | "-" ) e5 }
e5        : e6 { ( "*" | "/" | "%" ) e6 }
e6        : { "-" | "!" | "~" } e7
e7        : number  |  name  |  name "[" e "]"  |  "(" e ")"
`

// node is a piece of a rule: a quoted text, a rule's or kind's name, or pieces by the sign of what they make.
type node struct {
	sort  byte // " w | , { [
	text  string
	parts []*node
}

var rules = sync.OnceValue(readGrammar)

func readGrammar() map[string]*node {
	words := strings.Fields(grammar)
	all := map[string]*node{}
	for len(words) > 0 {
		name := words[0]
		if words[1] != ":" {
			panic("no rule: " + name)
		}
		all[name], words = alternatives(words[2:])
	}
	return all
}

func alternatives(words []string) (*node, []string) {
	all := &node{sort: '|'}
	for {
		var one *node
		one, words = row(words)
		all.parts = append(all.parts, one)
		if len(words) == 0 || words[0] != "|" {
			return all, words
		}
		words = words[1:]
	}
}

func row(words []string) (*node, []string) {
	all := &node{sort: ','}
	for len(words) > 0 && (len(words) == 1 || words[1] != ":") {
		w := words[0]
		switch w {
		case "|", "}", "]", ")":
			return all, words
		case "{", "[", "(":
			inner, rest := alternatives(words[1:])
			all.parts = append(all.parts, &node{sort: w[0], parts: []*node{inner}})
			words = rest[1:]
			continue
		}
		if w[0] == '"' {
			all.parts = append(all.parts, &node{sort: '"', text: strings.Trim(w, `"`)})
		} else {
			all.parts = append(all.parts, &node{sort: 'w', text: w})
		}
		words = words[1:]
	}
	return all, words
}

// match goes all ways through the grammar at once; far is the last place at which a word was wanted.
type match struct {
	rules map[string]*node
	words []lex.Token
	known map[spot][]int
	far   int
	taken map[int][]string // by a word's place, the rules that took it
}

type spot struct {
	n  *node
	at int
}

// ends are the places behind what a node may take from a place on.
func (m *match) ends(n *node, rule string, at int) []int {
	if l, ok := m.known[spot{n, at}]; ok {
		return l
	}
	l := m.find(n, rule, at)
	slices.Sort(l)
	l = slices.Compact(l)
	m.known[spot{n, at}] = l
	return l
}

func (m *match) find(n *node, rule string, at int) []int {
	switch {
	case n.sort == '"':
		return m.word(rule, at, func(w lex.Token) bool { return w.Text == n.text })
	case n.sort == 'w' && n.text == "name":
		return m.word(rule, at, func(w lex.Token) bool { return w.Kind == lex.Name })
	case n.sort == 'w' && n.text == "number":
		return m.word(rule, at, func(w lex.Token) bool { return w.Kind == lex.Number })
	case n.sort == 'w':
		return m.ends(m.rules[n.text], n.text, at)
	case n.sort == '|':
		var all []int
		for _, part := range n.parts {
			all = append(all, m.ends(part, rule, at)...)
		}
		return all
	case n.sort == ',':
		all := []int{at}
		for _, part := range n.parts {
			all = m.from(part, rule, all)
		}
		return all
	case n.sort == '(':
		return m.ends(n.parts[0], rule, at)
	case n.sort == '[':
		return append([]int{at}, m.ends(n.parts[0], rule, at)...)
	}
	all := []int{at}
	for next := all; len(next) > 0; {
		next = m.from(n.parts[0], rule, next)
		all = append(all, next...)
	}
	return all
}

func (m *match) from(n *node, rule string, places []int) []int {
	var all []int
	for _, at := range places {
		all = append(all, m.ends(n, rule, at)...)
	}
	slices.Sort(all)
	return slices.Compact(all)
}

func (m *match) word(rule string, at int, good func(lex.Token) bool) []int {
	m.far = max(m.far, at)
	if at == len(m.words) || !good(m.words[at]) {
		return nil
	}
	m.taken[at] = append(m.taken[at], rule)
	return []int{at + 1}
}

// modelFault is the fault of a text by the grammar from a rule on, and by the chapter's words on the other errors.
func modelFault(text, rule string) api.Fault {
	words, at, err := lex.Scan(text)
	if err != api.OK {
		return fault(err, at)
	}
	m := &match{rules: rules(), words: words, known: map[spot][]int{}, taken: map[int][]string{}}
	whole := slices.Contains(m.ends(m.rules[rule], rule, 0), len(words))
	if whole {
		m.far = len(words)
	}
	if i, err := m.other(); err != api.OK {
		return fault(err, words[i].At)
	}
	switch {
	case whole:
		return api.Fault{}
	case m.far == len(words):
		return fault(api.ErrSyntax, len(text))
	}
	return fault(api.ErrSyntax, words[m.far].At)
}

// other is the first fault that is none of the grammar's, among the words that it takes.
func (m *match) other() (int, api.Errno) {
	principals := map[string]bool{}
	count, blocks, brackets := 0, 0, 0
	for i := range m.far {
		w := m.words[i]
		by := func(rule, text string) bool { return w.Text == text && slices.Contains(m.taken[i], rule) }
		switch {
		case w.Kind == lex.Name && slices.Contains(m.taken[i], "principal"):
			if count++; count > 64 {
				return i, api.ErrMany
			}
			principals[w.Text] = true
		case w.Kind == lex.Name && slices.Contains(m.taken[i], "label"):
			if !principals[w.Text] {
				return i, api.ErrPrincipal
			}
		case by("stmt", "{"):
			if blocks++; blocks > 12 {
				return i, api.ErrDeep
			}
		case by("stmt", "}"):
			blocks--
		case by("e7", "("), by("e7", "["):
			if brackets++; brackets > 12 {
				return i, api.ErrDeep
			}
		case by("e7", ")"), by("e7", "]"):
			brackets--
		}
	}
	return 0, api.OK
}

// derive makes words by the grammar, by chance.
type derive struct {
	r     *rand.Rand
	rules map[string]*node
	left  int // how many words more it may be lavish with
}

func (d *derive) words(n *node) []string {
	if n.sort == '"' || n.sort == 'w' && d.rules[n.text] == nil {
		d.left--
	}
	var all []string
	switch {
	case n.sort == '"':
		return []string{n.text}
	case n.text == "name":
		return []string{[]string{"a", "b", "c", "x_1"}[d.r.Intn(4)]}
	case n.text == "number":
		return []string{[]string{"0", "7", "9223372036854775807"}[d.r.Intn(3)]}
	case n.sort == 'w':
		return d.words(d.rules[n.text])
	case n.sort == '|':
		return d.words(n.parts[d.choice(n)])
	case n.sort == ',', n.sort == '(':
		for _, part := range n.parts {
			all = append(all, d.words(part)...)
		}
	default:
		for d.left > 0 && d.r.Intn(3) == 0 {
			all = append(all, d.words(n.parts[0])...)
			if n.sort == '[' {
				break
			}
		}
	}
	return all
}

// choice takes the first alternative, which is a short one, when it is time to end.
func (d *derive) choice(n *node) int {
	if d.left <= 0 {
		return 0
	}
	return d.r.Intn(len(n.parts))
}

// randomWords are words of a rule, most often with a few of them changed.
func randomWords(r *rand.Rand, rule string) []string {
	all := rules()
	d := &derive{r: r, rules: all, left: 10 + r.Intn(80)}
	words := d.words(all[rule])
	for d.left > 0 && r.Intn(4) > 0 && rule == "source" {
		words = append(words, d.words(all[[]string{"func", "global", "array", "channel"}[r.Intn(4)]])...)
	}
	if rule == "source" && r.Intn(3) > 0 {
		words = append([]string{"principal", "a", "b", "c", "x_1", ";"}, words...)
	}
	for range r.Intn(4) {
		words = changed(r, words)
	}
	return words
}

func changed(r *rand.Rand, words []string) []string {
	i := r.Intn(len(words) + 1)
	j := min(len(words), i+r.Intn(4))
	switch r.Intn(4) {
	case 0:
		return slices.Delete(words, i, min(i+1, len(words)))
	case 1:
		return slices.Insert(words, i, anyWord(r))
	case 2:
		return slices.Replace(words, i, j, anyWord(r))
	}
	return slices.Insert(words, i, slices.Repeat(slices.Clone(words[i:j]), r.Intn(16))...)
}

func anyWord(r *rand.Rand) string {
	all := strings.Fields("principal global array channel func var if else while send return { } ( ) [ ] , ; = == != < <= + - * / % & | ^ << >> ! ~ a b c x_1 q 0 12")
	return all[r.Intn(len(all))]
}

// spaced lays blanks, line ends and comments between words, at least one.
func spaced(r *rand.Rand, words []string) string {
	var b strings.Builder
	b.WriteString(gap(r, ""))
	for i, w := range words {
		if i > 0 {
			b.WriteString(gap(r, " \n\t\r"))
		}
		b.WriteString(w)
	}
	b.WriteString(gap(r, ""))
	return b.String()
}

func gap(r *rand.Rand, first string) string {
	var all string
	if first != "" {
		all = first[:1+r.Intn(len(first))]
	}
	for r.Intn(4) == 0 {
		all += []string{" ", "\n", "\t", "\r", "#\n", "# } a > ;#\n"}[r.Intn(6)]
	}
	return all
}

func fault(err api.Errno, at int) api.Fault { return api.Fault{Err: err, Func: -1, At: at} }
