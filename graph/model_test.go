package graph_test

import (
	"louver/api"
)

// modelEdge tells whether there is an edge from a to b, as the chapter says it, with DOC.md's instructions by their numbers: 43 jump, 44 zero, 46 return.
func modelEdge(code []api.Instr, a, b int) bool {
	n := len(code)
	if a < 0 || a >= n || b < 0 || b > n {
		return false
	}
	target := b < n && code[a].A == int64(b)
	behind := b < n && b == a+1
	switch code[a].Op {
	case 43:
		return target
	case 44:
		return target || behind
	case 46:
		return b == n
	}
	return behind
}

func modelNext(code []api.Instr, a int) []int {
	var l []int
	for b := range len(code) + 1 {
		if modelEdge(code, a, b) {
			l = append(l, b)
		}
	}
	return l
}

func modelAhead(code []api.Instr, b int) []int {
	var l []int
	for a := range len(code) + 1 {
		if modelEdge(code, a, b) {
			l = append(l, a)
		}
	}
	return l
}

// modelWays tells of each two nodes whether there is a way from the first to the second: node by node, what lies between is let be one more.
func modelWays(code []api.Instr) [][]bool {
	n := len(code) + 1
	ways := make([][]bool, n)
	for a := range ways {
		ways[a] = make([]bool, n)
		for b := range n {
			ways[a][b] = a == b || modelEdge(code, a, b)
		}
	}
	for between := range n {
		for a := range n {
			for b := range n {
				ways[a][b] = ways[a][b] || ways[a][between] && ways[between][b]
			}
		}
	}
	return ways
}

func modelExit(ways [][]bool) (int, bool) {
	x := len(ways) - 1
	for a := range x {
		if !ways[a][x] {
			return a, true
		}
	}
	return 0, false
}

type edge struct{ from, to int }

func modelEdges(code []api.Instr) []edge {
	var l []edge
	for a := range len(code) + 1 {
		for b := range len(code) + 1 {
			if modelEdge(code, a, b) {
				l = append(l, edge{a, b})
			}
		}
	}
	return l
}
