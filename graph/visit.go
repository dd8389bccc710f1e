package graph

// visited tells for each of so many nodes whether there is a way to it from the node start; next tells where a node's edges lead.
func visited(nodes, start int, next func(node int) []int) []bool {
	seen := make([]bool, nodes)
	// A row of those to do for each node of the way that is being gone.
	var todo [][]int
	visit := func(node int) bool {
		if seen[node] {
			return false
		}
		seen[node] = true
		todo = append(todo, next(node))
		return true
	}
	visit(start)
search:
	for len(todo) > 0 {
		last := len(todo) - 1
		for k, node := range todo[last] {
			if visit(node) {
				// Only those behind it are left: begun anew, a row of many nodes would be gone over once for each of them.
				todo[last] = todo[last][k+1:]
				continue search
			}
		}
		todo = todo[:last]
	}
	return seen
}
