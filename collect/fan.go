package collect

import (
	"iter"
	"slices"

	"heliograph/api"
	"heliograph/node"
)

// Fan are those who are told of a node, each once: its subscribers, and those of the collections above it, whose subscriptions reach so far.
func Fan(nodes []api.Node, name string) []string {
	at := slices.IndexFunc(nodes, func(n api.Node) bool { return n.Name == name })
	if at < 0 {
		return nil
	}
	n := nodes[at]
	told := reached(n, 0)
	for steps, collection := range over(nodes, n) {
		told = append(told, reached(collection, steps)...)
	}
	// Ahead of asking who may read, so that each is asked for once.
	slices.Sort(told)
	told = slices.Compact(told)
	return slices.DeleteFunc(told, func(jid string) bool { return !node.Reads(n, jid) })
}

// reached are those whose subscriptions of a node reach so many steps down; what stands at the node itself all of them reach.
func reached(n api.Node, steps int) []string {
	var l []string
	for _, s := range n.Subs {
		if !s.Pending && (steps == 0 || s.Depth == 0 || s.Depth >= steps) {
			l = append(l, s.Jid)
		}
	}
	return l
}

// over yields the nodes above one, the nearest first, with how many steps each is above it. Each that is found is struck off, so that none comes twice.
func over(nodes []api.Node, n api.Node) iter.Seq2[int, api.Node] {
	return func(yield func(int, api.Node) bool) {
		left := places(nodes)
		parent := n.Parent
		for steps := 1; steps <= len(nodes); steps++ {
			at, ok := left[parent]
			if !ok || !yield(steps, nodes[at]) {
				return
			}
			delete(left, parent)
			parent = nodes[at].Parent
		}
	}
}

// places are where the first node of each name stands. The empty name is none: a Parent that is empty leads nowhere.
func places(nodes []api.Node) map[string]int {
	m := map[string]int{}
	for i, n := range nodes {
		if _, has := m[n.Name]; !has && n.Name != "" {
			m[n.Name] = i
		}
	}
	return m
}
