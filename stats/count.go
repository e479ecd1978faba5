package stats

import (
	"cmp"
	"iter"
	"slices"
	"strings"

	"lattice/api"
	"lattice/graph"
	"lattice/value"
)

// Count tells a graph's counts; ErrArg of one that layer 5 refuses.
func Count(g api.Graph) (api.Stats, api.Errno) {
	if graph.Check(g) != api.OK {
		return api.Stats{}, api.ErrArg
	}
	return api.Stats{
		Nodes: int64(len(g.Nodes)), Rels: int64(len(g.Rels)),
		Labels: labelCounts(g), Types: typeCounts(g), Ends: endCounts(g), Keys: keyCounts(g),
	}, api.OK
}

// rows tells what was counted, in order. Counts stand under rows that have no numbers yet, which numbered puts in.
func rows[R comparable](counts map[R]int64, numbered func(R, int64) R, order func(R, R) int) []R {
	var out []R
	for r, n := range counts {
		out = append(out, numbered(r, n))
	}
	slices.SortFunc(out, order)
	return out
}

func labelCounts(g api.Graph) []api.LabelCount {
	counts := map[api.LabelCount]int64{}
	for _, n := range g.Nodes {
		for _, l := range n.Labels {
			counts[api.LabelCount{Label: l}]++
		}
	}
	numbered := func(r api.LabelCount, n int64) api.LabelCount {
		r.Nodes = n
		return r
	}
	return rows(counts, numbered, func(a, b api.LabelCount) int { return strings.Compare(a.Label, b.Label) })
}

func typeCounts(g api.Graph) []api.TypeCount {
	counts := map[api.TypeCount]int64{}
	for _, r := range g.Rels {
		counts[api.TypeCount{Type: r.Type}]++
	}
	numbered := func(r api.TypeCount, n int64) api.TypeCount {
		r.Rels = n
		return r
	}
	return rows(counts, numbered, func(a, b api.TypeCount) int { return strings.Compare(a.Type, b.Type) })
}

func endCounts(g api.Graph) []api.EndCount {
	counts := map[api.EndCount]int64{}
	for r, n := range ends(g) {
		counts[r] += n
	}
	numbered := func(r api.EndCount, n int64) api.EndCount {
		r.Rels = n
		return r
	}
	return rows(counts, numbered, func(a, b api.EndCount) int {
		return cmp.Or(strings.Compare(a.Type, b.Type), strings.Compare(a.Label, b.Label), falseAhead(a.Out, b.Out))
	})
}

func falseAhead(a, b bool) int {
	switch {
	case a == b:
		return 0
	case b:
		return -1
	}
	return 1
}

// joint is where relationships of a type begin (out) or end.
type joint struct {
	node int64
	kind string
	out  bool
}

// ends goes over the labels that nodes' relationships begin or end at, with how many of a type do so at one node. They are counted by nodes first: a node with many labels may have many relationships of one type.
func ends(g api.Graph) iter.Seq2[api.EndCount, int64] {
	joints := map[joint]int64{}
	for _, r := range g.Rels {
		joints[joint{node: r.From, kind: r.Type, out: true}]++
		joints[joint{node: r.To, kind: r.Type}]++
	}
	labels := map[int64][]string{}
	for _, n := range g.Nodes {
		labels[n.ID] = n.Labels
	}
	return func(yield func(api.EndCount, int64) bool) {
		for j, n := range joints {
			for _, l := range labels[j.node] {
				if !yield(api.EndCount{Type: j.kind, Label: l, Out: j.out}, n) {
					return
				}
			}
		}
	}
}

// worth is a value that nodes with a label have under a key; values are numbered as they come.
type worth struct {
	row   api.KeyCount
	value int
}

func keyCounts(g api.Graph) []api.KeyCount {
	worths := map[worth]int64{}
	number := numbering()
	for _, n := range g.Nodes {
		for _, p := range n.Props {
			v := number(p.Value)
			for _, l := range n.Labels {
				worths[worth{row: api.KeyCount{Label: l, Key: p.Key}, value: v}]++
			}
		}
	}
	nodes, values := map[api.KeyCount]int64{}, map[api.KeyCount]int64{}
	for w, n := range worths {
		nodes[w.row] += n
		values[w.row]++
	}
	numbered := func(r api.KeyCount, n int64) api.KeyCount {
		r.Nodes, r.Values = n, values[r]
		return r
	}
	return rows(nodes, numbered, func(a, b api.KeyCount) int {
		return cmp.Or(strings.Compare(a.Label, b.Label), strings.Compare(a.Key, b.Key))
	})
}

// numbering answers what tells one number of all values that are the same: those that have one text.
func numbering() func(api.Value) int {
	numbers := map[string]int{}
	return func(v api.Value) int {
		text, _ := value.Text(v)
		n, known := numbers[text]
		if !known {
			n = len(numbers)
			numbers[text] = n
		}
		return n
	}
}
