package stats_test

import (
	"math/rand/v2"
	"slices"
	"testing"

	"lattice/api"
	"lattice/stats"
)

// P11.6: what follows.

// TestCountsHangTogether: the Rels of all Types are Rels together; each of Labels is at most Nodes; a key's Values are at most its Nodes, and those at most its label's.
func TestCountsHangTogether(t *testing.T) {
	r := rand.New(rand.NewPCG(11, 4))
	for range 3000 {
		s := counted(t, chance(r))
		sum := int64(0)
		for _, x := range s.Types {
			sum += x.Rels
		}
		is(t, "the Rels of all Types", sum, s.Rels)
		for _, x := range s.Labels {
			is(t, "a label above Nodes", x.Nodes > s.Nodes || x.Nodes < 1, false)
		}
		for _, x := range s.Keys {
			is(t, "Values above Nodes", x.Values > x.Nodes || x.Values < 1, false)
			is(t, "Nodes above the label's", x.Nodes > stats.Labelled(s, x.Label), false)
		}
		for _, x := range s.Ends {
			is(t, "ends above the type's", x.Rels > stats.Typed(s, x.Type) || x.Rels < 1, false)
			is(t, "an end", stats.Ended(s, x.Type, x.Label, x.Out), x.Rels)
		}
		rise(t, s)
	}
}

// rise holds that rows rise, each once.
func rise(t *testing.T, s api.Stats) {
	t.Helper()
	for i := 1; i < len(s.Labels); i++ {
		is(t, "labels rise", s.Labels[i-1].Label < s.Labels[i].Label, true)
	}
	for i := 1; i < len(s.Types); i++ {
		is(t, "types rise", s.Types[i-1].Type < s.Types[i].Type, true)
	}
	for i := 1; i < len(s.Ends); i++ {
		a, b := s.Ends[i-1], s.Ends[i]
		is(t, "ends rise", a.Type < b.Type || a.Type == b.Type && (a.Label < b.Label || a.Label == b.Label && !a.Out && b.Out), true)
	}
	for i := 1; i < len(s.Keys); i++ {
		a, b := s.Keys[i-1], s.Keys[i]
		is(t, "keys rise", a.Label < b.Label || a.Label == b.Label && a.Key < b.Key, true)
	}
}

// renumbered is a graph whose nodes and relationships have other numbers, and stand in another order.
func renumbered(r *rand.Rand, g api.Graph) api.Graph {
	out := api.Graph{NextNode: most, NextRel: most}
	number := map[int64]int64{}
	taken := map[int64]struct{}{}
	free := func() int64 {
		for {
			n := r.Int64N(most)
			if _, is := taken[n]; !is {
				taken[n] = struct{}{}
				return n
			}
		}
	}
	for _, n := range g.Nodes {
		number[n.ID] = free()
		n.ID = number[n.ID]
		out.Nodes = append(out.Nodes, n)
	}
	for _, x := range g.Rels {
		x.ID, x.From, x.To = free(), number[x.From], number[x.To]
		out.Rels = append(out.Rels, x)
	}
	slices.SortFunc(out.Nodes, func(a, b api.Node) int { return int(min(max(a.ID-b.ID, -1), 1)) })
	slices.SortFunc(out.Rels, func(a, b api.Rel) int { return int(min(max(a.ID-b.ID, -1), 1)) })
	return out
}

func TestCountsHangOnNoNumbers(t *testing.T) {
	r := rand.New(rand.NewPCG(11, 5))
	for range 1000 {
		g := chance(r)
		a, b := counted(t, g), counted(t, renumbered(r, g))
		if !alike(a, b) || !stats.Same(a, b) || stats.Text(a) != stats.Text(b) {
			t.Fatalf("%v\n%v\n%v", g, a, b)
		}
	}
}

// TestReckonedIsWithinBounds: from 0 to 2^62, whatever the counts are.
func TestReckonedIsWithinBounds(t *testing.T) {
	r := rand.New(rand.NewPCG(11, 6))
	for range 4000 {
		s, dir := chanceCounts(r), pick(r, -1<<63, -1, 0, 1, 1<<63-1)
		a, b := pick(r, "", "A", "B", "C", "D"), pick(r, "", "A", "B", "C", "D")
		x, y := pick(r, edges()...), pick(r, edges()...)
		for i, n := range []int64{
			stats.All(s), stats.Labelled(s), stats.Labelled(s, a, b), stats.Typed(s), stats.Typed(s, a, b), stats.Ended(s, a, b, true), stats.Ended(s, a, b, false),
			stats.Seek(s, a, b), stats.Fan(s, dir), stats.Fan(s, dir, a, b), stats.From(s, a, dir), stats.From(s, a, dir, a, b),
			stats.Times(x, y), stats.Plus(x, y, x), stats.Share(x, y),
		} {
			if n < 0 || n > most {
				t.Fatal(i, n, s)
			}
		}
	}
}
