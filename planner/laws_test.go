package planner_test

import (
	"fmt"
	"math/rand/v2"
	"slices"
	"strings"
	"testing"

	"lattice/api"
	"lattice/graph"
	"lattice/match"
	"lattice/plan"
	"lattice/planner"
	"lattice/sema"
	"lattice/stats"
	"lattice/syntax"
	"lattice/value"
)

// P15.1 to P15.4, by chance: all calls against the chapter's words, and what is found by the plans that are chosen against what layer 8 finds.

type chance struct{ *rand.Rand }

func of[T any](c chance, l ...T) T { return l[c.IntN(len(l))] }

// sample is a clause, on a graph, for a row, with some counts.
type sample struct {
	words
	text  string
	graph *graph.Graph
	place api.Place
}

func (s sample) String() string {
	return fmt.Sprintf("%s with %v by %v", s.text, s.columns, s.counts)
}

// graph has some nodes and relationships.
func (c chance) graph() *graph.Graph {
	g, _ := graph.Make(api.Graph{})
	props := func() (l []api.Prop) {
		for _, key := range []string{"k", "l"} {
			if c.IntN(4) > 0 {
				l = append(l, api.Prop{Key: key, Value: value.Int(c.Int64N(2))})
			}
		}
		return l
	}
	nodes := 2 + c.Int64N(4)
	for range nodes {
		g.AddNode(of(c, nil, []string{"A"}, []string{"B"}, []string{"A", "B"}), props())
	}
	for range c.IntN(8) {
		g.AddRel(c.Int64N(nodes), c.Int64N(nodes), of(c, "T", "T", "U"), props())
	}
	return g
}

// number is a count: mostly a small one, which many are alike.
func (c chance) number() int64 {
	switch c.IntN(12) {
	case 0:
		return of(c, most, most-1, most+1, greatest, most/2, lowest, -1)
	case 1:
		return 1 << c.IntN(63)
	case 2:
		return 0
	}
	return c.Int64N(of[int64](c, 4, 12, 1000))
}

// counts are the graph's, or others, that do not go with each other.
func (c chance) counts(g *graph.Graph) (s api.Stats) {
	if c.IntN(3) == 0 {
		s, no := stats.Count(g.Tell())
		if no != api.OK {
			panic(no)
		}
		return s
	}
	s.Nodes, s.Rels = c.number(), c.number()
	for range c.IntN(5) {
		s.Labels = append(s.Labels, api.LabelCount{Label: of(c, "A", "B"), Nodes: c.number()})
		s.Types = append(s.Types, api.TypeCount{Type: of(c, "T", "U"), Rels: c.number()})
	}
	for range c.IntN(12) {
		s.Ends = append(s.Ends, api.EndCount{Type: of(c, "T", "U"), Label: of(c, "A", "B"), Out: c.IntN(2) == 0, Rels: c.number()})
		s.Keys = append(s.Keys, api.KeyCount{Label: of(c, "A", "B"), Key: of(c, "k", "l"), Nodes: c.number(), Values: c.number()})
	}
	return s
}

// sample is of a text that mostly means something; those that don't are none.
func (c chance) sample() (s sample, is bool) {
	named := []string{"x"}
	name := func(names ...string) string {
		named = append(named, of(c, names...))
		return named[len(named)-1]
	}
	node := func() string {
		props := of(c, "", "", "", " {k: 1}", " {l: 0, k: 1}", " {k: x.k}", " {}", " {k: $p}")
		if c.IntN(40) == 0 {
			props = " {k: 1 / 0}"
		}
		return "(" + name("a", "a", "b", "c", "x", "") + of(c, "", "", ":A", ":B", ":B:A", ":A:A") + props + ")"
	}
	rels := 0
	rel := func() string {
		rels++
		return fmt.Sprintf(of(c, "-[%s%s]->", "<-[%s%s]-", "-[%s%s]-"), name("", string(rune('q'+rels))), of(c, "", "", ":T", ":T|U", ":U|U", " {k: 1}"))
	}
	s.text = of(c, "MATCH ", "MATCH ", "OPTIONAL MATCH ") + node()
	for range c.IntN(4) {
		s.text += of(c, rel(), rel(), ", ") + node()
	}
	named = slices.DeleteFunc(named, func(s string) bool { return s == "" })
	for i := range c.IntN(4) {
		n, m := of(c, named...), of(c, named...)
		s.text += []string{" WHERE ", " AND "}[min(i, 1)] + of(c, n+".k = 1", n+".k = "+m+".l", n+" <> "+m, n+":B OR "+n+".k = 0", "true", n+".l IS NULL OR "+n+".l < 2", "NOT "+n+":B", n+".k = 1", "1 / (id("+n+") - 2) = 0 OR true", n+".k + 1 > 1", "$p IS NOT NULL")
	}
	q, _, no := syntax.Parse(s.text + " RETURN 1")
	if no != api.OK {
		panic(s.text)
	}
	s.clause, s.graph = q.Clauses[0], c.graph()
	s.counts = c.counts(s.graph)
	s.place = api.Place{Columns: []string{"x"}, Row: []api.Value{of(c, value.Null(), api.Value{Kind: api.ValueNode, Int: c.Int64N(6)}, api.Value{Kind: api.ValueNode})}, Params: []api.Param{{Name: "p", Value: of(c, value.Int(1), value.Null())}}}
	if c.IntN(8) == 0 {
		s.place.Columns, s.place.Row = nil, nil
	}
	s.columns, no = match.Kinds(s.graph, s.place, s.clause)
	return s, no == api.OK
}

// plan is some plan of a sample's clause.
func (c chance) plan(t *testing.T, s sample) []api.Step {
	t.Helper()
	var picks []int
	for range c.IntN(16) {
		picks = append(picks, c.IntN(400)-200)
	}
	l, no := plan.Pick(s.clause, s.columns, picks...)
	if no != api.OK {
		t.Fatal(s, no)
	}
	return l
}

// enough holds that there was enough of each sort.
func enough(t *testing.T, n map[string]int, least int, names string) {
	t.Helper()
	for _, name := range strings.Fields(names) {
		if n[name] < least {
			t.Error(name, n[name])
		}
	}
}

// Rows, Cost, Text.
func TestReckonedOfChance(t *testing.T) {
	c, n := chance{rand.New(rand.NewPCG(15, 1))}, map[string]int{}
	for range 4000 {
		s, is := c.sample()
		if !is {
			continue
		}
		l := c.plan(t, s)
		want := s.reckoned(l)
		if got := reckoned(s.clause, s.columns, s.counts, l); got != want {
			t.Fatalf("%v: %s: %s, not %s", s, line(l), got, want)
		}
		rows, _ := s.sum(l)
		var text strings.Builder
		for i, step := range l {
			text.WriteString(strings.TrimSpace(plan.Text(step)) + " " + numbers(rows[i]) + "\n")
			n[strings.Fields(plan.Text(step))[0]]++
			if step.Kind == api.StepRel && s.farGiven(l[:i], step) {
				n["closed"]++
			}
		}
		if got := toldText(planner.Text(s.clause, s.columns, s.counts, l...)); got != text.String() {
			t.Fatalf("%v: %s, not %s", s, got, text.String())
		}
		if rows[len(rows)-1] == 0 {
			n["none"]++
		}
		if strings.HasSuffix(want, numbers(most)) {
			n["most"]++
		}
		if i := c.IntN(len(l)); reckoned(s.clause, s.columns, s.counts, l[:i]) != errPlan || reckoned(s.clause, s.columns, s.counts, append(l[:len(l):len(l)], l[i])) != errPlan {
			t.Fatalf("%v: a part of %s", s, line(l))
		}
	}
	enough(t, n, 100, "all label seek bound rel where closed none most")
}

// Greedy, Best.
func TestChosenOfChance(t *testing.T) {
	c, n := chance{rand.New(rand.NewPCG(15, 2))}, map[string]int{}
	for range 700 {
		s, is := c.sample()
		if !is {
			continue
		}
		greedy := line(s.greedy())
		if got := told(planner.Greedy(s.clause, s.columns, s.counts)); got != greedy {
			t.Fatalf("%v: greedy %s, not %s", s, got, greedy)
		}
		const may = 3000
		best, tries := s.best(may)
		want := map[int]string{0: greedy + " of some", 1 + c.IntN(4): greedy + " of some"}
		if tries < 0 {
			want[may] = greedy + " of some"
			n["exceeded"]++
		} else {
			all := line(best) + " of all"
			want = map[int]string{tries - 1: greedy + " of some", tries: all, tries + 1: all, may + c.IntN(api.MaxTries-may): all}
			n["all"]++
			if line(best) != greedy {
				n["better"]++
			}
		}
		for tried, want := range want {
			if got := toldBest(planner.Best(s.clause, s.columns, s.counts, tried)); got != want {
				t.Fatalf("%v in %d of %d: %s, not %s", s, tried, tries, got, want)
			}
		}
	}
	enough(t, n, 30, "exceeded all better")
}

// found is what is found as a text; or the error, any of layer 8 as one.
func found(rows [][]api.Value, no api.Errno) string {
	if no != api.OK {
		return "wrong"
	}
	var b strings.Builder
	for _, row := range rows {
		s, _ := value.Text(value.List(row...))
		b.WriteString(s)
	}
	return b.String()
}

// P15.4: plans that may be, whatever the counts are, and what they find; none costs less than the best one.
func TestWhatIsFound(t *testing.T) {
	c, n := chance{rand.New(rand.NewPCG(15, 3))}, map[string]int{}
	for range 1500 {
		s, is := c.sample()
		if !is {
			continue
		}
		rows, no := match.Find(s.graph, s.place, s.clause)
		want := found(rows, no)
		greedy, no := planner.Greedy(s.clause, s.columns, s.counts)
		best, all, not := planner.Best(s.clause, s.columns, s.counts, of(c, 0, 100, 3000, api.MaxTries))
		for _, l := range [][]api.Step{greedy, best} {
			if no != api.OK || not != api.OK || plan.Check(s.clause, s.columns, l...) != api.OK {
				t.Fatal(s, line(l), no, not)
			}
			if got := found(plan.Find(s.graph, s.place, s.clause, l...)); got != want {
				t.Fatalf("%v: %v by %s: %s, not %s", s, s.place.Row, line(l), got, want)
			}
		}
		cost, _ := planner.Cost(s.clause, s.columns, s.counts, best...)
		for range 10 {
			l := c.plan(t, s)
			other, no := planner.Cost(s.clause, s.columns, s.counts, l...)
			if no != api.OK || other < 0 || other > most || all && other < cost {
				t.Fatalf("%v: %s costs %d, %s %d", s, line(best), cost, line(l), other)
			}
			if all && other > cost {
				n["dearer"]++
			}
		}
		n[map[bool]string{true: "all", false: "some"}[all]]++
		n[map[bool]string{true: "nothing", false: "rows"}[want == ""]]++
		if want == "wrong" {
			n["wrong"]++
		}
	}
	enough(t, n, 50, "all some nothing rows wrong dearer")
}

// P15.4: what a plan costs does not fall when a step is added: the Plain plan's first steps are that of a clause of the first parts, and of the first conditions.
func TestCostsDoNotFall(t *testing.T) {
	c, n := chance{rand.New(rand.NewPCG(15, 4))}, 0
	for range 1500 {
		s, is := c.sample()
		if !is {
			continue
		}
		plain, _ := plan.Plain(s.clause, s.columns...)
		last := int64(0)
		for i, less := range shorter(s.clause) {
			l, no := plan.Plain(less, s.columns...)
			if no != api.OK || !slices.Equal(l, plain[:i+1]) {
				t.Fatal(s, line(l), no)
			}
			cost, no := planner.Cost(less, s.columns, s.counts, l...)
			if no != api.OK || cost < last || cost > most {
				t.Fatalf("%v: %s costs %d, behind %d", s, line(l), cost, last)
			}
			if cost > last {
				n++
			}
			last = cost
		}
	}
	if n < 1000 {
		t.Error(n)
	}
}

// shorter are clauses of a clause's first part, of its first two, and so on, and then with its first condition, and so on.
func shorter(c api.Clause) (l []api.Clause) {
	less := api.Clause{Kind: c.Kind, Optional: c.Optional}
	for _, p := range c.Paths {
		for j := range p.Nodes {
			with := less
			with.Paths = append(slices.Clone(less.Paths), api.Path{Nodes: p.Nodes[:j+1], Rels: p.Rels[:j]})
			l = append(l, with)
		}
		less = l[len(l)-1]
	}
	if !c.HasWhere {
		return l
	}
	less.HasWhere = true
	for i, e := range sema.Parts(c.Where) {
		if less.Where = e; i > 0 {
			less.Where = api.Expr{Kind: api.ExprBin, Name: "AND", Kids: []api.Expr{l[len(l)-1].Where, e}}
		}
		l = append(l, less)
	}
	return l
}
