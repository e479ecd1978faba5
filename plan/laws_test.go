package plan_test

import (
	"math/rand/v2"
	"slices"
	"strings"
	"testing"

	"lattice/api"
	"lattice/graph"
	"lattice/match"
	"lattice/plan"
	"lattice/sema"
	"lattice/syntax"
	"lattice/value"
)

// P13.1 to P13.4, by chance: plans against the chapter's words asked one by one, and what they find against what layer 8 finds.

type chance struct{ *rand.Rand }

func of[T any](c chance, l ...T) T { return l[c.IntN(len(l))] }

// graph is small, with numbers left out.
func (c chance) graph() *graph.Graph {
	var a api.Graph
	props := func(keys ...string) (l []api.Prop) {
		for _, k := range keys {
			if c.IntN(3) > 0 {
				l = append(l, api.Prop{Key: k, Value: value.Int(1 + c.Int64N(2))})
			}
		}
		return l
	}
	for range 1 + c.IntN(5) {
		a.NextNode += c.Int64N(2)
		a.Nodes = append(a.Nodes, api.Node{ID: a.NextNode, Labels: of(c, nil, []string{"A"}, []string{"B"}, []string{"A", "B"}), Props: props("k", "l")})
		a.NextNode++
	}
	for range c.IntN(9) {
		a.NextRel += c.Int64N(2)
		a.Rels = append(a.Rels, api.Rel{ID: a.NextRel, From: of(c, a.Nodes...).ID, To: of(c, a.Nodes...).ID, Type: of(c, "T", "U"), Props: props("w")})
		a.NextRel++
	}
	g, no := graph.Make(a)
	if no != api.OK {
		panic(no)
	}
	return g
}

func (c chance) place() api.Place {
	var p api.Place
	for _, name := range []string{"x", "y", "x", ""}[:c.IntN(5)] {
		p.Columns = append(p.Columns, name)
		p.Row = append(p.Row, of(c, node(c.Int64N(5)), node(c.Int64N(5)), node(c.Int64N(5)), value.Null(), rel(c.Int64N(5)), value.Int(1), value.List(value.Int(2))))
	}
	p.Params = []api.Param{{Name: "p", Value: of(c, value.Int(1), value.Null(), value.Bool(true))}}
	return p
}

func (c chance) props(key string, columns []string) string {
	v := of(c, append([]string{"1", "2", "1", "$p", "null"}, columns...)...)
	if slices.Contains(columns, v) {
		v += "." + key
	}
	if c.IntN(30) == 0 {
		v = of(c, "1 / 0", "1 + 'x'")
	}
	return of(c, "", "", "", "", "", "", "", " {"+key+": "+v+"}", " {"+key+": "+v+"}", " {"+key+": 1, l: 1}", " {}")
}

// clause is told in a text that mostly means something.
func (c chance) clause(columns ...string) api.Clause {
	columns = slices.DeleteFunc(slices.Clone(columns), func(s string) bool { return s == "" })
	var nodes, rels []string
	node := func() string {
		nodes = append(nodes, of(c, append([]string{"", "a", "a", "b", "b", "c", "c", "d"}, columns...)...))
		return "(" + nodes[len(nodes)-1] + of(c, "", "", "", "", ":A", ":B", ":B:A", ":A:A") + c.props("k", columns) + ")"
	}
	rel := func() string {
		name := of(c, "", []string{"r", "s", "t", "u", "v"}[len(rels)])
		rels = append(rels, name)
		in := name + of(c, "", "", "", ":T", ":U", ":T|U") + c.props("w", columns)
		return of(c, "-["+in+"]->", "<-["+in+"]-", "-["+in+"]-")
	}
	text, left := of(c, "MATCH ", "MATCH ", "OPTIONAL MATCH "), 1+c.IntN(5)
	for i := 0; left > 0; i++ {
		if i > 0 {
			text += ", "
		}
		text += node()
		for left--; left > 0 && c.IntN(3) > 0; left-- {
			text += rel() + node()
		}
	}
	names := slices.DeleteFunc(slices.Concat(nodes, nodes, rels, columns), func(s string) bool { return s == "" })
	for i := 0; len(names) > 0 && c.IntN(5) > 2; i++ {
		text += []string{" WHERE ", " AND ", " AND ", " AND ", " AND ", " AND ", " AND ", " AND ", " AND "}[min(i, 8)]
		text += c.condition(of(c, names...), of(c, names...))
	}
	q, at, no := syntax.Parse(text)
	if no != api.OK {
		panic(text[at:])
	}
	return q.Clauses[0]
}

// condition is mostly one that may be asked early.
func (c chance) condition(n, m string) string {
	if c.IntN(6) == 0 {
		return of(c, "1 / (id("+n+") - 1) = 1", "id("+n+") < id("+m+")", n, "$p", "CASE WHEN id("+n+") = 1 THEN 7 ELSE true END", "1 / 0 = 1", n+".k + 0 = 1")
	}
	return of(c, n+".k = 1", n+".k = "+m+".k", n+" <> "+m, n+" = "+m, n+":A", n+".k IS NULL OR "+m+".k < 2", "true", "NOT "+n+":B", n+".w = $p", n+".k IN [1, null]")
}

func textOf(c api.Clause) string {
	s, _ := syntax.Print(api.Query{Clauses: []api.Clause{c}})
	return s
}

// expected is what a plan of the clause is to find.
func expected(g *graph.Graph, p api.Place, c api.Clause) string {
	l, no := match.Find(g, p, c)
	if no != api.OK && no != api.ErrNil && no != api.ErrArg {
		no = api.ErrWrong
	}
	return rows(l, no)
}

func (c chance) picks() (l []int) {
	for range c.IntN(20) {
		l = append(l, c.IntN(200)-100)
	}
	return l
}

func TestPlansOfChance(t *testing.T) {
	c := chance{rand.New(rand.NewPCG(13, 1))}
	counts := map[string]int{}
	for range 8000 {
		g, p := c.graph(), c.place()
		x := c.clause(p.Columns...)
		want := expected(g, p, x)
		v, no := match.Kinds(g, p, x)
		if no != api.OK {
			if got := rows(plan.Find(g, p, x)); got != errArg {
				t.Fatalf("%v: %s: %s", p, textOf(x), got)
			}
			counts["refused"]++
			continue
		}
		first, no := plan.Plain(x, v...)
		if no != api.OK {
			t.Fatalf("%s with %v: %v", textOf(x), v, no)
		}
		for i := range 4 {
			if i > 0 {
				first, no = plan.Pick(x, v, c.picks()...)
			}
			if r, _ := rulesOf(x, v, first); no != api.OK || !r.may() {
				t.Fatalf("%s with %v: %s: %v", textOf(x), v, line(first), no)
			}
			if got := rows(plan.Find(g, p, x, first...)); got != want {
				t.Fatalf("%v: %s by %s: %s, not %s", p, textOf(x), line(first), got, want)
			}
		}
		counts[map[bool]string{true: "nothing", false: "rows"}[want == ""]]++
		if want == errWrong {
			counts["wrong"]++
		}
		if x.Optional && strings.HasSuffix(want, "null;") {
			counts["optional"]++
		}
		if strings.Count(want, ";") > 1 && len(x.Paths) > 1 {
			counts["paths"]++
		}
		if x.HasWhere && strings.Count(want, ";") > 1 {
			counts["where"]++
		}
		counts[map[bool]string{true: "early", false: "late"}[strings.Contains(line(first), "where") && !strings.HasSuffix(line(first), "where 0")]]++
	}
	for _, name := range []string{"refused", "nothing", "rows", "wrong", "optional", "paths", "where", "early", "late"} {
		if counts[name] < 100 {
			t.Error(name, counts[name])
		}
	}
}

// spoil changes a plan here and there.
func (c chance) spoil(r rules) []api.Step {
	l, all := slices.Clone(r.steps), r.thought
	for range c.IntN(3) {
		i := c.IntN(len(l) + 1)
		switch c.IntN(6) {
		case 0:
			l = slices.Insert(l, i, of(c, all...))
		case 1:
			l = append(l[:i], l[min(i+1, len(l)):]...)
		case 2:
			if j := c.IntN(len(l) + 1); i < len(l) && j < len(l) {
				l[i], l[j] = l[j], l[i]
			}
		case 3:
			if i < len(l) {
				l[i] = of(c, all...)
			}
		case 4:
			if i < len(l) {
				l[i].Kind = api.StepKind(c.IntN(6))
			}
		case 5:
			l = l[:i]
		}
	}
	return l
}

func TestStepsOfChance(t *testing.T) {
	c := chance{rand.New(rand.NewPCG(13, 2))}
	counts := map[string]int{}
	for range 5000 {
		p := c.place()
		x := c.clause(p.Columns...)
		g, _ := graph.Make(api.Graph{})
		v, no := match.Kinds(g, p, x)
		if no != api.OK {
			continue
		}
		l, _ := plan.Pick(x, v, c.picks()...)
		r, _ := rulesOf(x, v, l)
		r.steps = c.spoil(r)
		want := api.ErrPlan
		if r.may() {
			want = api.OK
		}
		if no := plan.Check(x, v, r.steps...); no != want {
			t.Fatalf("%s with %v: %s: %v", textOf(x), v, line(r.steps), no)
		}
		if got := rows(plan.Find(g, p, x, r.steps...)); (got == errPlan) != (want == api.ErrPlan) {
			t.Fatalf("%s with %v: %s: %s", textOf(x), v, line(r.steps), got)
		}
		next := errPlan
		if r.draft() {
			next = line(r.choices())
		}
		if got := told(plan.Choices(x, v, r.steps...)); got != next {
			t.Fatalf("%s with %v: behind %s: %s, not %s", textOf(x), v, line(r.steps), got, next)
		}
		counts[map[bool]string{true: "may", false: "may not"}[want == api.OK]]++
		if want != api.OK && next != errPlan {
			counts["a part of one"]++
		}
		if slices.ContainsFunc(r.steps, func(s api.Step) bool { return s.Kind == api.StepSeek }) {
			counts["seek"]++
		}
	}
	for _, name := range []string{"may", "may not", "a part of one", "seek"} {
		if counts[name] < 300 {
			t.Error(name, counts[name])
		}
	}
}

// P13.4: all plans of some clauses, on some graphs. Each part of a plan can be gone on with, and all that is told to come next leads to a plan.
func TestAllPlans(t *testing.T) {
	c := chance{rand.New(rand.NewPCG(13, 3))}
	g := []*graph.Graph{world(t), c.graph(), c.graph()}
	for _, x := range []struct {
		clause string
		least  int
	}{
		{one, 50}, {"(a:A {k: 1})-[r]-(b), (b) WHERE b.x = 2 AND a.y = 3", 100}, {"(a)-[r]->(a)-[s]-(b:B) WHERE a <> b AND r.w = 1", 200},
		{"OPTIONAL MATCH (a)<--(b), (:A), (b) WHERE a.k = b.k AND 1 / (id(a) - 1) = 1 AND true", 100}, {"(n)-->(b)<--(n) WHERE n.k = 1", 50}, {"(a)--()--(), (a {k: n.k})", 200},
		{"(n), (m) WHERE x = 1 AND n = m", 20}, {"(:A:B {k: 1, y: 3})--({k: 1})", 20}, {"(a)-->(b) WHERE a.k + b.k > 0 AND 1 / (b.k - a.k) < 0 AND a.k = 1", 4},
	} {
		for _, p := range []api.Place{place("n", node(1), "m", node(1), "x", value.Int(1)), place("n", node(0), "m", value.Null(), "x", value.Null())} {
			q := clause(t, x.clause)
			v, no := match.Kinds(g[0], p, q)
			if no != api.OK {
				t.Fatal(x.clause, no)
			}
			r, _ := rulesOf(q, v, nil)
			var want []string
			for _, g := range g {
				want = append(want, expected(g, p, q))
			}
			n := 0
			r.plans(func(l []api.Step) {
				n++
				for i, g := range g {
					if got := rows(plan.Find(g, p, q, l...)); got != want[i] {
						t.Fatalf("%v: %s by %s: %s, not %s", p, x.clause, line(l), got, want[i])
					}
				}
			})
			if n < x.least {
				t.Error(x.clause, n)
			}
		}
	}
}

// What Choices tells is just what stands next in some plan that may be: of all steps that one can think of, one behind the other.
func TestChoicesLeadToPlans(t *testing.T) {
	c := chance{rand.New(rand.NewPCG(13, 4))}
	for _, x := range []struct{ clause, columns string }{
		{"(a:A {k: 1})-[r]->(b) WHERE b.x = 2", ""}, {"(a:A)--(a) WHERE x", "x"}, {"(a)--(b) WHERE true AND a.k = b.k", "n-a"}, {"(a:B:A), (a), (b) WHERE 1 / 0 = 1", ""}, {"(), (a) WHERE a.k = 1 AND a AND a.l = 1", "n-a"},
	} {
		q, v := clause(t, x.clause), vars(x.columns)
		r, _ := rulesOf(q, v, nil)
		next := map[string]map[string]int{}
		r.plans(func(l []api.Step) {
			for i := range l {
				ahead := line(l[:i])
				if next[ahead] == nil {
					next[ahead] = map[string]int{}
				}
				next[ahead][line(l[i:i+1])]++
			}
			if got := told(plan.Choices(q, v, l...)); got != "" {
				t.Fatal(x.clause, line(l), got)
			}
		})
		for ahead, want := range next {
			l, no := plan.Choices(q, v, steps(t, ahead)...)
			if no != api.OK || len(l) != len(want) || !slices.IsSortedFunc(l, byFields) {
				t.Fatal(x.clause, ahead, line(l), want, no)
			}
			for _, s := range l {
				if want[line([]api.Step{s})] == 0 {
					t.Fatal(x.clause, ahead, line(l), want)
				}
			}
			for range 3 {
				s := of(c, r.thought...)
				ahead := append(steps(t, ahead), s)
				if no := plan.Check(q, v, ahead...); slices.Contains(l, s) != (told(plan.Choices(q, v, ahead...)) != errPlan) || no == api.OK && !slices.Contains(l, s) {
					t.Fatal(x.clause, line(ahead), no)
				}
			}
		}
	}
}

// The other way of asking knows what layer 6 says.
func TestAnotherWay(t *testing.T) {
	r, no := rulesOf(clause(t, one), nil, steps(t, "seek 0 0 A k; where 1; rel 0 0; where 0"))
	if no != api.OK || !r.may() || r.leading != 2 || len(r.conds) != 2 || len(r.spots()) != 3 {
		t.Error(r, no)
	}
	if r.steps = r.steps[1:]; r.may() || r.draft() {
		t.Error(r)
	}
	if _, no := rulesOf(clause(t, "CREATE (a)"), nil, nil); no != api.ErrArg || sema.Leading(r.clause.Where) != 0 {
		t.Error(no)
	}
}
