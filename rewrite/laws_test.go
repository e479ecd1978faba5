package rewrite_test

import (
	"fmt"
	"math/rand/v2"
	"slices"
	"strings"
	"testing"

	"lattice/api"
	"lattice/graph"
	"lattice/match"
	"lattice/plan"
	"lattice/rewrite"
	"lattice/syntax"
	"lattice/value"
)

// P14.1 to P14.5, by chance: all calls against the chapter's words, and what is found by what rewrites make against what layer 8 finds.

type chance struct{ *rand.Rand }

func of[T any](c chance, l ...T) T { return l[c.IntN(len(l))] }

// sample is a clause, on a graph, for a row.
type sample struct {
	text   string
	clause api.Clause
	graph  *graph.Graph
	place  api.Place
	kinds  []api.Var
}

func (s sample) String() string { return fmt.Sprintf("%s with %v", s.text, s.kinds) }

// graph has some nodes and relationships.
func (c chance) graph() *graph.Graph {
	g, _ := graph.Make(api.Graph{})
	props := func() (l []api.Prop) {
		for _, key := range []string{"k", "l"} {
			if c.IntN(4) > 0 {
				l = append(l, api.Prop{Key: key, Value: value.Int(c.Int64N(2))})
			}
		}
		return l
	}
	nodes := 2 + c.Int64N(4)
	for range nodes {
		g.AddNode(of(c, nil, []string{"A"}, []string{"B"}, []string{"A", "B"}), props())
	}
	for range c.IntN(8) {
		g.AddRel(c.Int64N(nodes), c.Int64N(nodes), of(c, "T", "T", "U"), props())
	}
	return g
}

// sample is of a text that mostly means something; those that don't are none.
func (c chance) sample() (s sample, is bool) {
	named := []string{"x"}
	name := func(names ...string) string {
		named = append(named, of(c, names...))
		return named[len(named)-1]
	}
	node := func() string {
		props := of(c, "", "", "", " {k: 1}", " {l: 0, k: 1}", " {k: x.k}", " {}", " {k: $p}")
		if c.IntN(40) == 0 {
			props = " {k: 1 / 0}"
		}
		return "(" + name("a", "a", "b", "c", "x", "") + of(c, "", "", ":A", ":B", ":B:A", ":A:A") + props + ")"
	}
	rels := 0
	rel := func() string {
		rels++
		return fmt.Sprintf(of(c, "-[%s%s]->", "<-[%s%s]-", "-[%s%s]-"), name("", string(rune('q'+rels))), of(c, "", "", ":T", ":T|U", " {k: 1}"))
	}
	s.text = of(c, "MATCH ", "MATCH ", "OPTIONAL MATCH ") + node()
	for range c.IntN(4) {
		s.text += of(c, rel(), rel(), ", ") + node()
	}
	named = slices.DeleteFunc(named, func(s string) bool { return s == "" })
	for i := range c.IntN(5) {
		n, m := of(c, named...), of(c, named...)
		s.text += []string{" WHERE ", " AND "}[min(i, 1)] + of(c, n+".k = 1", n+".k = "+m+".l", n+" <> "+m, n+":B OR "+n+".k = 0", "true", n+".l IS NULL OR "+n+".l < 2", "NOT "+n+":B", n+".k = 1", "1 / (id("+n+") - 2) = 0 OR true", n+".k + 1 > 1", "$p IS NOT NULL")
	}
	q, _, no := syntax.Parse(s.text + " RETURN 1")
	if no != api.OK {
		panic(s.text)
	}
	s.clause, s.graph = q.Clauses[0], c.graph()
	s.place = api.Place{Columns: []string{"x"}, Row: []api.Value{of(c, value.Null(), api.Value{Kind: api.ValueNode, Int: c.Int64N(6)}, api.Value{Kind: api.ValueNode})}, Params: []api.Param{{Name: "p", Value: of(c, value.Int(1), value.Null())}}}
	if c.IntN(8) == 0 {
		s.place.Columns, s.place.Row = nil, nil
	}
	s.kinds, no = match.Kinds(s.graph, s.place, s.clause)
	return s, no == api.OK
}

// picks are some numbers.
func (c chance) picks(most int) (l []int) {
	for range c.IntN(most) {
		l = append(l, c.IntN(400)-200)
	}
	return l
}

// plan is some plan of a sample's clause.
func (c chance) plan(t *testing.T, s sample) []api.Step {
	t.Helper()
	l, no := plan.Pick(s.clause, s.kinds, c.picks(16)...)
	if no != api.OK {
		t.Fatal(s, no)
	}
	return l
}

// counts holds that there was enough of each sort.
type counts map[string]int

func (n counts) enough(t *testing.T, least int, names string) {
	t.Helper()
	for _, name := range strings.Fields(names) {
		if n[name] < least {
			t.Error(name, n[name])
		}
	}
}

// Apply, Undo, All, against all rewrites that one can think of.
func TestRewritesOfChance(t *testing.T) {
	c, n := chance{rand.New(rand.NewPCG(14, 1))}, counts{}
	for range 250 {
		s, is := c.sample()
		if !is {
			continue
		}
		l := c.plan(t, s)
		w := words{s.clause, s.kinds, l}
		may := w.all()
		if all, want := toldAll(rewrite.All(s.clause, s.kinds, l...)), toldAll(may, api.OK); all != want {
			t.Fatalf("%v: %s: %s, not %s", s, line(l), all, want)
		}
		if len(may) == 0 {
			n["none"]++
		}
		for i, r := range slices.Concat(may, w.rewrites()) {
			if i >= len(may) && c.IntN(8) > 0 {
				continue
			}
			want, applies := w.made(r)
			made, no := rewrite.Apply(s.clause, s.kinds, r, l...)
			back, undone := rewrite.Undo(s.clause, s.kinds, r, l...)
			if !applies {
				if told(made, no) != errRewrite || toldUndo(back, undone) != errRewrite {
					t.Fatalf("%v: %s by %s: %s, %s", s, line(l), rewrite.Text(r), told(made, no), toldUndo(back, undone))
				}
				n["not"]++
				continue
			}
			if !slices.Equal(made, want) || no != api.OK || undone != api.OK {
				t.Fatalf("%v: %s by %s: %s, %v", s, line(l), rewrite.Text(r), told(made, no), undone)
			}
			if got := told(rewrite.Apply(s.clause, s.kinds, back, made...)); got != line(l) {
				t.Fatalf("%v: %s by %s and %s: %s", s, line(l), rewrite.Text(r), rewrite.Text(back), got)
			}
			if again, no := rewrite.Undo(s.clause, s.kinds, back, made...); again != r || no != api.OK {
				t.Fatalf("%v: %s by %s: undone by %s, and that by %s", s, line(l), rewrite.Text(r), rewrite.Text(back), toldUndo(again, no))
			}
			n[strings.Fields(rewrite.Text(r))[0]]++
		}
	}
	n.enough(t, 10, "give swap turn fuse split not none")
}

// Many, Early, Sharp, against the words.
func TestWalksOfChance(t *testing.T) {
	c, n := chance{rand.New(rand.NewPCG(14, 2))}, counts{}
	for range 150 {
		s, is := c.sample()
		if !is {
			continue
		}
		l := c.plan(t, s)
		w, picks := words{s.clause, s.kinds, l}, c.picks(5)
		if got, want := told(rewrite.Many(s.clause, s.kinds, picks, l...)), line(w.many(picks)); got != want {
			t.Fatalf("%v: %s by %v: %s, not %s", s, line(l), picks, got, want)
		} else if got != line(l) {
			n["many"]++
		}
		for name, x := range map[string]struct {
			call makes
			want []api.Step
		}{"early": {rewrite.Early, w.early()}, "sharp": {rewrite.Sharp, w.sharp()}} {
			got, no := x.call(s.clause, s.kinds, l...)
			if no != api.OK || !slices.Equal(got, x.want) {
				t.Fatalf("%s: %v: %s: %s, not %s", name, s, line(l), told(got, no), line(x.want))
			}
			if again := told(x.call(s.clause, s.kinds, got...)); again != line(got) {
				t.Fatalf("%s: %v: %s, and then %s", name, s, line(got), again)
			}
			n[map[bool]string{true: name, false: "un" + name}[slices.Equal(got, l)]]++
		}
		early, _ := rewrite.Early(s.clause, s.kinds, l...)
		if (words{s.clause, s.kinds, early}).late() >= 0 {
			t.Fatalf("%v: %s is not early", s, line(early))
		}
	}
	n.enough(t, 15, "many early unearly sharp unsharp")
}

// P14.5: what is found by what is made.
func TestWhatIsFound(t *testing.T) {
	c, n := chance{rand.New(rand.NewPCG(14, 3))}, counts{}
	for range 1500 {
		s, is := c.sample()
		if !is {
			continue
		}
		l := c.plan(t, s)
		rows, no := match.Find(s.graph, s.place, s.clause)
		want := found(rows, no)
		holds := func(name string, made []api.Step, no api.Errno) {
			if no != api.OK || plan.Check(s.clause, s.kinds, made...) != api.OK {
				t.Fatalf("%s: %v: %s: %s", name, s, line(l), told(made, no))
			}
			if got := found(plan.Find(s.graph, s.place, s.clause, made...)); got != want {
				t.Fatalf("%s: %v: %v by %s, not by %s: %s, not %s", name, s, s.place.Row, line(made), line(l), got, want)
			}
			if !slices.Equal(made, l) {
				n[name]++
			}
		}
		holds("plan", l, api.OK)
		early, no := rewrite.Early(s.clause, s.kinds, l...)
		holds("early", early, no)
		sharp, no := rewrite.Sharp(s.clause, s.kinds, l...)
		holds("sharp", sharp, no)
		for range 4 {
			many, no := rewrite.Many(s.clause, s.kinds, c.picks(12), l...)
			holds("many", many, no)
		}
		all, _ := rewrite.All(s.clause, s.kinds, l...)
		for i := range min(6, len(all)) {
			r := all[i*len(all)/6%len(all)]
			made, no := rewrite.Apply(s.clause, s.kinds, r, l...)
			holds(strings.Fields(rewrite.Text(r))[0], made, no)
		}
		switch {
		case want == errWrong:
			n["wrong"]++
		case want == "":
			n["nothing"]++
		default:
			n["rows"]++
		}
	}
	n.enough(t, 30, "early sharp many give swap turn fuse split wrong nothing rows")
}

// found is what is found as a text; or the error, any of layer 8 as ErrWrong.
func found(rows [][]api.Value, no api.Errno) string {
	if no != api.OK {
		return errWrong
	}
	var b strings.Builder
	for _, row := range rows {
		s, _ := value.Text(value.List(row...))
		b.WriteString(s)
	}
	return b.String()
}

// All plans to which rewrites lead from a clause's Plain one, whichever follow each other, find the same.
func TestWhereRewritesLead(t *testing.T) {
	c := chance{rand.New(rand.NewPCG(14, 4))}
	for _, text := range []string{one, "(a:A {k: 1})-[r]-(b), (b:B) WHERE a.l = 1", "(a)--(a), (b:A) WHERE a.k = b.k AND 1 / (id(b) - 2) = 0", "OPTIONAL MATCH (x)<--(a:B)-->(x) WHERE a <> x AND a.k = 1"} {
		q, p := clause(t, text), api.Place{Columns: []string{"x"}, Row: []api.Value{{Kind: api.ValueNode, Int: 1}}}
		g := c.graph()
		v, no := match.Kinds(g, p, q)
		if no != api.OK {
			t.Fatal(text, no)
		}
		rows, no := match.Find(g, p, q)
		want := found(rows, no)
		start, _ := plan.Plain(q, v...)
		seen, work := map[string]struct{}{line(start): {}}, [][]api.Step{start}
		for len(work) > 0 {
			l := work[0]
			work = work[1:]
			if got := found(plan.Find(g, p, q, l...)); got != want {
				t.Fatalf("%s by %s: %s, not %s", text, line(l), got, want)
			}
			for _, r := range rewriteAll(t, q, v, l) {
				made, no := rewrite.Apply(q, v, r, l...)
				if _, is := seen[line(made)]; !is || no != api.OK {
					seen[told(made, no)] = struct{}{}
					work = append(work, made)
				}
			}
		}
		if len(seen) < 12 {
			t.Error(text, len(seen))
		}
	}
}
