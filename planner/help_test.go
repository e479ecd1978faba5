package planner_test

import (
	"strconv"
	"strings"
	"testing"

	"lattice/api"
	"lattice/plan"
	"lattice/planner"
	"lattice/syntax"
)

const (
	errArg  = "error 2"
	errPlan = "error 230"

	most     = int64(1) << 62
	greatest = int64(1<<63 - 1)
	lowest   = -greatest - 1
)

// one is the clause of the chapter's examples, by these counts.
const (
	one       = "(a:A {k: 1})-[r:T]->(b)"
	oneCounts = "nodes 100; rels 200; label A 10; type T 50; end T A out 20; key A k 10 5"
)

// clause reads one clause; of a text that begins with a path, MATCH stands ahead.
func clause(t testing.TB, text string) api.Clause {
	t.Helper()
	if text[0] == '(' {
		text = "MATCH " + text
	}
	q, at, no := syntax.Parse(text)
	if no != api.OK {
		t.Fatalf("%s: %v at %d", text, no, at)
	}
	return q.Clauses[0]
}

// vars reads columns: names, those of nodes with n- ahead.
func vars(text string) (l []api.Var) {
	for _, s := range strings.Fields(text) {
		name, node := strings.CutPrefix(s, "n-")
		v := api.Var{Name: name}
		if node {
			v.Kind = api.VarNode
		}
		l = append(l, v)
	}
	return l
}

// entries are the words of each part of a text, with ; between.
func entries(text string) (l [][]string) {
	for s := range strings.SplitSeq(text, ";") {
		if w := strings.Fields(s); len(w) > 0 {
			l = append(l, w)
		}
	}
	return l
}

// counts reads counts, told as layer 11 tells them, with ; between.
func counts(t testing.TB, text string) (s api.Stats) {
	t.Helper()
	for _, w := range entries(text) {
		number := func(i int) int64 {
			n, err := strconv.ParseInt(w[i], 10, 64)
			if err != nil {
				t.Fatalf("%v: %v", w, err)
			}
			return n
		}
		switch w[0] {
		case "nodes":
			s.Nodes = number(1)
		case "rels":
			s.Rels = number(1)
		case "label":
			s.Labels = append(s.Labels, api.LabelCount{Label: w[1], Nodes: number(2)})
		case "type":
			s.Types = append(s.Types, api.TypeCount{Type: w[1], Rels: number(2)})
		case "end":
			s.Ends = append(s.Ends, api.EndCount{Type: w[1], Label: w[2], Out: w[3] == "out", Rels: number(4)})
		case "key":
			s.Keys = append(s.Keys, api.KeyCount{Label: w[1], Key: w[2], Nodes: number(3), Values: number(4)})
		default:
			t.Fatal(w)
		}
	}
	return s
}

// steps reads steps as layer 13 tells them, with ; between.
func steps(t testing.TB, text string) (l []api.Step) {
	t.Helper()
	kinds := map[string]api.StepKind{"all": api.StepAll, "label": api.StepLabel, "seek": api.StepSeek, "bound": api.StepBound, "rel": api.StepRel, "where": api.StepWhere}
	for _, w := range entries(text) {
		kind, is := kinds[w[0]]
		w = append(w, "", "", "")
		s := api.Step{Kind: kind}
		n, err := strconv.Atoi(w[1])
		if !is || err != nil {
			t.Fatal(w)
		}
		switch kind {
		case api.StepWhere:
			s.Cond = n
		case api.StepRel:
			s.Path, s.Back = n, w[3] == "back"
			s.Part, _ = strconv.Atoi(w[2])
		default:
			s.Path, s.Label, s.Key = n, w[3], w[4]
			s.Part, _ = strconv.Atoi(w[2])
		}
		l = append(l, s)
	}
	return l
}

// line tells steps with ; between.
func line(l []api.Step) string {
	return strings.ReplaceAll(strings.TrimSuffix(plan.Text(l...), "\n"), "\n", "; ")
}

// told is line; or the error.
func told(l []api.Step, no api.Errno) string {
	if no == api.OK {
		return line(l)
	}
	if len(l) > 0 {
		return "steps beside an error"
	}
	return no.Error()
}

// toldBest is told, with whether all plans were gone through.
func toldBest(l []api.Step, all bool, no api.Errno) string {
	if no == api.OK {
		return line(l) + map[bool]string{true: " of all", false: " of some"}[all]
	}
	if all {
		return "true beside an error"
	}
	return told(l, no)
}

// reckoned are a plan's rows and its cost, as "1 2, 3"; or the error.
func reckoned(c api.Clause, v []api.Var, s api.Stats, l []api.Step) string {
	rows, no := planner.Rows(c, v, s, l...)
	cost, not := planner.Cost(c, v, s, l...)
	if no != not || no != api.OK && (len(rows) > 0 || cost != 0) {
		return "Rows " + no.Error() + ", Cost " + not.Error()
	}
	if no != api.OK {
		return no.Error()
	}
	return numbers(rows...) + ", " + numbers(cost)
}

func numbers(l ...int64) string {
	var w []string
	for _, n := range l {
		w = append(w, strconv.FormatInt(n, 10))
	}
	return strings.Join(w, " ")
}

// toldText is a text; or the error.
func toldText(s string, no api.Errno) string {
	if no == api.OK {
		return s
	}
	if s != "" {
		return "a text beside an error"
	}
	return no.Error()
}
