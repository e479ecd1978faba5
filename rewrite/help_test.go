package rewrite_test

import (
	"slices"
	"strconv"
	"strings"
	"testing"

	"lattice/api"
	"lattice/plan"
	"lattice/rewrite"
	"lattice/syntax"
)

const (
	errArg     = "error 2"
	errPlan    = "error 230"
	errRewrite = "error 240"
	errWrong   = "error 190"
)

// one is the clause of the chapter's examples.
const one = "(a:A {k: 1})-[r]->(b) WHERE b.x = 2"

// clause reads one clause; of a text that begins with a path, MATCH stands ahead.
func clause(t testing.TB, text string) api.Clause {
	t.Helper()
	if text[0] == '(' {
		text = "MATCH " + text
	}
	q, at, no := syntax.Parse(text)
	if no != api.OK {
		t.Fatalf("%s: %v at %d", text, no, at)
	}
	return q.Clauses[0]
}

// vars reads columns: names, those of nodes with n- ahead.
func vars(text string) (l []api.Var) {
	for _, s := range strings.Fields(text) {
		name, node := strings.CutPrefix(s, "n-")
		v := api.Var{Name: name}
		if node {
			v.Kind = api.VarNode
		}
		l = append(l, v)
	}
	return l
}

// reader reads words one by one; behind the last one they are empty.
type reader struct {
	t testing.TB
	l []string
}

func (r *reader) word() string {
	if len(r.l) == 0 {
		return ""
	}
	s := r.l[0]
	r.l = r.l[1:]
	return s
}

func (r *reader) number() int {
	r.t.Helper()
	s := r.word()
	n, err := strconv.Atoi(s)
	if err != nil {
		r.t.Fatalf("%q is no number", s)
	}
	return n
}

// kind is the place of the next word among some.
func (r *reader) kind(words string) int {
	r.t.Helper()
	s := r.word()
	n := slices.Index(strings.Fields(words), s)
	if n < 0 {
		r.t.Fatalf("%q is no kind", s)
	}
	return n
}

// step reads a step as layer 13 tells it; of no words the zero one.
func (r *reader) step() (s api.Step) {
	r.t.Helper()
	if len(r.l) == 0 {
		return s
	}
	s.Kind = api.StepKind(r.kind("all label seek bound rel where"))
	if s.Kind == api.StepWhere {
		s.Cond = r.number()
		return s
	}
	s.Path, s.Part = r.number(), r.number()
	if s.Kind == api.StepRel {
		s.Back = r.word() == "back"
	}
	s.Label, s.Key = r.word(), r.word()
	return s
}

// steps reads steps, with ; between.
func steps(t testing.TB, text string) (l []api.Step) {
	t.Helper()
	for s := range strings.SplitSeq(text, ";") {
		if w := strings.Fields(s); len(w) > 0 {
			l = append(l, (&reader{t, w}).step())
		}
	}
	return l
}

// rewriteOf reads a rewrite as Text tells it; behind swap, turn, fuse a step may stand too.
func rewriteOf(t testing.TB, text string) api.Rewrite {
	t.Helper()
	r := &reader{t, strings.Fields(text)}
	return api.Rewrite{Kind: api.RewriteKind(r.kind("give swap turn fuse split")), At: r.number(), Step: r.step()}
}

// line tells steps with ; between.
func line(l []api.Step) string {
	return strings.ReplaceAll(strings.TrimSuffix(plan.Text(l...), "\n"), "\n", "; ")
}

// told is line; or the error.
func told(l []api.Step, no api.Errno) string {
	if no == api.OK {
		return line(l)
	}
	if len(l) > 0 {
		return "steps beside an error"
	}
	return no.Error()
}

// toldUndo tells the rewrite that Undo answers; or the error.
func toldUndo(r api.Rewrite, no api.Errno) string {
	if no == api.OK {
		return rewrite.Text(r)
	}
	if r != (api.Rewrite{}) {
		return "a rewrite beside an error"
	}
	return no.Error()
}

// toldAll tells rewrites with ; between; or the error.
func toldAll(l []api.Rewrite, no api.Errno) string {
	if no == api.OK {
		var texts []string
		for _, r := range l {
			texts = append(texts, rewrite.Text(r))
		}
		return strings.Join(texts, "; ")
	}
	if len(l) > 0 {
		return "rewrites beside an error"
	}
	return no.Error()
}

type steplist = []api.Step

// makes is Early, Sharp.
type makes func(api.Clause, []api.Var, ...api.Step) ([]api.Step, api.Errno)
