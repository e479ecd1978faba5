package syntax_test

import (
	"testing"

	"lattice/api"
	"lattice/syntax"
	"lattice/words"
)

// P4.1, P4.3, P4.5: an expression is read from any text of it, and told by one.
func TestExpressionsToldAndRead(t *testing.T) {
	m := makers(2)
	for n := range 20000 {
		e := m.expr(2 + n%6)
		if x := syntax.CheckExpr(e); x != api.OK {
			t.Fatal(toldExpr(e), x)
		}
		s := syntax.Text(e)
		if want := toldExpr(e); s != want {
			t.Fatalf("%s\nnot %s", s, want)
		}
		again, at, x := syntax.ParseExpr(s)
		if x != api.OK || at != 0 || !same(again, e) || !syntax.SameExpr(again, e) {
			t.Fatal(s, at, x)
		}
		w := &scribe{Rand: m.Rand}
		w.expr(e, 0)
		other := w.String()
		again, at, x = syntax.ParseExpr(other)
		if x != api.OK || at != 0 || !same(again, e) {
			t.Fatalf("%q: %d %v %q: not %s", other, at, x, other[at:], s)
		}
	}
}

// P4.1, P4.3, P4.5: so of queries.
func TestQueriesToldAndRead(t *testing.T) {
	m := makers(3)
	for n := range 10000 {
		q := m.query(2 + n%4)
		if x := syntax.Check(q); x != api.OK {
			t.Fatal(told(q), x)
		}
		s, x := syntax.Print(q)
		if want := told(q); s != want || x != api.OK {
			t.Fatalf("%s\nnot %s", s, want)
		}
		again, at, x := syntax.Parse(s)
		if x != api.OK || at != 0 || !same(again, q) || !syntax.Same(again, q) {
			t.Fatal(s, at, x)
		}
		w := &scribe{Rand: m.Rand}
		w.query(q)
		other := w.String()
		again, at, x = syntax.Parse(other)
		if x != api.OK || at != 0 || !same(again, q) {
			t.Fatalf("%q: %d %v %q: not %s", other, at, x, other[at:], s)
		}
		if again, x := syntax.Print(again); again != s || x != api.OK {
			t.Fatal(s, again, x)
		}
	}
}

// P4.5: one text just if they are the same.
func TestOneText(t *testing.T) {
	m := makers(5)
	texts := map[string]api.Expr{}
	for n := range 30000 {
		e := m.expr(1 + n%3)
		s := syntax.Text(e)
		if x, there := texts[s]; there && !same(x, e) {
			t.Fatal(s, x, e)
		}
		texts[s] = e
	}
	for _, l := range [][2]string{{"-5", "-(5)"}, {"-5.a", "-(5.a)"}, {"-(-5)", "-(-(5))"}, {"a", "$a"}, {"a", "'a'"}, {"a.b", "a['b']"}, {"a.b", "a:b"}, {"null", "`null`"}, {"true", "TRUE.a"}, {"count(*)", "count()"}, {"f(a)", "f(DISTINCT a)"}, {"F(a)", "f(a)"}, {"[]", "{}"}, {"(a - b) - c", "a - (b - c)"}, {"NOT a = b", "(NOT a) = b"}, {"a IS NULL", "a IS NOT NULL"}, {"1", "'1'"}} {
		a, _, e := syntax.ParseExpr(l[0])
		b, _, f := syntax.ParseExpr(l[1])
		if e != api.OK || f != api.OK || syntax.SameExpr(a, b) || syntax.Text(a) == syntax.Text(b) {
			t.Error(l, syntax.Text(a), syntax.Text(b))
		}
	}
}

// P4.1, P4.5: texts with a word left out, put in, or in another one's place are read as some query, or refused with a place of theirs.
func TestWordsMoved(t *testing.T) {
	m := makers(6)
	all := vocabulary()
	for range 4000 {
		w := &scribe{}
		w.query(m.query(3))
		at := m.IntN(len(w.tokens))
		word := token{text: all[m.IntN(len(all))]}
		switch m.IntN(3) {
		case 0:
			w.tokens = append(w.tokens[:at], w.tokens[at+1:]...)
		case 1:
			w.tokens[at] = word
		default:
			w.tokens = append(w.tokens[:at], append([]token{word}, w.tokens[at:]...)...)
		}
		w.Rand = m.Rand
		s := w.String()
		q, place, e := syntax.Parse(s)
		if e != api.OK {
			refusedAt(t, s, q, place, e)
			continue
		}
		printed, x := syntax.Print(q)
		again, _, y := syntax.Parse(printed)
		if place != 0 || x != api.OK || y != api.OK || !same(again, q) || printed != told(q) {
			t.Fatal(s, printed, x, y)
		}
	}
}

// refusedAt holds that an error stands at the place of a word or of the end, and that what stands behind that word has no say.
func refusedAt(t *testing.T, s string, q api.Query, place int, e api.Errno) {
	t.Helper()
	if len(q.Clauses) != 0 || place < 0 || place > len(s) {
		t.Fatal(s, q, place, e)
	}
	l, _, _ := words.Lex(s)
	for i, w := range l {
		if w.At != place {
			continue
		}
		end := len(s)
		if i+1 < len(l) {
			end = l[i+1].At
		}
		if _, again, f := syntax.Parse(s[:end] + " \x00"); again != place || f != e {
			t.Fatal(s, place, e, again, f)
		}
		return
	}
	if place != len(s) {
		t.Fatal(s, place, e)
	}
}
