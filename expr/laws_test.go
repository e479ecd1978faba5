package expr_test

import (
	"math/rand/v2"
	"slices"
	"strings"
	"testing"

	"lattice/api"
	"lattice/expr"
	"lattice/graph"
	"lattice/sema"
	"lattice/syntax"
	"lattice/value"
)

// P7.4.

// safe makes expressions by chance that are safe, now and then with a part that is not.
func (g grower) safe(deep int) api.Expr {
	switch g.IntN(9) {
	case 0:
		return variable(pick(g, "v", "n", "r"))
	case 1:
		return param(pick(g, "p", "q"))
	case 2:
		return one(api.ExprProp, pick(g, "k", "l", "no"), variable(pick(g, "n", "r")))
	case 3, 4:
		return g.plain()
	case 5:
		if g.IntN(20) == 0 {
			return g.expr(deep)
		}
	}
	return g.truth(deep)
}

func (g grower) plain() api.Expr {
	return literal(pick(g, value.Null(), value.Bool(true), value.Bool(false), value.Int(int64(g.IntN(3))), value.Int(-1<<63), value.String(pick(g, "", "a", "w"))))
}

func (g grower) plains() []api.Expr {
	l := make([]api.Expr, g.IntN(4))
	for i := range l {
		l[i] = g.plain()
	}
	return l
}

func (g grower) truth(deep int) api.Expr {
	if deep <= 1 {
		return pick(g, literal(pick(g, value.Null(), value.Bool(true), value.Bool(false))), one(api.ExprLabel, pick(g, "A", "C"), variable("n")))
	}
	switch g.IntN(6) {
	case 0:
		return joined("IN", g.safe(deep-1), list(g.plains()...))
	case 1:
		return one(pick(g, api.ExprIsNull, api.ExprNotNull), "", g.safe(deep-1))
	case 2:
		return one(api.ExprNot, "", g.truth(deep-1))
	case 3:
		return joined(pick(g, "AND", "OR", "XOR"), g.truth(deep-1), g.truth(deep-1))
	}
	return joined(pick(g, "=", "<>", "<", "<=", ">", ">=", "STARTS", "ENDS", "CONTAINS"), g.safe(deep-1), g.safe(deep-1))
}

// kindly is a place with values of the variables' kinds, or nothing, and with all parameters.
func (g grower) kindly() api.Place {
	all := samples()
	p := api.Place{
		Columns: []string{"v", "n", "r"},
		Row:     []api.Value{pick(g, all...), pick(g, node(0), node(1), node(2), node(3), node(1<<40), value.Null()), pick(g, rel(0), rel(1), rel(2), rel(1<<40), value.Null())},
	}
	for _, name := range []string{"p", "q", "n", "r", "x", "y", "i", "t", "l", "o", "twice", "$ only", "nowhere"} {
		p.Params = append(p.Params, api.Param{Name: name, Value: pick(g, all...)})
	}
	return p
}

func TestSafeOnesDoNotGoWrong(t *testing.T) {
	world := world(t)
	vars := []api.Var{{Name: "v"}, {Name: "n", Kind: api.VarNode}, {Name: "r", Kind: api.VarRel}}
	g := grower{rand.New(rand.NewPCG(7, 4))}
	safe, truths, wrong := 0, 0, 0
	for range 20000 {
		e := g.safe(1 + g.IntN(6))
		isSafe, isTruth := sema.Safe(e, vars...), sema.Truth(e, vars...)
		for range 4 {
			v, no := expr.Eval(world, g.kindly(), e)
			switch {
			case isSafe && no != api.OK:
				t.Fatalf("%s is safe: %v", syntax.Text(e), no)
			case isTruth && v.Kind != api.ValueBool && v.Kind != api.ValueNull:
				t.Fatalf("%s is a Truth: %s", syntax.Text(e), told(v, no))
			case isTruth:
				truths++
			case isSafe:
				safe++
			case no != api.OK:
				wrong++
			}
		}
	}
	if safe < 10000 || truths < 10000 || wrong < 100 {
		t.Error(safe, truths, wrong)
	}
}

// What is safe may be more than layer 4 lets be: then it is ErrArg, and nothing else.
func TestSafeOnesThatLayer4Refuses(t *testing.T) {
	for n, want := range map[int]string{api.MaxItems: "true", api.MaxItems + 1: "!arg", api.MaxRows: "!arg"} {
		e := joined("IN", literal(value.Int(1)), list(slices.Repeat([]api.Expr{literal(value.Int(1))}, n)...))
		if got := told(expr.Const(e)); !sema.Truth(e) || got != want {
			t.Errorf("%d: %s", n, got)
		}
	}
}

// The greatest literals that are safe.
func TestGreatSafeOnes(t *testing.T) {
	half := literal(text(api.MaxText / 2))
	for i, e := range []api.Expr{literal(text(api.MaxText)), joined("=", literal(text(api.MaxText)), literal(text(api.MaxText))), joined("IN", half, list(half, half))} {
		if _, no := expr.Const(e); no != api.OK || !sema.Safe(e) {
			t.Error(i, no)
		}
	}
	for i, e := range []api.Expr{literal(text(api.MaxText + 1)), joined("IN", half, list(half, half, literal(value.String("t"))))} {
		if _, no := expr.Const(e); no != api.ErrGreat || sema.Safe(e) {
			t.Error(i, no)
		}
	}
}

// A Where all parts of which are a Truth does not go wrong, and is true just if it is worth true.
func TestWheresOfTruths(t *testing.T) {
	world := world(t)
	vars := []api.Var{{Name: "v"}, {Name: "n", Kind: api.VarNode}, {Name: "r", Kind: api.VarRel}}
	g := grower{rand.New(rand.NewPCG(7, 2))}
	whole := 0
	for range 10000 {
		e := joined("AND", g.truth(4), g.truth(3))
		if sema.Leading(e, vars...) != len(sema.Parts(e)) {
			continue
		}
		p := g.kindly()
		is, no := expr.True(world, p, e)
		v, wrong := expr.Eval(world, p, e)
		if no != api.OK || wrong != api.OK || is != (told(v, wrong) == "true") {
			t.Fatalf("%s: %v %v, %s", syntax.Text(e), is, no, told(v, wrong))
		}
		whole++
	}
	if whole < 5000 {
		t.Error(whole)
	}
}

// Nothing that is handed in is changed, the room behind it included, and nothing is kept.
func TestNothingIsChanged(t *testing.T) {
	world := world(t)
	before := world.Tell()
	g := grower{rand.New(rand.NewPCG(7, 3))}
	p := roomy(place())
	kept := copyOf(p)
	for range 5000 {
		e := g.expr(1 + g.IntN(5))
		same := syntax.Copy(e)
		first := told(expr.Eval(world, p, e))
		expr.True(world, p, e)
		expr.Props(world, p, true, e)
		expr.Const(e, p.Params...)
		if !syntax.SameExpr(e, same) {
			t.Fatal(syntax.Text(same))
		}
		if again := told(expr.Eval(world, p, e)); again != first {
			t.Fatal(first, again)
		}
	}
	if !graph.Same(world.Tell(), before) || !samePlace(p, kept) || !samePlace(whole(p), whole(kept)) {
		t.Error("changed")
	}
}

// roomy has spare room behind each list.
func roomy(p api.Place) api.Place {
	more := func(v api.Value) api.Value {
		v.List, v.Keys = append(slices.Clone(v.List), value.Int(99))[:len(v.List)], append(slices.Clone(v.Keys), "spare")[:len(v.Keys)]
		return v
	}
	for i := range p.Row {
		p.Row[i], p.Params[i].Value = more(p.Row[i]), more(p.Params[i].Value)
	}
	p.Columns, p.Row, p.Params = append(p.Columns, "spare")[:len(p.Columns)], append(p.Row, value.Int(98))[:len(p.Row)], append(p.Params, api.Param{Name: "spare"})[:len(p.Params)]
	return p
}

// whole is a place with one more of each list than it has, which stands in its room; the empty lists of values that have no room are left.
func whole(p api.Place) api.Place {
	out := api.Place{Columns: p.Columns[:len(p.Columns)+1], Row: slices.Clone(p.Row[:len(p.Row)+1]), Params: p.Params[:len(p.Params)+1]}
	for i, v := range p.Row {
		v.List, v.Keys = v.List[:len(v.List)+1], v.Keys[:len(v.Keys)+1]
		out.Row[i] = v
	}
	return out
}

// copyOf copies a place, and the room behind its lists.
func copyOf(p api.Place) api.Place {
	n := len(p.Row)
	out := api.Place{Columns: slices.Clone(p.Columns[:n+1])[:n], Row: slices.Clone(p.Row[:n+1])[:n], Params: slices.Clone(p.Params[:len(p.Params)+1])[:len(p.Params)]}
	for i, v := range out.Row {
		out.Row[i].List, out.Row[i].Keys = slices.Clone(v.List[:len(v.List)+1])[:len(v.List)], slices.Clone(v.Keys[:len(v.Keys)+1])[:len(v.Keys)]
	}
	for i, q := range out.Params {
		out.Params[i].Value = value.Copy(q.Value)
	}
	return out
}

func samePlace(a, b api.Place) bool {
	like := func(x, y api.Value) bool {
		return slices.Equal(x.Keys, y.Keys) && slices.EqualFunc(x.List, y.List, value.Same) && value.Same(api.Value{Kind: x.Kind, Bool: x.Bool, Int: x.Int, Text: x.Text}, api.Value{Kind: y.Kind, Bool: y.Bool, Int: y.Int, Text: y.Text})
	}
	return slices.Equal(a.Columns, b.Columns) && slices.EqualFunc(a.Row, b.Row, like) &&
		slices.EqualFunc(a.Params, b.Params, func(x, y api.Param) bool { return x.Name == y.Name && like(x.Value, y.Value) })
}

// scribble writes over a value wherever it has memory, the room behind its lists included.
func scribble(v api.Value) {
	for i, x := range v.List[:cap(v.List)] {
		scribble(x)
		v.List[i] = value.String("scribbled")
	}
	for i := range v.Keys[:cap(v.Keys)] {
		v.Keys[i] = "scribbled"
	}
}

// An answer shares no memory with what was handed in, with the graph, with another answer, or within itself.
func TestAnswersAreNewMemory(t *testing.T) {
	world := world(t)
	before := world.Tell()
	p := place()
	kept := place()
	for _, s := range []string{"l", "$l", "o", "$o", "[l, l]", "{a: o, b: o}", "l + l", "l + []", "[] + l", "n.l", "[n.l, n.l]", "o.`b c`", "o['b c']", "head([l])", "last([o])", "coalesce(x, l)", "CASE WHEN y THEN o END", "[o][0]", "labels(n)", "keys(n)", "keys(o)", "range(1, 3)", "[[1]]", "{a: [1]}", "[$o, $o, o]"} {
		e := read(t, s)
		first, no := expr.Eval(world, p, e)
		want := told(first, no)
		if no != api.OK || strings.HasPrefix(want, "!") {
			t.Fatal(s, want)
		}
		second, _ := expr.Eval(world, p, e)
		for i := range first.List {
			rest := value.Copy(first)
			scribble(first.List[i])
			first.List[i], rest.List[i] = value.Null(), value.Null()
			if !value.Same(first, rest) {
				t.Errorf("%s shares memory within itself", s)
			}
		}
		scribble(first)
		if told(second, api.OK) != want || told(expr.Eval(world, p, e)) != want {
			t.Errorf("%s: %s", s, told(second, api.OK))
		}
	}
	for _, s := range []string{"o", "$o", "{a: l, b: l}", "{a: n.l}"} {
		e := read(t, s)
		want := toldProps(expr.Props(world, p, true, e))
		l, _ := expr.Props(world, p, true, e)
		for i := range l {
			scribble(l[i].Value)
			l[i] = api.Prop{Key: "scribbled"}
		}
		if got := toldProps(expr.Props(world, p, true, e)); got != want {
			t.Errorf("%s: %s", s, got)
		}
	}
	if !samePlace(p, kept) || !graph.Same(world.Tell(), before) {
		t.Error("changed")
	}
}
