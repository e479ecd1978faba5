package syntax_test

import (
	"reflect"
	"testing"

	"lattice/api"
	"lattice/syntax"
	"lattice/value"
)

// P4.4

// full is a query in which every field of every part is something, whether it may be or not.
func full() api.Query {
	v := api.Value{Kind: 5, Bool: true, Int: 7, Text: "t", Keys: []string{"k", "l"}, List: []api.Value{{Kind: 4, List: []api.Value{value.Int(1), {}}}, value.String("x")}}
	leaf := api.Expr{Kind: 2, Name: "n", Value: v, Keys: []string{"k", "l"}, Distinct: true}
	e := func() api.Expr {
		e := leaf
		e.Value = value.Copy(v)
		e.Keys = []string{"k", "l"}
		kid := leaf
		kid.Value = value.Copy(v)
		kid.Keys = []string{"m"}
		e.Kids = []api.Expr{kid, {Kind: 3, Kids: []api.Expr{{Name: "o"}, {}}}}
		return e
	}
	path := func() api.Path {
		return api.Path{
			Nodes: []api.NodePat{{Var: "a", Labels: []string{"A", "B"}, Has: true, Props: e()}, {}},
			Rels:  []api.RelPat{{Var: "r", Types: []string{"T", "U"}, Dir: 1, Has: true, Props: e()}, {}},
		}
	}
	c := func() api.Clause {
		return api.Clause{Kind: 3, Optional: true, Distinct: true, Detach: true, Paths: []api.Path{path(), {}}, Items: []api.Item{{Expr: e(), As: "b"}, {}}, Order: []api.SortKey{{Expr: e(), Desc: true}, {}},
			HasWhere: true, HasSkip: true, HasLimit: true, Where: e(), Skip: e(), Limit: e(), Expr: e(), As: "c", Sets: []api.SetItem{{Kind: 1, Var: "a", Key: "k", Value: e()}, {}}, Vars: []string{"a", "b"}}
	}
	return api.Query{Clauses: []api.Clause{c(), {}, c()}}
}

// places goes over all that is in a thing, and hands on how to set it to something else and back.
func places(v reflect.Value, f func(name string, change, back func()), name string) {
	old := reflect.New(v.Type()).Elem()
	old.Set(v)
	back := func() { v.Set(old) }
	with := func(how string, x any) {
		f(name+how, func() { v.Set(reflect.ValueOf(x).Convert(v.Type())) }, back)
	}
	switch v.Kind() {
	case reflect.Struct:
		for i := range v.NumField() {
			places(v.Field(i), f, name+"."+v.Type().Field(i).Name)
		}
	case reflect.Slice:
		f(name+" longer", func() { v.Set(reflect.Append(v.Slice3(0, v.Len(), v.Len()), reflect.Zero(v.Type().Elem()))) }, back)
		if v.Len() > 0 {
			f(name+" shorter", func() { v.Set(v.Slice(0, v.Len()-1)) }, back)
			f(name+" gone", func() { v.SetZero() }, back)
		}
		for i := range v.Len() {
			places(v.Index(i), f, name+"[]")
		}
	case reflect.Bool:
		with("", !v.Bool())
	case reflect.Int, reflect.Int64:
		with("", v.Int()+1)
	case reflect.String:
		with("", v.String()+"x")
	}
}

func TestSameInAllFields(t *testing.T) {
	a, b := full(), full()
	if !syntax.Same(a, b) || !same(a, b) {
		t.Fatal("as they are")
	}
	n := 0
	places(reflect.ValueOf(&b).Elem(), func(name string, change, back func()) {
		n++
		change()
		if syntax.Same(a, b) || syntax.Same(b, a) {
			t.Error(name)
		}
		back()
		if !syntax.Same(a, b) {
			t.Error(name, "back")
		}
	}, "")
	if n < 1000 {
		t.Error(n)
	}
	x, y := full().Clauses[0].Where, full().Clauses[0].Where
	places(reflect.ValueOf(&y).Elem(), func(name string, change, back func()) {
		change()
		if syntax.SameExpr(x, y) || syntax.SameExpr(y, x) {
			t.Error(name)
		}
		back()
		if !syntax.SameExpr(x, y) {
			t.Error(name, "back")
		}
	}, "")
}

func TestSameOrder(t *testing.T) {
	for _, l := range [][2]string{{"RETURN a, b", "RETURN b, a"}, {"MATCH (a), (b)", "MATCH (b), (a)"}, {"MATCH (:A:B)", "MATCH (:B:A)"}, {"DELETE a, b", "DELETE b, a"}, {"RETURN {a: 1, b: 2}", "RETURN {b: 2, a: 1}"}, {"RETURN a RETURN b", "RETURN b RETURN a"}, {"RETURN 1", "RETURN '1'"}, {"MATCH (a)-->(b)", "MATCH (a)<--(b)"}, {"RETURN a AS a", "RETURN a"}, {"WITH a", "RETURN a"}, {"WITH a LIMIT null", "WITH a"}} {
		a, _, e := syntax.Parse(l[0])
		b, _, f := syntax.Parse(l[1])
		if e != api.OK || f != api.OK || syntax.Same(a, b) || !syntax.Same(a, a) || !syntax.Same(b, b) {
			t.Error(l)
		}
	}
	if !syntax.Same(api.Query{}, api.Query{Clauses: []api.Clause{}}) || !syntax.SameExpr(api.Expr{}, api.Expr{Keys: []string{}, Kids: []api.Expr{}, Value: api.Value{Keys: []string{}, List: []api.Value{}}}) {
		t.Error("nothing and empty")
	}
	if !syntax.Same(api.Query{Clauses: []api.Clause{{Vars: []string{}, Paths: []api.Path{{}}}}}, api.Query{Clauses: []api.Clause{{Paths: []api.Path{{Nodes: []api.NodePat{}, Rels: []api.RelPat{}}}}}}) {
		t.Error("nothing and empty within")
	}
}

// memory tells where the lists within a thing lie.
func memory(v reflect.Value, seen map[uintptr]int) {
	switch v.Kind() {
	case reflect.Struct:
		for i := range v.NumField() {
			memory(v.Field(i), seen)
		}
	case reflect.Slice:
		if v.Cap() > 0 {
			seen[v.Pointer()]++
		}
		for i := range v.Len() {
			memory(v.Index(i), seen)
		}
	}
}

// apart holds that a copy shares no memory with what it is of, nor within itself.
func apart(t *testing.T, of, copied any) {
	t.Helper()
	a, b := map[uintptr]int{}, map[uintptr]int{}
	memory(reflect.ValueOf(of), a)
	memory(reflect.ValueOf(copied), b)
	for p, n := range b {
		if n != 1 || a[p] != 0 {
			t.Fatal("shared")
		}
	}
}

func TestCopies(t *testing.T) {
	q := full()
	shared := q.Clauses[0]
	q.Clauses = append(q.Clauses, shared, shared)
	c := syntax.CopyQuery(q)
	if !same(c, q) || !syntax.Same(c, q) {
		t.Error("not the same")
	}
	apart(t, q, c)
	before := syntax.CopyQuery(q)
	places(reflect.ValueOf(&c).Elem(), func(_ string, change, _ func()) { change() }, "")
	if !same(before, q) {
		t.Error("changed with its copy")
	}
	kid := full().Clauses[0].Where
	e := api.Expr{Kind: api.ExprList, Kids: []api.Expr{kid, kid, {}}}
	d := syntax.Copy(e)
	if !same(d, e) || !syntax.SameExpr(d, e) {
		t.Error("not the same")
	}
	apart(t, e, d)
	if !same(syntax.Copy(api.Expr{}), api.Expr{}) || !same(syntax.CopyQuery(api.Query{}), api.Query{}) {
		t.Error("of nothing")
	}
}

func TestDeepOnes(t *testing.T) {
	a, b := api.Expr{}, api.Expr{Name: "x"}
	v := api.Value{}
	for range 1<<16 - 2 {
		a, b = list(a), list(b)
		v = api.Value{Kind: api.ValueList, List: []api.Value{v}}
	}
	if !syntax.SameExpr(a, syntax.Copy(a)) || syntax.SameExpr(a, b) {
		t.Error("deep")
	}
	if e := (api.Expr{Value: v}); !syntax.SameExpr(e, syntax.Copy(e)) || syntax.CheckExpr(e) != api.ErrArg || syntax.Text(e) != "" {
		t.Error("a deep value")
	}
}

// What is handed in is not changed, and answers are new memory.
func TestNothingIsChangedOrShared(t *testing.T) {
	m := makers(7)
	for range 300 {
		q := m.query(4)
		before := syntax.CopyQuery(q)
		s, _ := syntax.Print(q)
		syntax.Check(q)
		a, _, _ := syntax.Parse(s)
		b, _, _ := syntax.Parse(s)
		if !same(before, q) {
			t.Fatal(s)
		}
		apart(t, a, b)
		apart(t, q, a)
	}
}
