package expr_test

import (
	"bytes"
	"math/big"
	"math/rand/v2"
	"slices"
	"sort"
	"strconv"
	"testing"

	"lattice/api"
	"lattice/expr"
	"lattice/syntax"
	"lattice/value"
)

// P7.1: another way of telling what an expression is worth, on plain lists, straight from the chapter's words.

type another struct {
	nodes []api.Node
	rels  []api.Rel
	at    api.Place
}

type answer struct {
	v  api.Value
	no api.Errno
}

var nothing = answer{}

func fine(v api.Value) answer        { return answer{v: v} }
func wrong(no api.Errno) answer      { return answer{no: no} }
func is(b bool) answer               { return fine(value.Bool(b)) }
func (a answer) kind() api.ValueKind { return a.v.Kind }

// great asks what comes out.
func great(a answer) answer {
	if a.no == api.OK && value.Check(a.v) != api.OK {
		return wrong(api.ErrGreat)
	}
	return a
}

// truthOf is -1, 0, 1 of false, nothing, true; 2 of anything else.
func truthOf(v api.Value) int {
	switch {
	case v.Kind == api.ValueNull:
		return 0
	case v.Kind == api.ValueBool && v.Bool:
		return 1
	case v.Kind == api.ValueBool:
		return -1
	}
	return 2
}

func ofTruth(n int) answer {
	if n == 0 {
		return nothing
	}
	return is(n > 0)
}

// same is whether two are equal, as truthOf tells it.
func same(a, b api.Value) int {
	switch {
	case a.Kind == api.ValueNull || b.Kind == api.ValueNull:
		return 0
	case a.Kind != b.Kind, len(a.List) != len(b.List), !slices.Equal(a.Keys, b.Keys), a.Bool != b.Bool, a.Int != b.Int, a.Text != b.Text:
		return -1
	}
	all := 1
	for i := range a.List {
		all = min(all, same(a.List[i], b.List[i]))
	}
	return all
}

// ahead is whether one is less than another, as truthOf tells it.
func ahead(a, b api.Value) int {
	less := false
	switch {
	case a.Kind == api.ValueInt && b.Kind == api.ValueInt:
		less = a.Int < b.Int
	case a.Kind == api.ValueText && b.Kind == api.ValueText:
		less = bytes.Compare([]byte(a.Text), []byte(b.Text)) < 0
	case a.Kind == api.ValueBool && b.Kind == api.ValueBool:
		less = !a.Bool && b.Bool
	default:
		return 0
	}
	if less {
		return 1
	}
	return -1
}

// big64 is a number that may be too wide.
func big64(n *big.Int) answer {
	if !n.IsInt64() {
		return wrong(api.ErrWide)
	}
	return fine(value.Int(n.Int64()))
}

func (m another) worth(e api.Expr) answer {
	switch e.Kind {
	case api.ExprCase:
		for i := 0; i+1 < len(e.Kids); i += 2 {
			c := m.worth(e.Kids[i])
			switch {
			case c.no != api.OK:
				return c
			case truthOf(c.v) == 2:
				return wrong(api.ErrType)
			case truthOf(c.v) == 1:
				return m.worth(e.Kids[i+1])
			}
		}
		return m.worth(e.Kids[len(e.Kids)-1])
	case api.ExprCall:
		if e.Name == "coalesce" && !e.Distinct && len(e.Kids) > 0 {
			for _, k := range e.Kids {
				if a := m.worth(k); a.no != api.OK || a.kind() != api.ValueNull {
					return a
				}
			}
			return nothing
		}
	}
	var l []api.Value
	for i, k := range e.Kids {
		a := m.worth(k)
		if a.no != api.OK {
			return a
		}
		l = append(l, a.v)
		if i == 0 && e.Kind == api.ExprBin && (e.Name == "AND" && truthOf(a.v) == -1 || e.Name == "OR" && truthOf(a.v) == 1) {
			return a
		}
	}
	return great(m.made(e, l))
}

func (m another) made(e api.Expr, l []api.Value) answer {
	switch e.Kind {
	case api.ExprLiteral:
		return fine(e.Value)
	case api.ExprParam:
		for i := range m.at.Params {
			if m.at.Params[i].Name == e.Name {
				return fine(m.at.Params[i].Value)
			}
		}
		return wrong(api.ErrParam)
	case api.ExprVar:
		for i := range m.at.Columns {
			if m.at.Columns[i] == e.Name {
				return fine(m.at.Row[i])
			}
		}
		return wrong(api.ErrVar)
	case api.ExprProp:
		return m.property(l[0], e.Name)
	case api.ExprIndex:
		return index(l[0], l[1])
	case api.ExprList:
		return fine(api.Value{Kind: api.ValueList, List: l})
	case api.ExprMap:
		return ofPairs(e.Keys, l)
	case api.ExprNot:
		if truthOf(l[0]) == 2 {
			return wrong(api.ErrType)
		}
		return ofTruth(-truthOf(l[0]))
	case api.ExprNeg:
		return arithmetic("-", value.Int(0), l[0])
	case api.ExprIsNull:
		return is(l[0].Kind == api.ValueNull)
	case api.ExprNotNull:
		return is(l[0].Kind != api.ValueNull)
	case api.ExprLabel:
		switch l[0].Kind {
		case api.ValueNull:
			return nothing
		case api.ValueNode:
			labels, _ := m.node(l[0].Int)
			return is(slices.Contains(labels, e.Name))
		}
		return wrong(api.ErrType)
	case api.ExprBin:
		return operator(e.Name, l[0], l[1])
	case api.ExprCount:
		return wrong(api.ErrAggregate)
	}
	return m.call(e, l)
}

func (m another) node(id int64) ([]string, []api.Prop) {
	for _, n := range m.nodes {
		if n.ID == id {
			return n.Labels, n.Props
		}
	}
	return nil, nil
}

func (m another) rel(id int64) (string, []api.Prop) {
	for _, r := range m.rels {
		if r.ID == id {
			return r.Type, r.Props
		}
	}
	return "", nil
}

// fields are what has keys: a map's, an element's.
func (m another) fields(v api.Value) ([]api.Prop, bool) {
	var l []api.Prop
	switch v.Kind {
	case api.ValueNode:
		_, l = m.node(v.Int)
	case api.ValueRel:
		_, l = m.rel(v.Int)
	case api.ValueMap:
		for i, k := range v.Keys {
			l = append(l, api.Prop{Key: k, Value: v.List[i]})
		}
	default:
		return nil, false
	}
	return l, true
}

func (m another) property(v api.Value, key string) answer {
	if v.Kind == api.ValueNull {
		return nothing
	}
	l, has := m.fields(v)
	if !has {
		return wrong(api.ErrType)
	}
	for _, p := range l {
		if p.Key == key {
			return fine(p.Value)
		}
	}
	return nothing
}

func index(of, by api.Value) answer {
	switch {
	case of.Kind == api.ValueNull, by.Kind == api.ValueNull:
		return nothing
	case of.Kind == api.ValueMap && by.Kind == api.ValueText:
		return another{}.property(of, by.Text)
	case of.Kind == api.ValueList && by.Kind == api.ValueInt:
		for i, v := range of.List {
			if int64(i) == by.Int || int64(i-len(of.List)) == by.Int {
				return fine(v)
			}
		}
		return nothing
	}
	return wrong(api.ErrType)
}

func ofPairs(keys []string, l []api.Value) answer {
	v := api.Value{Kind: api.ValueMap, Keys: slices.Clone(keys)}
	sort.Strings(v.Keys)
	for _, k := range v.Keys {
		v.List = append(v.List, l[slices.Index(keys, k)])
	}
	return fine(v)
}

func operator(name string, a, b api.Value) answer {
	switch name {
	case "AND", "OR", "XOR":
		x, y := truthOf(a), truthOf(b)
		if x == 2 || y == 2 {
			return wrong(api.ErrType)
		}
		return ofTruth(map[string]int{"AND": min(x, y), "OR": max(x, y), "XOR": -x * y}[name])
	case "=":
		return ofTruth(same(a, b))
	case "<>":
		return ofTruth(-same(a, b))
	case "<":
		return ofTruth(ahead(a, b))
	case ">":
		return ofTruth(ahead(b, a))
	case "<=": // where there is a less, one of both is less, or they are the same
		return ofTruth(-ahead(b, a))
	case ">=":
		return ofTruth(-ahead(a, b))
	case "IN":
		return in(a, b)
	case "STARTS", "ENDS", "CONTAINS":
		return parts(name, a, b)
	}
	return arithmetic(name, a, b)
}

func in(v, of api.Value) answer {
	if of.Kind == api.ValueNull {
		return nothing
	}
	if of.Kind != api.ValueList {
		return wrong(api.ErrType)
	}
	best := -1
	for _, x := range of.List {
		best = max(best, same(v, x))
	}
	return ofTruth(best)
}

// parts looks at each place of the text at which the other one might stand.
func parts(name string, a, b api.Value) answer {
	if a.Kind != api.ValueText || b.Kind != api.ValueText {
		return nothing
	}
	var at []int
	for i := 0; i+len(b.Text) <= len(a.Text); i++ {
		if a.Text[i:i+len(b.Text)] == b.Text {
			at = append(at, i)
		}
	}
	switch name {
	case "STARTS":
		return is(slices.Contains(at, 0))
	case "ENDS":
		return is(slices.Contains(at, len(a.Text)-len(b.Text)))
	}
	return is(len(at) > 0)
}

func arithmetic(name string, a, b api.Value) answer {
	if a.Kind == api.ValueNull || b.Kind == api.ValueNull {
		return nothing
	}
	if name == "+" && a.Kind == api.ValueText && b.Kind == api.ValueText {
		return fine(value.String(a.Text + b.Text))
	}
	if name == "+" && a.Kind == api.ValueList && b.Kind == api.ValueList {
		return fine(value.List(append(slices.Clone(a.List), b.List...)...))
	}
	if a.Kind != api.ValueInt || b.Kind != api.ValueInt {
		return wrong(api.ErrType)
	}
	x, y, n := big.NewInt(a.Int), big.NewInt(b.Int), new(big.Int)
	switch name {
	case "+":
		return big64(n.Add(x, y))
	case "-":
		return big64(n.Sub(x, y))
	case "*":
		return big64(n.Mul(x, y))
	}
	if y.Sign() == 0 {
		return wrong(api.ErrZero)
	}
	if name == "/" {
		return big64(n.Quo(x, y))
	}
	return big64(n.Rem(x, y))
}

func (m another) call(e api.Expr, l []api.Value) answer {
	least, most := 1, 1
	switch e.Name {
	case "count", "sum", "min", "max", "collect":
		return wrong(api.ErrAggregate)
	case "id", "labels", "type", "size", "head", "last", "abs", "keys", "toString":
	case "range":
		least, most = 2, 3
	default:
		return wrong(api.ErrFunction)
	}
	if len(l) < least || len(l) > most || e.Distinct {
		return wrong(api.ErrFunction)
	}
	for _, v := range l {
		if v.Kind == api.ValueNull {
			return nothing
		}
	}
	if e.Name == "range" {
		return numbersFrom(l)
	}
	return m.function(e.Name, l[0])
}

func numbersFrom(l []api.Value) answer {
	step := big.NewInt(1)
	for _, v := range l {
		if v.Kind != api.ValueInt {
			return wrong(api.ErrType)
		}
	}
	if len(l) == 3 {
		step = big.NewInt(l[2].Int)
	}
	if step.Sign() == 0 {
		return wrong(api.ErrZero)
	}
	v := value.List()
	to := big.NewInt(l[1].Int)
	for n := big.NewInt(l[0].Int); n.Cmp(to)*step.Sign() <= 0; n.Add(n, step) {
		if len(v.List) == api.MaxRows {
			return wrong(api.ErrGreat)
		}
		v.List = append(v.List, value.Int(n.Int64()))
	}
	return fine(v)
}

func (m another) function(name string, v api.Value) answer {
	kinds := map[string][]api.ValueKind{
		"id": {api.ValueNode, api.ValueRel}, "labels": {api.ValueNode}, "type": {api.ValueRel}, "keys": {api.ValueMap, api.ValueNode, api.ValueRel}, "size": {api.ValueText, api.ValueList},
		"head": {api.ValueList}, "last": {api.ValueList}, "abs": {api.ValueInt}, "toString": {api.ValueText, api.ValueInt, api.ValueBool},
	}
	if !slices.Contains(kinds[name], v.Kind) {
		return wrong(api.ErrType)
	}
	out := value.List()
	switch name {
	case "id":
		return fine(value.Int(v.Int))
	case "labels":
		labels, _ := m.node(v.Int)
		for _, s := range labels {
			out.List = append(out.List, value.String(s))
		}
		return fine(out)
	case "type":
		if kind, _ := m.rel(v.Int); kind != "" {
			return fine(value.String(kind))
		}
		return nothing
	case "keys":
		l, _ := m.fields(v)
		for _, p := range l {
			out.List = append(out.List, value.String(p.Key))
		}
		return fine(out)
	case "size":
		if v.Kind == api.ValueText {
			return fine(value.Int(int64(len(v.Text))))
		}
		return fine(value.Int(int64(len(v.List))))
	case "head":
		return index(v, value.Int(0))
	case "last":
		return index(v, value.Int(-1))
	case "abs":
		n := big.NewInt(v.Int)
		return big64(n.Abs(n))
	}
	switch v.Kind {
	case api.ValueInt:
		return fine(value.String(strconv.FormatInt(v.Int, 10)))
	case api.ValueBool:
		return fine(value.String(strconv.FormatBool(v.Bool)))
	}
	return fine(v)
}

// ask holds Eval against the other way.
func ask(t *testing.T, m another, eval func(api.Expr) (api.Value, api.Errno), e api.Expr) api.Errno {
	t.Helper()
	want := m.worth(e)
	v, no := eval(e)
	if no != want.no || !value.Same(v, want.v) {
		t.Fatalf("%s: %s, not %s", syntax.Text(e), told(v, no), told(want.v, want.no))
	}
	return no
}

func others(t *testing.T) (another, func(api.Expr) (api.Value, api.Errno)) {
	g, p := world(t), place()
	told := g.Tell()
	return another{told.Nodes, told.Rels, p}, func(e api.Expr) (api.Value, api.Errno) { return expr.Eval(g, p, e) }
}

// samples are values of every kind, with what is like and unlike them.
func samples() []api.Value {
	n := func(l ...int64) api.Value {
		v := value.List()
		for _, x := range l {
			v.List = append(v.List, value.Int(x))
		}
		return v
	}
	return []api.Value{
		value.Null(), value.Bool(false), value.Bool(true), value.Int(0), value.Int(1), value.Int(-1), value.Int(2), value.Int(7), value.Int(-1 << 63), value.Int(1<<63 - 1), value.Int(1 << 32),
		value.String(""), value.String("a"), value.String("ab"), value.String("b"), value.String("k"), value.String("é"),
		n(), n(1), n(1, 2), value.List(value.Null()), value.List(value.Int(1), value.Null()), value.List(n(1), value.String("a")),
		mapOf(nil), mapOf([]string{"k"}, value.Int(1)), mapOf([]string{"k"}, value.Null()), mapOf([]string{"a", "k"}, value.Int(1), n(1)),
		node(0), node(1), node(2), node(3), rel(0), rel(1), rel(2),
	}
}

func operators() []string {
	return []string{"OR", "XOR", "AND", "=", "<>", "<", "<=", ">", ">=", "IN", "STARTS", "ENDS", "CONTAINS", "+", "-", "*", "/", "%"}
}

// Each operator and each function, of all samples.
func TestAllOfAllSamples(t *testing.T) {
	m, _ := others(t)
	g := world(t)
	all := samples()
	m.at = api.Place{Columns: []string{"a", "b", "c"}, Row: make([]api.Value, 3)}
	eval := func(e api.Expr) (api.Value, api.Errno) { return expr.Eval(g, m.at, e) }
	a, b, c := variable("a"), variable("b"), variable("c")
	ones := []api.Expr{a, one(api.ExprNot, "", a), one(api.ExprNeg, "", a), one(api.ExprIsNull, "", a), one(api.ExprNotNull, "", a), one(api.ExprLabel, "A", a), one(api.ExprLabel, "C", a), one(api.ExprProp, "k", a), one(api.ExprProp, "a", a), list(a, a), {Kind: api.ExprMap, Keys: []string{"z", "a"}, Kids: []api.Expr{a, a}}, call("coalesce", a)}
	for _, name := range []string{"id", "labels", "type", "size", "head", "last", "abs", "keys", "toString", "count", "nope"} {
		ones = append(ones, call(name, a))
	}
	twos := []api.Expr{{Kind: api.ExprIndex, Kids: []api.Expr{a, b}}, call("coalesce", a, b), call("abs", a, b), {Kind: api.ExprCase, Kids: []api.Expr{a, b, literal(value.Int(5))}}}
	for _, o := range operators() {
		twos = append(twos, joined(o, a, b))
	}
	for _, x := range all {
		m.at.Row[0] = x
		for _, e := range ones {
			ask(t, m, eval, e)
		}
		for _, y := range all {
			m.at.Row[1] = y
			for _, e := range twos {
				ask(t, m, eval, e)
			}
			if small := func(v api.Value) bool { return v.Int >= -10 && v.Int <= 10 }; !small(x) || !small(y) {
				continue // a range from one end to the other takes its time
			}
			ask(t, m, eval, call("range", a, b))
			for _, z := range all {
				m.at.Row[2] = z
				ask(t, m, eval, call("range", a, b, c))
			}
		}
	}
}

// grower makes expressions by chance, more of those that are worth something than chance alone would.
type grower struct{ *rand.Rand }

func pick[T any](g grower, l ...T) T { return l[g.IntN(len(l))] }

func (g grower) leaf() api.Expr {
	switch g.IntN(10) {
	case 0, 1:
		return variable(pick(g, "n", "m", "c", "lost", "never", "r", "u", "lostr", "x", "y", "z", "i", "t", "e", "l", "none", "o", "bare", "twice", "nowhere"))
	case 2:
		return param(pick(g, "n", "r", "x", "y", "i", "t", "l", "o", "twice", "$ only", "nowhere"))
	case 3:
		return one(api.ExprProp, pick(g, "k", "l", "b c", "no", "z"), variable(pick(g, "n", "m", "lost", "r", "u", "lostr", "o", "x")))
	}
	return literal(pick(g, value.Null(), value.Bool(true), value.Bool(false), value.Bool(true), value.Int(0), value.Int(int64(g.IntN(7)-3)), value.Int(int64(g.IntN(7)-3)), value.Int(pick[int64](g, 1<<63-1, -1<<63, 1<<31)), value.String(pick(g, "", "a", "ab", "b", "k", "abc"))))
}

func (g grower) some(deep, least, most int) []api.Expr {
	l := make([]api.Expr, least+g.IntN(most-least+1))
	for i := range l {
		l[i] = g.expr(deep - 1)
	}
	return l
}

func (g grower) expr(deep int) api.Expr {
	if deep <= 1 {
		return g.leaf()
	}
	switch g.IntN(16) {
	case 0, 1:
		return g.leaf()
	case 2:
		return one(api.ExprProp, pick(g, "k", "a", "b c"), g.expr(deep-1))
	case 3:
		return api.Expr{Kind: api.ExprIndex, Kids: g.some(deep, 2, 2)}
	case 4:
		return list(g.some(deep, 0, 3)...)
	case 5:
		keys := []string{"k", "a", "b c"}
		g.Shuffle(len(keys), func(i, j int) { keys[i], keys[j] = keys[j], keys[i] })
		kids := g.some(deep, 0, 3)
		return api.Expr{Kind: api.ExprMap, Keys: keys[:len(kids)], Kids: kids}
	case 6:
		return one(pick(g, api.ExprNot, api.ExprNeg, api.ExprIsNull, api.ExprNotNull), "", g.expr(deep-1))
	case 7:
		return one(api.ExprLabel, pick(g, "A", "B c", "C"), g.expr(deep-1))
	case 8:
		return api.Expr{Kind: api.ExprCase, Kids: slices.Concat(g.some(deep, 2, 2), g.some(deep, 2, 2)[:2*g.IntN(2)], g.some(deep, 1, 1))}
	case 9:
		return call("coalesce", g.some(deep, 1, 3)...)
	case 10:
		return call("range", g.some(2, 2, 3)...)
	case 11, 12:
		return g.call(deep)
	}
	return joined(pick(g, operators()...), g.expr(deep-1), g.expr(deep-1))
}

func (g grower) call(deep int) api.Expr {
	if g.IntN(12) > 0 {
		return call(pick(g, "id", "labels", "type", "size", "head", "last", "abs", "keys", "toString"), g.some(deep, 1, 1)...)
	}
	if g.IntN(8) == 0 {
		return api.Expr{Kind: api.ExprCount}
	}
	e := call(pick(g, "id", "range", "coalesce", "keys", "count", "sum", "min", "max", "collect", "nope", "Id"), g.some(deep, 0, 4)...)
	e.Distinct = len(e.Kids) > 0 && g.IntN(3) == 0
	return e
}

func TestAnotherWay(t *testing.T) {
	m, eval := others(t)
	g := grower{rand.New(rand.NewPCG(7, 1))}
	told := map[api.Errno]int{}
	for range 60000 {
		told[ask(t, m, eval, g.expr(2+g.IntN(4)))]++
	}
	for _, no := range []api.Errno{api.ErrVar, api.ErrParam, api.ErrType, api.ErrGreat, api.ErrAggregate, api.ErrFunction, api.ErrWide, api.ErrZero} {
		if told[no] < 20 {
			t.Errorf("%s came %d times", errorName(no), told[no])
		}
	}
	if told[api.OK] < 10000 {
		t.Error(told[api.OK])
	}
}
