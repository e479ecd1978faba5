package syntax_test

import (
	"math/rand/v2"
	"reflect"
	"strconv"
	"strings"
	"testing"

	"lattice/api"
	"lattice/words"
)

// token is a word of a text that is told: where no blank stands beside it in the text that the chapter asks for.
type token struct {
	text      string
	tight     bool // none ahead of it
	tightNext bool // none behind it
}

// scribe tells queries by a way of its own: word by word, as the chapter asks for, or as sloppily as it can be read.
type scribe struct {
	*rand.Rand // nil: as the chapter asks for
	tokens     []token
}

func (s *scribe) sloppy() bool    { return s.Rand != nil }
func (s *scribe) perhaps() bool   { return s.sloppy() && s.IntN(3) == 0 }
func (s *scribe) put(text string) { s.tokens = append(s.tokens, token{text: text}) }
func (s *scribe) left(x string)   { s.tokens = append(s.tokens, token{x, true, false}) }
func (s *scribe) right(x string)  { s.tokens = append(s.tokens, token{x, false, true}) }
func (s *scribe) both(x string)   { s.tokens = append(s.tokens, token{x, true, true}) }

// keywords puts words that may be written in any letters.
func (s *scribe) keywords(l string) {
	for _, k := range strings.Fields(l) {
		if s.sloppy() {
			b := []byte(k)
			for i := range b {
				if s.IntN(2) == 0 {
					b[i] |= 32
				}
			}
			k = string(b)
		}
		s.put(k)
	}
}

// name puts a name where one that is reserved may not stand bare; any where it may.
func (s *scribe) name(n string) {
	if s.perhaps() {
		s.put("`" + strings.ReplaceAll(n, "`", "``") + "`")
		return
	}
	s.put(words.Spell(n))
}

func (s *scribe) any(n string) {
	if s.perhaps() && words.Reserved(n) {
		s.put(n)
		return
	}
	s.name(n)
}

func row[T any](s *scribe, l []T, f func(T)) {
	for i, x := range l {
		if i > 0 {
			s.left(",")
		}
		f(x)
	}
}

// String lays the words out.
func (s *scribe) String() string {
	var b strings.Builder
	for i, t := range s.tokens {
		if i > 0 {
			b.WriteString(s.gap(s.tokens[i-1], t))
		}
		b.WriteString(t.text)
	}
	return b.String()
}

func (s *scribe) gap(a, b token) string {
	if !s.sloppy() {
		if a.tightNext || b.tight {
			return ""
		}
		return " "
	}
	if a.text == "/" {
		return " " // lest a comment begins with it
	}
	l, _, e := words.Lex(a.text + b.text)
	if e == api.OK && len(l) == 2 && l[1].At == len(a.text) && s.IntN(2) == 0 {
		return ""
	}
	return []string{" ", "\n", "  ", "\t\r", "/* ) */", " // '\n"}[s.IntN(6)]
}

func (s *scribe) query(q api.Query) {
	for _, c := range q.Clauses {
		s.clause(c)
	}
}

func (s *scribe) option(has bool, keyword string, e api.Expr) {
	if has {
		s.keywords(keyword)
		s.expr(e, 0)
	}
}

func (s *scribe) clause(c api.Clause) {
	switch c.Kind {
	case api.ClauseMatch:
		if c.Optional {
			s.keywords("OPTIONAL")
		}
		s.keywords("MATCH")
		row(s, c.Paths, s.path)
		s.option(c.HasWhere, "WHERE", c.Where)
	case api.ClauseUnwind:
		s.keywords("UNWIND")
		s.expr(c.Expr, 0)
		s.keywords("AS")
		s.name(c.As)
	case api.ClauseWith:
		s.keywords("WITH")
		s.told(c)
		s.option(c.HasWhere, "WHERE", c.Where)
	case api.ClauseReturn:
		s.keywords("RETURN")
		s.told(c)
	case api.ClauseCreate:
		s.keywords("CREATE")
		row(s, c.Paths, s.path)
	case api.ClauseSet, api.ClauseRemove:
		s.keywords([]string{"SET", "REMOVE"}[c.Kind-api.ClauseSet])
		row(s, c.Sets, func(i api.SetItem) { s.set(c.Kind, i) })
	case api.ClauseDelete:
		if c.Detach {
			s.keywords("DETACH")
		}
		s.keywords("DELETE")
		row(s, c.Vars, s.name)
	}
}

func (s *scribe) told(c api.Clause) {
	if c.Distinct {
		s.keywords("DISTINCT")
	}
	row(s, c.Items, func(i api.Item) {
		s.expr(i.Expr, 0)
		if i.As != "" {
			s.keywords("AS")
			s.name(i.As)
		}
	})
	if len(c.Order) > 0 {
		s.keywords("ORDER BY")
	}
	row(s, c.Order, func(k api.SortKey) {
		s.expr(k.Expr, 0)
		switch {
		case k.Desc && s.perhaps():
			s.keywords("DESCENDING")
		case k.Desc:
			s.keywords("DESC")
		case s.sloppy():
			s.keywords([]string{"", "ASC", "ASCENDING"}[s.IntN(3)])
		}
	})
	s.option(c.HasSkip, "SKIP", c.Skip)
	s.option(c.HasLimit, "LIMIT", c.Limit)
}

func (s *scribe) set(kind api.ClauseKind, i api.SetItem) {
	s.name(i.Var)
	switch i.Kind {
	case api.SetLabel:
		s.both(":")
		s.any(i.Key)
	case api.SetProp:
		s.both(".")
		s.any(i.Key)
		if kind == api.ClauseSet {
			s.put("=")
			s.expr(i.Value, 0)
		}
	}
}

func (s *scribe) path(p api.Path) {
	for i, n := range p.Nodes {
		if i > 0 {
			s.rel(p.Rels[i-1])
		}
		s.right("(")
		if n.Var != "" {
			s.name(n.Var)
		}
		for _, l := range n.Labels {
			s.both(":")
			s.any(l)
		}
		if n.Has {
			s.mapping(n.Props)
		}
		s.left(")")
	}
}

func (s *scribe) rel(r api.RelPat) {
	if r.Dir == -1 {
		s.both("<")
	}
	s.both("-")
	if r.Var != "" || len(r.Types) > 0 || r.Has || s.perhaps() {
		s.both("[")
		if r.Var != "" {
			s.name(r.Var)
		}
		for i, x := range r.Types {
			s.both([]string{":", "|"}[min(i, 1)])
			s.any(x)
		}
		if r.Has {
			s.mapping(r.Props)
		}
		s.left("]")
	}
	s.both("-")
	if r.Dir == 1 {
		s.both(">")
	}
}

func (s *scribe) mapping(e api.Expr) {
	s.right("{")
	for i, k := range e.Keys {
		if i > 0 {
			s.left(",")
		}
		s.any(k)
		s.left(":")
		s.expr(e.Kids[i], 0)
	}
	s.left("}")
}

// binds tells at which level of the language an expression stands.
func binds(e api.Expr) int {
	switch e.Kind {
	case api.ExprBin:
		for n, l := range [][]string{{"OR"}, {"XOR"}, {"AND"}, {}, {"=", "<>", "<", "<=", ">", ">=", "IN", "STARTS", "ENDS", "CONTAINS"}, {"+", "-"}, {"*", "/", "%"}} {
			for _, o := range l {
				if o == e.Name {
					return n
				}
			}
		}
	case api.ExprNot:
		return 3
	case api.ExprIsNull, api.ExprNotNull, api.ExprLabel:
		return 4
	case api.ExprNeg:
		return 7
	case api.ExprProp, api.ExprIndex:
		return 8
	}
	return 9
}

// digit tells whether an expression's text begins with a number that would take a - ahead of it for its own.
func digit(e api.Expr) bool {
	for e.Kind == api.ExprProp || e.Kind == api.ExprIndex {
		e = e.Kids[0]
	}
	return e.Kind == api.ExprLiteral && e.Value.Kind == api.ValueInt && e.Value.Int >= 0
}

// kid puts a Kid that must stand at a level at least, in brackets, if it must or perhaps.
func (s *scribe) kid(e api.Expr, level int) {
	if !s.sloppy() {
		level = 8
	}
	s.enclosed(e, level, s.perhaps() || binds(e) < level)
}

func (s *scribe) enclosed(e api.Expr, level int, brackets bool) {
	if !brackets {
		s.expr(e, level)
		return
	}
	s.right("(")
	s.expr(e, 0)
	s.left(")")
}

func (s *scribe) kids(l []api.Expr) { row(s, l, func(e api.Expr) { s.expr(e, 0) }) }

// expr puts an expression that stands at a level.
func (s *scribe) expr(e api.Expr, level int) {
	if level == 0 && s.perhaps() {
		s.kid(e, 9)
		return
	}
	switch e.Kind {
	case api.ExprLiteral:
		s.literal(e.Value)
	case api.ExprParam:
		s.right("$")
		s.any(e.Name)
	case api.ExprVar:
		s.name(e.Name)
	case api.ExprProp:
		s.kid(e.Kids[0], 8)
		s.both(".")
		s.any(e.Name)
	case api.ExprIndex:
		s.kid(e.Kids[0], 8)
		s.both("[")
		s.expr(e.Kids[1], 0)
		s.left("]")
	case api.ExprList:
		s.right("[")
		s.kids(e.Kids)
		s.left("]")
	case api.ExprMap:
		s.mapping(e)
	case api.ExprCall:
		s.name(e.Name)
		s.both("(")
		if e.Distinct {
			s.keywords("DISTINCT")
		}
		s.kids(e.Kids)
		s.left(")")
	default:
		s.joined(e)
	}
}

func (s *scribe) joined(e api.Expr) {
	switch e.Kind {
	case api.ExprCount:
		s.put("count")
		s.both("(")
		s.put("*")
		s.left(")")
	case api.ExprNot:
		s.keywords("NOT")
		s.kid(e.Kids[0], 3)
	case api.ExprNeg:
		s.right("-")
		kid := e.Kids[0]
		s.enclosed(kid, 7, !s.sloppy() || s.perhaps() || binds(kid) < 7 || digit(kid))
	case api.ExprIsNull:
		s.kid(e.Kids[0], 4)
		s.keywords("IS NULL")
	case api.ExprNotNull:
		s.kid(e.Kids[0], 4)
		s.keywords("IS NOT NULL")
	case api.ExprLabel:
		s.kid(e.Kids[0], 4)
		s.both(":")
		s.any(e.Name)
	case api.ExprBin:
		s.kid(e.Kids[0], binds(e))
		s.keywords(e.Name)
		if e.Name == "STARTS" || e.Name == "ENDS" {
			s.keywords("WITH")
		}
		s.kid(e.Kids[1], binds(e)+1)
	case api.ExprCase:
		s.keywords("CASE")
		last := len(e.Kids) - 1
		for i := 0; i < last; i += 2 {
			s.option(true, "WHEN", e.Kids[i])
			s.option(true, "THEN", e.Kids[i+1])
		}
		if !same(e.Kids[last], api.Expr{}) || !s.perhaps() {
			s.option(true, "ELSE", e.Kids[last])
		}
		s.keywords("END")
	}
}

func (s *scribe) literal(v api.Value) {
	switch v.Kind {
	case api.ValueNull:
		s.small("null")
	case api.ValueBool:
		s.small(strconv.FormatBool(v.Bool))
	case api.ValueInt:
		if v.Int < 0 {
			s.right("-")
		}
		s.put(strings.TrimPrefix(strconv.FormatInt(v.Int, 10), "-"))
	case api.ValueText:
		s.text(v.Text)
	}
}

// small puts a keyword that the chapter writes in small letters.
func (s *scribe) small(k string) {
	if s.sloppy() {
		s.keywords(strings.ToUpper(k))
		return
	}
	s.put(k)
}

// text knows of the escapes that the tests' texts need alone.
func (s *scribe) text(x string) {
	if s.perhaps() {
		s.put(`"` + strings.NewReplacer(`\`, `\\`, `"`, `\"`).Replace(x) + `"`)
		return
	}
	s.put("'" + strings.NewReplacer(`\`, `\\`, "'", `\'`, "\n", `\n`, "\x00", `\u0000`).Replace(x) + "'")
}

// told is a query's text as the chapter asks for.
func told(q api.Query) string {
	s := &scribe{}
	s.query(q)
	return s.String()
}

func toldExpr(e api.Expr) string {
	s := &scribe{}
	s.expr(e, 0)
	return s.String()
}

// same holds anything against each other, field by field; no list is the same as an empty one.
func same(a, b any) bool { return alike(reflect.ValueOf(a), reflect.ValueOf(b)) }

func alike(a, b reflect.Value) bool {
	switch a.Kind() {
	case reflect.Struct:
		for i := range a.NumField() {
			if !alike(a.Field(i), b.Field(i)) {
				return false
			}
		}
		return true
	case reflect.Slice:
		if a.Len() != b.Len() {
			return false
		}
		for i := range a.Len() {
			if !alike(a.Index(i), b.Index(i)) {
				return false
			}
		}
		return true
	}
	return a.Equal(b)
}

// maker makes expressions and queries that may be.
type maker struct{ *rand.Rand }

func makers(seed uint64) maker { return maker{rand.New(rand.NewPCG(seed, 4))} }

func (m maker) name() string {
	l := []string{"a", "b", "Cd", "_1", "match", "END", "Null", "not", "count", "a b", "`", "x`y", "é", "1", "'", "//", "on", "ascending", strings.Repeat("x", api.MaxName)}
	return l[m.IntN(len(l))]
}

func (m maker) names(least, most int) []string {
	var l []string
	for range least + m.IntN(most-least+1) {
		l = append(l, m.name())
	}
	return l
}

func (m maker) value() api.Value {
	switch m.IntN(4) {
	case 0:
		return api.Value{Kind: api.ValueBool, Bool: m.IntN(2) == 0}
	case 1:
		l := []int64{0, 1, -1, 5, -5, 1<<63 - 1, -1 << 63, -1<<63 + 1, 1234567890}
		return api.Value{Kind: api.ValueInt, Int: l[m.IntN(len(l))]}
	case 2:
		l := []string{"", "a", "it's", `"`, `\`, `\'"`, "a\nb", "é", "`", "// x", "/*"}
		return api.Value{Kind: api.ValueText, Text: l[m.IntN(len(l))]}
	}
	return api.Value{}
}

func operators() []string {
	return []string{"OR", "XOR", "AND", "=", "<>", "<", "<=", ">", ">=", "IN", "STARTS", "ENDS", "CONTAINS", "+", "-", "*", "/", "%"}
}

func (m maker) exprs(n, deep int) []api.Expr {
	var l []api.Expr
	for range n {
		l = append(l, m.expr(deep-1))
	}
	return l
}

// expr makes an expression that is nested at most so deep.
func (m maker) expr(deep int) api.Expr {
	e := api.Expr{Kind: api.ExprKind(m.IntN(16))}
	if deep <= 1 {
		e.Kind = []api.ExprKind{api.ExprLiteral, api.ExprParam, api.ExprVar, api.ExprCount, api.ExprList, api.ExprCall}[m.IntN(6)]
	}
	kids := 0
	if deep > 1 {
		kids = m.IntN(4)
	}
	switch e.Kind {
	case api.ExprLiteral:
		e.Value = m.value()
	case api.ExprParam, api.ExprVar:
		e.Name = m.name()
	case api.ExprProp, api.ExprLabel:
		e.Name, e.Kids = m.name(), m.exprs(1, deep)
	case api.ExprIndex:
		e.Kids = m.exprs(2, deep)
	case api.ExprList:
		e.Kids = m.exprs(kids, deep)
	case api.ExprMap:
		return m.mapping(deep)
	case api.ExprCall:
		e.Name, e.Kids, e.Distinct = m.name(), m.exprs(kids, deep), kids > 0 && m.IntN(2) == 0
	case api.ExprNot, api.ExprNeg, api.ExprIsNull, api.ExprNotNull:
		e.Kids = m.exprs(1, deep)
	case api.ExprBin:
		e.Name, e.Kids = operators()[m.IntN(18)], m.exprs(2, deep)
	case api.ExprCase:
		e.Kids = m.exprs(1+2*(1+m.IntN(2)), deep)
	}
	return e
}

func (m maker) mapping(deep int) api.Expr {
	e := api.Expr{Kind: api.ExprMap}
	seen := map[string]bool{}
	for range m.IntN(3) {
		if k := m.name(); !seen[k] && deep > 1 {
			seen[k] = true
			e.Keys = append(e.Keys, k)
			e.Kids = append(e.Kids, m.expr(deep-1))
		}
	}
	return e
}

func (m maker) perhaps() bool { return m.IntN(2) == 0 }

func (m maker) variable() string {
	if m.perhaps() {
		return m.name()
	}
	return ""
}

func (m maker) option(deep int) (bool, api.Expr) {
	if m.perhaps() {
		return true, m.expr(deep)
	}
	return false, api.Expr{}
}

func (m maker) props(deep int) (bool, api.Expr) {
	if m.perhaps() {
		return true, m.mapping(deep)
	}
	return false, api.Expr{}
}

func (m maker) paths(deep int) []api.Path {
	var l []api.Path
	for range 1 + m.IntN(2) {
		var p api.Path
		for i := range 1 + m.IntN(3) {
			if i > 0 {
				r := api.RelPat{Var: m.variable(), Types: m.names(0, 2), Dir: m.IntN(3) - 1}
				r.Has, r.Props = m.props(deep)
				p.Rels = append(p.Rels, r)
			}
			n := api.NodePat{Var: m.variable(), Labels: m.names(0, 2)}
			n.Has, n.Props = m.props(deep)
			p.Nodes = append(p.Nodes, n)
		}
		l = append(l, p)
	}
	return l
}

func (m maker) clause(deep int) api.Clause {
	c := api.Clause{Kind: api.ClauseKind(m.IntN(8))}
	switch c.Kind {
	case api.ClauseMatch:
		c.Optional, c.Paths = m.perhaps(), m.paths(deep)
		c.HasWhere, c.Where = m.option(deep)
	case api.ClauseUnwind:
		c.Expr, c.As = m.expr(deep), m.name()
	case api.ClauseWith, api.ClauseReturn:
		c.Distinct = m.perhaps()
		for range 1 + m.IntN(2) {
			c.Items = append(c.Items, api.Item{Expr: m.expr(deep), As: m.variable()})
		}
		for range m.IntN(3) {
			c.Order = append(c.Order, api.SortKey{Expr: m.expr(deep), Desc: m.perhaps()})
		}
		c.HasSkip, c.Skip = m.option(deep)
		c.HasLimit, c.Limit = m.option(deep)
		if c.Kind == api.ClauseWith {
			c.HasWhere, c.Where = m.option(deep)
		}
	case api.ClauseCreate:
		c.Paths = m.paths(deep)
	case api.ClauseSet, api.ClauseRemove:
		for range 1 + m.IntN(3) {
			i := api.SetItem{Kind: api.SetKind(m.IntN(2)), Var: m.name(), Key: m.name()}
			if c.Kind == api.ClauseSet && i.Kind == api.SetProp {
				i.Value = m.expr(deep)
			}
			c.Sets = append(c.Sets, i)
		}
	case api.ClauseDelete:
		c.Detach, c.Vars = m.perhaps(), m.names(1, 3)
	}
	return c
}

func (m maker) query(deep int) api.Query {
	var q api.Query
	for range 1 + m.IntN(3) {
		q.Clauses = append(q.Clauses, m.clause(deep))
	}
	return q
}

// TestScribe holds that the two ways of telling have words that are the same where they are the same text's.
func TestScribe(t *testing.T) {
	m := makers(1)
	for range 200 {
		s := &scribe{}
		s.query(m.query(3))
		l, _, e := words.Lex(s.String())
		if e != api.OK || len(l) != len(s.tokens) {
			t.Fatal(s, e)
		}
	}
}
