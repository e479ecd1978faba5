package expr

import (
	"slices"

	"lattice/api"
	"lattice/logic"
	"lattice/value"
)

// function is what a function makes of its Kids' values: as many as layer 6 lets it have, none of them nothing.
type function func(w *evaluator, kids []api.Value) api.Value

// functions has all but coalesce, which does not ask all of its Kids.
func functions() map[string]function {
	return map[string]function{
		"id":       (*evaluator).id,
		"labels":   (*evaluator).labels,
		"type":     (*evaluator).typeOf,
		"keys":     (*evaluator).keys,
		"size":     (*evaluator).size,
		"head":     (*evaluator).head,
		"last":     (*evaluator).last,
		"abs":      (*evaluator).abs,
		"toString": (*evaluator).toString,
		"range":    (*evaluator).numbers,
	}
}

// call is what a call is worth, behind its Kids: they go wrong ahead of it.
func (w *evaluator) call(e api.Expr, kids []api.Value) api.Value {
	if no := called(e); no != api.OK {
		panic(no)
	}
	if slices.ContainsFunc(kids, none) {
		return value.Null()
	}
	return functions()[e.Name](w, kids)
}

func (*evaluator) id(kids []api.Value) api.Value {
	need(kids[0], api.ValueNode, api.ValueRel)
	return value.Int(kids[0].Int)
}

func (w *evaluator) labels(kids []api.Value) api.Value {
	need(kids[0], api.ValueNode)
	n, _ := w.graph.Node(kids[0].Int)
	return texts(n.Labels)
}

func (w *evaluator) typeOf(kids []api.Value) api.Value {
	need(kids[0], api.ValueRel)
	r, there := w.graph.Rel(kids[0].Int)
	if !there {
		return value.Null()
	}
	return value.String(r.Type)
}

func (w *evaluator) keys(kids []api.Value) api.Value {
	need(kids[0], api.ValueMap, api.ValueNode, api.ValueRel)
	if kids[0].Kind == api.ValueMap {
		return texts(kids[0].Keys)
	}
	var l []string
	for _, p := range w.props(kids[0]) {
		l = append(l, p.Key)
	}
	return texts(l)
}

func (*evaluator) size(kids []api.Value) api.Value {
	need(kids[0], api.ValueText, api.ValueList)
	return value.Int(int64(len(kids[0].Text) + len(kids[0].List)))
}

func (*evaluator) head(kids []api.Value) api.Value {
	need(kids[0], api.ValueList)
	return at(kids[0].List, 0)
}

func (*evaluator) last(kids []api.Value) api.Value {
	need(kids[0], api.ValueList)
	return at(kids[0].List, -1)
}

func (*evaluator) abs(kids []api.Value) api.Value {
	need(kids[0], api.ValueInt)
	return number(logic.Abs(kids[0].Int))
}

func (*evaluator) toString(kids []api.Value) api.Value {
	need(kids[0], api.ValueText, api.ValueInt, api.ValueBool)
	if kids[0].Kind == api.ValueText {
		return kids[0]
	}
	s, _ := value.Text(kids[0])
	return value.String(s)
}

// numbers is range, whose errors are others than those of layer 2's.
func (*evaluator) numbers(kids []api.Value) api.Value {
	for _, k := range kids {
		need(k, api.ValueInt)
	}
	step := int64(1)
	if len(kids) == 3 {
		step = kids[2].Int
	}
	l, no := logic.Range(kids[0].Int, kids[1].Int, step)
	switch no {
	case api.ErrArg:
		panic(api.ErrZero)
	case api.ErrLong:
		panic(api.ErrGreat)
	}
	v := api.Value{Kind: api.ValueList}
	for _, n := range l {
		v.List = append(v.List, value.Int(n))
	}
	return v
}

// need gives up with a value of none of some kinds.
func need(v api.Value, kinds ...api.ValueKind) {
	if !slices.Contains(kinds, v.Kind) {
		panic(api.ErrType)
	}
}

// texts is a list of texts; an element may have more labels, more keys than a list has room for.
func texts(l []string) api.Value {
	v := api.Value{Kind: api.ValueList}
	for _, s := range l {
		v.List = append(v.List, value.String(s))
	}
	return bounded(v)
}
