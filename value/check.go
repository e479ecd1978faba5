package value

import (
	"iter"
	"strings"
	"unicode/utf8"

	"lattice/api"
)

// Check tells ErrValue of a value that may not be, ErrLong of one that is too great.
func Check(v api.Value) (e api.Errno) {
	// The whole value is looked at first: what may not be counts ahead of what is too great, however deep it lies.
	for _, x := range within(v) {
		if !shaped(x) {
			return api.ErrValue
		}
	}
	defer func() {
		if r := recover(); r == any(api.ErrLong) {
			e = api.ErrLong
		} else if r != nil {
			panic(r)
		}
	}()
	weigh(v)
	return api.OK
}

// Size tells how many values v is, and how deep they are nested.
func Size(v api.Value) (values, deep int) {
	if Check(v) != api.OK {
		return 0, 0
	}
	for d := range within(v) {
		values++
		deep = max(deep, d)
	}
	return values, deep
}

// Storable tells whether a property may have the value.
func Storable(v api.Value) bool {
	if Check(v) != api.OK {
		return false
	}
	if v.Kind != api.ValueList {
		return plain(v.Kind)
	}
	for _, x := range v.List {
		if !plain(x.Kind) || x.Kind != v.List[0].Kind {
			return false
		}
	}
	return true
}

// within goes over a value and all that is in it, each with how deep it lies: 1 for the value itself.
func within(v api.Value) iter.Seq2[int, api.Value] {
	return func(yield func(int, api.Value) bool) { walk(1, v, yield) }
}

// walk tells whether it may go on: a loop that is left deep inside must end the walks around it too.
func walk(deep int, v api.Value, yield func(int, api.Value) bool) bool {
	if !yield(deep, v) {
		return false
	}
	for _, x := range v.List {
		if !walk(deep+1, x, yield) {
			return false
		}
	}
	return true
}

// shaped tells whether a value may be, as far as it can be told without what is in its List.
func shaped(v api.Value) bool {
	rest := v
	switch v.Kind {
	case api.ValueNull:
	case api.ValueBool:
		rest.Bool = false
	case api.ValueInt:
		rest.Int = 0
	case api.ValueNode, api.ValueRel:
		rest.Int = min(v.Int, 0)
	case api.ValueText:
		rest.Text = ""
	case api.ValueMap:
		if len(v.Keys) != len(v.List) || !rising(v.Keys) {
			return false
		}
		rest.Keys = nil
		fallthrough
	case api.ValueList:
		rest.List = nil
	default:
		return false
	}
	return blank(rest) && utf8.ValidString(v.Text)
}

// blank tells whether all fields but the Kind are zero.
func blank(v api.Value) bool {
	return !v.Bool && v.Int == 0 && v.Text == "" && len(v.Keys) == 0 && len(v.List) == 0
}

// rising tells whether keys are UTF-8 and stand in order, each once.
func rising(keys []string) bool {
	for i, k := range keys {
		if !utf8.ValidString(k) || i > 0 && strings.Compare(keys[i-1], k) >= 0 {
			return false
		}
	}
	return true
}

// weigh gives up by a panic with ErrLong where a value is too great: the rest of it need not be gone through.
func weigh(v api.Value) {
	bytes := 0
	for deep, x := range within(v) {
		bytes += len(x.Text)
		for _, k := range x.Keys {
			bytes += len(k)
		}
		if deep > api.MaxDepth || len(x.List) > api.MaxRows || bytes > api.MaxText {
			panic(api.ErrLong)
		}
	}
}

// plain tells whether values of a kind may be stored, and stand in a list that is.
func plain(k api.ValueKind) bool {
	return k == api.ValueBool || k == api.ValueInt || k == api.ValueText
}
