package value_test

import (
	"strconv"
	"strings"
	"testing"

	"lattice/api"
	"lattice/value"
)

// P1.1

func TestCheckLetsThrough(t *testing.T) {
	l := append(documented(), text("\x00é\u2028\U0010ffff"), entry("", null), entry("é`\n", one),
		api.Value{Kind: api.ValueInt, Keys: []string{}, List: []api.Value{}},
		api.Value{Kind: api.ValueMap, Keys: []string{}, List: []api.Value{}},
		node(1<<63-1), rel(0))
	for i, v := range l {
		if e := value.Check(v); e != api.OK {
			t.Error(i, v, e)
		}
	}
}

func TestCheckRefusesKinds(t *testing.T) {
	for _, k := range []api.ValueKind{-1 << 63, -1, 8, 9, 1<<63 - 1} {
		if e := value.Check(api.Value{Kind: k}); e != api.ErrValue {
			t.Error(k, e)
		}
	}
}

// TestCheckRefusesUnusedFields sets each field alone in each kind: just those that the kind uses may be other than zero.
func TestCheckRefusesUnusedFields(t *testing.T) {
	fields := map[string]func(*api.Value){
		"Bool": func(v *api.Value) { v.Bool = true },
		"Int":  func(v *api.Value) { v.Int = 1 },
		"Text": func(v *api.Value) { v.Text = "a" },
		"Keys": func(v *api.Value) { v.Keys = []string{"a"} },
		"List": func(v *api.Value) { v.List = []api.Value{one} },
	}
	used := map[api.ValueKind]string{api.ValueNull: "", api.ValueBool: "Bool", api.ValueInt: "Int", api.ValueText: "Text", api.ValueList: "List", api.ValueMap: "", api.ValueNode: "Int", api.ValueRel: "Int"}
	for kind, its := range used {
		for name, set := range fields {
			v := api.Value{Kind: kind}
			set(&v)
			want := api.ErrValue
			if name == its {
				want = api.OK
			}
			if e := value.Check(v); e != want {
				t.Error(kind, name, e)
			}
			if e := value.Check(list(one, v)); e != want {
				t.Error("in a list", kind, name, e)
			}
		}
	}
	for _, name := range []string{"Bool", "Int", "Text"} {
		v := entry("a", one)
		fields[name](&v)
		if e := value.Check(v); e != api.ErrValue {
			t.Error("map", name, e)
		}
	}
}

func TestCheckRefusesNumbersBelowNought(t *testing.T) {
	for _, v := range []api.Value{node(-1), rel(-1), node(-1 << 63), rel(-1 << 63)} {
		if e := value.Check(v); e != api.ErrValue {
			t.Error(v, e)
		}
	}
}

func TestCheckRefusesNoUTF8(t *testing.T) {
	for _, s := range []string{"\xff", "a\x80", "\xc3", "\xed\xa0\x80", "\xf4\x90\x80\x80", "\xc0\x80"} {
		for _, v := range []api.Value{text(s), entry(s, one), list(list(text(s))), entry("a", text(s))} {
			if e := value.Check(v); e != api.ErrValue {
				t.Errorf("%q %v", s, e)
			}
		}
	}
}

func TestCheckRefusesMaps(t *testing.T) {
	l := []api.Value{one, two}
	for i, v := range []api.Value{
		{Kind: api.ValueMap, Keys: []string{"b", "a"}, List: l},
		{Kind: api.ValueMap, Keys: []string{"a", "a"}, List: l},
		{Kind: api.ValueMap, Keys: []string{"a", "B"}, List: l},
		{Kind: api.ValueMap, Keys: []string{"a", ""}, List: l},
		{Kind: api.ValueMap, Keys: []string{"a"}, List: l},
		{Kind: api.ValueMap, Keys: []string{"a", "b", "c"}, List: l},
		{Kind: api.ValueMap, Keys: []string{"a", "b"}},
		{Kind: api.ValueMap, List: l},
		entry("a", wrong),
		entry("a", api.Value{Kind: api.ValueMap, Keys: []string{"b", "a"}, List: l}),
	} {
		if e := value.Check(v); e != api.ErrValue {
			t.Error(i, e)
		}
	}
}

func TestCheckDepth(t *testing.T) {
	deepMap := one
	for range api.MaxDepth - 1 {
		deepMap = entry("a", deepMap)
	}
	for i, x := range []struct {
		v    api.Value
		want api.Errno
	}{
		{nested(api.MaxDepth-1, one), api.OK},
		{nested(api.MaxDepth-1, list()), api.OK},
		{nested(api.MaxDepth, one), api.ErrLong},
		{nested(api.MaxDepth, list()), api.ErrLong},
		{deepMap, api.OK},
		{entry("a", deepMap), api.ErrLong},
		{list(deepMap), api.ErrLong},
		{list(one, nested(api.MaxDepth-1, one)), api.ErrLong},
		{nested(1<<16, one), api.ErrLong},
	} {
		if e := value.Check(x.v); e != x.want {
			t.Error(i, e)
		}
	}
}

// wide is a map with n keys.
func wide(n int) api.Value {
	v := api.Value{Kind: api.ValueMap, List: make([]api.Value, n)}
	for i := range n {
		v.Keys = append(v.Keys, strconv.Itoa(1<<17+i))
	}
	return v
}

func TestCheckRows(t *testing.T) {
	full, over := list(make([]api.Value, api.MaxRows)...), list(make([]api.Value, api.MaxRows+1)...)
	for i, x := range []struct {
		v    api.Value
		want api.Errno
	}{
		{full, api.OK}, {over, api.ErrLong},
		{list(full, full), api.OK}, {list(one, over), api.ErrLong}, {entry("a", over), api.ErrLong},
		{wide(api.MaxRows), api.OK}, {wide(api.MaxRows + 1), api.ErrLong},
	} {
		if e := value.Check(x.v); e != x.want {
			t.Error(i, e)
		}
	}
}

func TestCheckTexts(t *testing.T) {
	all := strings.Repeat("x", api.MaxText)
	half := all[:api.MaxText/2]
	accents := strings.Repeat("é", api.MaxText/2)
	for i, x := range []struct {
		v    api.Value
		want api.Errno
	}{
		{text(all), api.OK}, {text(all + "x"), api.ErrLong},
		{text(accents), api.OK}, {text(accents + "x"), api.ErrLong},
		{entry(all, null), api.OK}, {entry(all+"x", null), api.ErrLong},
		{list(text(half), text(half)), api.OK}, {list(text(half), text(half), text("x")), api.ErrLong},
		{entry(half, text(half)), api.OK}, {entry(half, text(half+"x")), api.ErrLong},
		{entry("k", entry("l", text(all[2:]))), api.OK}, {entry("k", entry("l", text(all[1:]))), api.ErrLong},
		{pair(text(all[2:]), null), api.OK}, {pair(text(all[1:]), null), api.ErrLong},
	} {
		if e := value.Check(x.v); e != x.want {
			t.Error(i, e)
		}
	}
}

// TestCheckNamesErrValueFirst: a value that is too great, and in which one that may not be stands behind what is too great.
func TestCheckNamesErrValueFirst(t *testing.T) {
	long := text(strings.Repeat("x", api.MaxText+1))
	for i, v := range []api.Value{
		nested(api.MaxDepth, wrong),
		nested(1<<16-1, wrong),
		list(nested(api.MaxDepth, one), wrong),
		list(append(make([]api.Value, api.MaxRows), wrong)...),
		text(strings.Repeat("x", api.MaxText+1) + "\xff"),
		list(long, text("\xff")),
		list(long, entry("\xff", one)),
	} {
		if e := value.Check(v); e != api.ErrValue {
			t.Error(i, e)
		}
		if s, e := value.Text(v); s != "" || e != api.ErrValue {
			t.Error("text", i, e)
		}
	}
}

func TestSize(t *testing.T) {
	for i, x := range []struct {
		v            api.Value
		values, deep int
	}{
		{null, 1, 1}, {text("abc"), 1, 1}, {node(7), 1, 1},
		{list(), 1, 1}, {api.Value{Kind: api.ValueMap}, 1, 1},
		{list(one), 2, 2}, {list(one, two, null), 4, 2}, {list(list()), 2, 2},
		{list(list(one), two), 4, 3}, {list(two, list(list(one))), 5, 4},
		{pair(one, list(one, two)), 5, 3},
		{nested(api.MaxDepth-1, one), api.MaxDepth, api.MaxDepth},
		{list(make([]api.Value, api.MaxRows)...), api.MaxRows + 1, 2},
		{nested(api.MaxDepth, one), 0, 0}, {list(one, wrong), 0, 0}, {text("\xff"), 0, 0},
		{list(make([]api.Value, api.MaxRows+1)...), 0, 0},
	} {
		if n, d := value.Size(x.v); n != x.values || d != x.deep {
			t.Error(i, n, d)
		}
	}
}

func TestStorable(t *testing.T) {
	for i, x := range []struct {
		v    api.Value
		want bool
	}{
		{yes, true}, {no, true}, {value.Int(0), true}, {text(""), true}, {text("a"), true},
		{null, false}, {node(0), false}, {rel(0), false}, {api.Value{Kind: api.ValueMap}, false}, {entry("a", one), false},
		{list(), true}, {list(one, two), true}, {list(yes, no), true}, {list(text("a"), text("")), true},
		{list(one, text("a")), false}, {list(one, yes), false}, {list(yes, one), false}, {list(one, two, text("a")), false},
		{list(null), false}, {list(one, null), false}, {list(null, one), false},
		{list(list(one)), false}, {list(list()), false}, {list(node(1)), false}, {list(rel(1)), false}, {list(entry("a", one)), false},
		{list(make([]api.Value, api.MaxRows+1)...), false},
		{text("\xff"), false}, {list(text("\xff")), false}, {wrong, false},
		{text(strings.Repeat("x", api.MaxText)), true}, {text(strings.Repeat("x", api.MaxText+1)), false},
		{api.Value{Kind: api.ValueInt, Bool: true}, false},
	} {
		if got := value.Storable(x.v); got != x.want {
			t.Error(i, got)
		}
	}
}
