package value_test

import (
	"math"
	"strings"
	"testing"

	"lattice/api"
	"lattice/value"
)

// P1.4

func TestText(t *testing.T) {
	for i, x := range []struct {
		v    api.Value
		want string
	}{
		{null, "null"}, {yes, "true"}, {no, "false"},
		{value.Int(0), "0"}, {value.Int(-7), "-7"}, {value.Int(math.MinInt64), "-9223372036854775808"}, {value.Int(math.MaxInt64), "9223372036854775807"},
		{text("it's"), `'it\'s'`}, {text("\n"), `'\n'`}, {text(""), `''`},
		{list(), "[]"}, {list(one), "[1]"}, {list(one, text("a"), null, list(yes)), "[1, 'a', null, [true]]"},
		{api.Value{Kind: api.ValueMap}, "{}"}, {entry("a", one), "{a: 1}"}, {pair(one, list()), "{a: 1, b: []}"},
		{entry("a b", one), "{`a b`: 1}"}, {entry("", entry("x", null)), "{``: {x: null}}"}, {entry("a`", text("`")), "{`a```: '`'}"},
		{node(3), "<n3>"}, {rel(3), "<r3>"}, {node(math.MaxInt64), "<n9223372036854775807>"}, {node(0), "<n0>"},
		{nested(api.MaxDepth-1, one), strings.Repeat("[", 63) + "1" + strings.Repeat("]", 63)},
	} {
		if s, e := value.Text(x.v); s != x.want || e != api.OK {
			t.Error(i, s, e)
		}
	}
}

func TestTextRefuses(t *testing.T) {
	for i, x := range []struct {
		v    api.Value
		want api.Errno
	}{
		{wrong, api.ErrValue}, {list(one, wrong), api.ErrValue}, {text("\xff"), api.ErrValue}, {entry("\xff", one), api.ErrValue}, {node(-1), api.ErrValue},
		{nested(api.MaxDepth, one), api.ErrLong}, {text(strings.Repeat("x", api.MaxText+1)), api.ErrLong}, {list(make([]api.Value, api.MaxRows+1)...), api.ErrLong},
	} {
		if s, e := value.Text(x.v); s != "" || e != x.want {
			t.Error(i, len(s), e)
		}
	}
}

func TestQuote(t *testing.T) {
	for s, want := range map[string]string{
		"": `''`, "a": `'a'`, "it's": `'it\'s'`, `a\b`: `'a\\b'`, `"`: `'"'`, "`": "'`'",
		"\n\t\r": `'\n\t\r'`, "\x00\x01\x08\x0b\x0c\x0e\x1f": `'\u0000\u0001\u0008\u000b\u000c\u000e\u001f'`, "\x7f": `'\u007f'`,
		" ~": `' ~'`, "é\u0080\u009f\u2028\U0001f600": "'é\u0080\u009f\u2028\U0001f600'", "\ufffd": "'\ufffd'",
		"\xff": "", "a\xc3": "", "\xed\xa0\x80": "",
	} {
		if got := value.Quote(s); got != want {
			t.Errorf("%q %q", s, got)
		}
	}
	long := strings.Repeat("x", api.MaxText+1)
	if value.Quote(long) != "'"+long+"'" {
		t.Error("a long text is told too")
	}
}

func TestName(t *testing.T) {
	for s, want := range map[string]string{
		"a": "a", "Z": "Z", "_": "_", "_1": "_1", "aZ09_": "aZ09_", "match": "match",
		"": "``", "1": "`1`", "1a": "`1a`", "a b": "`a b`", "a-b": "`a-b`", "é": "`é`", "aé": "`aé`", "x`y": "`x``y`", "`": "````",
		"a\n": "`a\n`", "'": "`'`", `\`: "`\\`", "a\x00": "`a\x00`", "@": "`@`", "[": "`[`", "{": "`{`", "a/": "`a/`", "a:": "`a:`",
		"\xff": "", "a\x80": "",
	} {
		if got := value.Name(s); got != want {
			t.Errorf("%q %q", s, got)
		}
	}
}

// TestTextTellsAsQuoteAndName: what Text tells of a text and of a key is what Quote and Name tell.
func TestTextTellsAsQuoteAndName(t *testing.T) {
	for r := range rune(300) {
		s := string(r)
		if got, _ := value.Text(text(s)); got != value.Quote(s) {
			t.Errorf("%q %q", s, got)
		}
		if got, _ := value.Text(entry(s, one)); got != "{"+value.Name(s)+": 1}" {
			t.Errorf("%q %q", s, got)
		}
	}
}
