package words_test

import (
	"slices"
	"strings"
	"testing"

	"lattice/api"
	"lattice/words"
)

// P3.2

func TestPrint(t *testing.T) {
	x64 := strings.Repeat("x", api.MaxName)
	for i, x := range []struct {
		l    []api.Word
		want string
	}{
		{nil, ""},
		{[]api.Word{name(0, "a")}, "a"},
		{[]api.Word{name(0, "Match"), name(0, "_1"), name(0, x64)}, "Match _1 " + x64},
		{[]api.Word{quoted(0, "a"), quoted(0, "`"), quoted(0, "a b"), quoted(0, "``x"), quoted(0, "\n'\\"), quoted(0, "match"), quoted(0, "é"), quoted(0, x64)}, "`a` ```` `a b` `````x` `\n'\\` `match` `é` `" + x64 + "`"},
		{[]api.Word{text(0, ""), text(0, "it's"), text(0, `"\`), text(0, "\n\t\r\x00\x1f\x7f"), text(0, "é `")}, `'' 'it\'s' '"\\' '\n\t\r\u0000\u001f\u007f' 'é ` + "`'"},
		{[]api.Word{number(0, 0), number(0, 10), number(0, 1<<63-1), number(0, 1<<63)}, "0 10 9223372036854775807 9223372036854775808"},
		{[]api.Word{sign(0, "<"), sign(0, ">"), sign(0, "/"), sign(0, "/"), sign(0, "/"), sign(0, "*"), sign(0, "<>")}, "< > / / / * <>"},
		{[]api.Word{name(0, "a"), text(0, "b'"), number(0, 7), quoted(0, "`"), sign(0, "<=")}, "a 'b\\'' 7 ```` <="},
		{[]api.Word{name(-1, "a"), name(1<<40, "b"), number(-1<<63, 1)}, "a b 1"},
	} {
		before := slices.Clone(x.l)
		if s, e := words.Print(x.l...); s != x.want || e != api.OK {
			t.Error(i, s, e)
		}
		if !slices.Equal(before, x.l) {
			t.Error(i, "changed")
		}
	}
	for _, s := range signs() {
		if got, e := words.Print(sign(3, s)); got != s || e != api.OK {
			t.Error(s, got, e)
		}
	}
}

// wrong are words that are read nowhere.
func wrong() []api.Word {
	l := []api.Word{
		{}, {Text: "a"}, {Kind: -1, Text: "a"}, {Kind: 6, Text: "a"}, {Kind: 1 << 40, Text: "("},
		name(0, ""), name(0, "1"), name(0, "1a"), name(0, "a b"), name(0, "a "), name(0, "é"), name(0, "aé"), name(0, "a-b"), name(0, "`a`"), name(0, "a\x00"), name(0, "\xff"), name(0, strings.Repeat("x", api.MaxName+1)),
		quoted(0, ""), quoted(0, "\x00"), quoted(0, "a\x00b"), quoted(0, "\xff"), quoted(0, "\xed\xa0\x80"), quoted(0, strings.Repeat("x", api.MaxName+1)), quoted(0, strings.Repeat("`", api.MaxName+1)), quoted(0, strings.Repeat("é", api.MaxName/2)+"x"),
		text(0, "\xff"), text(0, "a\xc3"), text(0, "\xed\xa0\x80"), text(0, "\xc0\x80"),
		number(0, 1<<63+1), number(0, 1<<64-1), {Kind: api.WordNumber, Number: 1, Text: "1"}, {Kind: api.WordNumber, Text: "0"},
		sign(0, ""), sign(0, ";"), sign(0, "a"), sign(0, "=>"), sign(0, "=="), sign(0, "<<"), sign(0, "( )"), sign(0, " "), sign(0, "//"), sign(0, "/*"), sign(0, "'"), sign(0, "`"), sign(0, "<=>"), sign(0, "(\x00"), sign(0, "\xff"),
	}
	for _, w := range []api.Word{name(0, "a"), quoted(0, "a"), text(0, "a"), sign(0, "(")} {
		w.Number = 1
		l = append(l, w)
	}
	return l
}

func TestPrintRefuses(t *testing.T) {
	long := text(0, strings.Repeat("x", api.MaxText+1))
	for i, w := range wrong() {
		for j, l := range [][]api.Word{{w}, {name(0, "a"), w}, {w, sign(0, "(")}, {long, w}, {w, long}} {
			if s, e := words.Print(l...); s != "" || e != api.ErrArg {
				t.Errorf("%d %d: %.20q %v", i, j, s, e)
			}
		}
	}
}

func TestPrintLong(t *testing.T) {
	x := strings.Repeat("x", api.MaxText+1)
	ones := make([]api.Word, api.MaxText/2+1)
	for i := range ones {
		ones[i] = name(i, "a")
	}
	for i, c := range []struct {
		l     []api.Word
		bytes int
	}{
		{[]api.Word{text(0, x[:api.MaxText-2])}, api.MaxText},
		{[]api.Word{text(0, x[:api.MaxText-1])}, 0},
		{[]api.Word{text(0, x[:api.MaxText])}, 0},
		{[]api.Word{text(0, x)}, 0},
		{[]api.Word{text(0, strings.Repeat("'", api.MaxText/2-1))}, api.MaxText},
		{[]api.Word{text(0, strings.Repeat("'", api.MaxText/2))}, 0},
		{[]api.Word{text(0, strings.Repeat("\x00", api.MaxText/2))}, 0},
		{[]api.Word{text(0, x[:api.MaxText-4]), name(0, "a")}, api.MaxText},
		{[]api.Word{text(0, x[:api.MaxText-4]), name(0, "ab")}, 0},
		{[]api.Word{name(0, "a"), text(0, x[:api.MaxText-4])}, api.MaxText},
		{[]api.Word{name(0, "a"), text(0, x[:api.MaxText-3])}, 0},
		{[]api.Word{text(0, x[:api.MaxText-5]), sign(0, "<=")}, api.MaxText},
		{[]api.Word{text(0, x[:api.MaxText-5]), number(0, 100)}, 0},
		{ones[:api.MaxText/2], api.MaxText - 1},
		{ones, 0},
	} {
		s, e := words.Print(c.l...)
		if c.bytes == 0 {
			if s != "" || e != api.ErrLong {
				t.Error(i, len(s), e)
			}
			continue
		}
		if len(s) != c.bytes || e != api.OK {
			t.Error(i, len(s), e)
		}
		if l, _, e := words.Lex(s); e != api.OK || !words.Same(l, c.l) {
			t.Error(i, len(l), e)
		}
	}
}

func TestSame(t *testing.T) {
	some := []api.Word{name(0, "a"), name(0, "A"), name(0, "b"), quoted(0, "a"), text(0, "a"), text(0, ""), number(0, 0), number(0, 1), sign(0, "<"), sign(0, "<="), {}, {Number: 1}, {Kind: api.WordName, Text: "a", Number: 1}}
	for i, a := range some {
		for j, b := range some {
			b.At = j
			if got := words.Same([]api.Word{a}, []api.Word{b}); got != (i == j) {
				t.Error(a, b, got)
			}
			if got := words.Same([]api.Word{some[0], a}, []api.Word{some[0], b}); got != (i == j) {
				t.Error("second", a, b, got)
			}
		}
	}
	a, b := some[0], some[2]
	for i, x := range []struct {
		a, b []api.Word
		want bool
	}{
		{nil, nil, true}, {nil, []api.Word{}, true}, {[]api.Word{}, nil, true},
		{nil, []api.Word{a}, false}, {[]api.Word{a}, nil, false}, {[]api.Word{{}}, nil, false},
		{[]api.Word{a, b}, []api.Word{a, b}, true}, {[]api.Word{a, b}, []api.Word{b, a}, false}, {[]api.Word{a, b}, []api.Word{a}, false}, {[]api.Word{a}, []api.Word{a, a}, false},
	} {
		if got := words.Same(x.a, x.b); got != x.want {
			t.Error(i, got)
		}
	}
	moved := []api.Word{name(1, "a")}
	if !words.Same(moved, []api.Word{name(2, "a")}) || moved[0].At != 1 {
		t.Error(moved)
	}
}
