package words_test

import (
	"slices"
	"strings"
	"testing"

	"lattice/api"
	"lattice/words"
)

// P3.3

func TestName(t *testing.T) {
	for _, s := range []string{"a", "1", " ", "a b", "`", "é", "\x01", "\n", "match", "\ufffd", "\U0010ffff", strings.Repeat("x", api.MaxName), strings.Repeat("é", api.MaxName/2), strings.Repeat("`", api.MaxName)} {
		if !words.Name(s) {
			t.Errorf("%q", s)
		}
	}
	for _, s := range []string{"", "\x00", "a\x00", "\x00a", "\xff", "a\xc3", "\xed\xa0\x80", "\xc0\x80", strings.Repeat("x", api.MaxName+1), strings.Repeat("é", api.MaxName/2) + "x", strings.Repeat("x", api.MaxText+1), strings.Repeat("x", api.MaxName-1) + "é"} {
		if words.Name(s) {
			t.Errorf("%.70q", s)
		}
		if words.Spell(s) != "" {
			t.Errorf("Spell of %.70q", s)
		}
	}
}

func reserved() []string {
	return strings.Split("and, as, asc, by, case, contains, create, delete, desc, descending, ascending, detach, distinct, else, end, ends, false, in, is, limit, match, not, null, on, optional, or, order, remove, return, set, skip, starts, then, true, unwind, when, where, with, xor", ", ")
}

func TestReserved(t *testing.T) {
	for _, s := range reserved() {
		for _, k := range []string{s, strings.ToUpper(s), strings.ToUpper(s[:1]) + s[1:], s[:1] + strings.ToUpper(s[1:])} {
			if !words.Reserved(k) || words.Spell(k) != "`"+k+"`" {
				t.Error(k, words.Spell(k))
			}
		}
		for _, k := range []string{s + " ", " " + s, s + "_", "_" + s, "`" + s + "`", s + "\x00", s + s} {
			if words.Reserved(k) {
				t.Errorf("%q", k)
			}
		}
	}
	for _, s := range []string{"", "a", "count", "id", "labels", "begin", "commit", "merge", "nul", "matc", "i", "o", "x", "_", "b", "any", "a\u017f", "i\u017f", "\u017fet", "\u017fkip", "s\u212aip", "\xff", "AN", strings.Repeat("and", api.MaxText)} {
		if words.Reserved(s) {
			t.Errorf("%.20q", s)
		}
	}
	// A byte that is another one's letter but for one bit.
	for _, s := range []string{"o\x12", "\x0fr", "b\x19", "\x01nd"} {
		if words.Reserved(s) {
			t.Errorf("%q", s)
		}
	}
}

func TestSpell(t *testing.T) {
	x64 := strings.Repeat("x", api.MaxName)
	for s, want := range map[string]string{
		"a": "a", "Match": "`Match`", "a b": "`a b`", "x`y": "`x``y`",
		"_": "_", "_1": "_1", "aB_9": "aB_9", "count": "count", "matches": "matches", x64: x64,
		"1": "`1`", "1a": "`1a`", "a-b": "`a-b`", "a ": "`a `", "é": "`é`", "aé": "`aé`", "`": "````", "``": "``````", "\n": "`\n`", "'": "`'`", "$a": "`$a`", "XOR": "`XOR`", "\u017fet": "`\u017fet`",
		strings.Repeat("`", api.MaxName): "`" + strings.Repeat("``", api.MaxName) + "`",
		x64[1:] + " ":                    "`" + x64[1:] + " `",
		"":                               "", "\x00": "", "a\x00": "", "\xff": "", x64 + "x": "",
	} {
		if got := words.Spell(s); got != want {
			t.Errorf("%q %q", s, got)
		}
	}
}

func TestIs(t *testing.T) {
	for i, x := range []struct {
		w       api.Word
		keyword string
		want    bool
	}{
		{name(0, "match"), "MATCH", true}, {name(9, "MATCH"), "match", true}, {name(-1, "mAtCh"), "MaTcH", true}, {name(0, "match"), "match", true},
		{name(0, "count"), "COUNT", true}, {name(0, "a_1"), "A_1", true}, {name(0, "_"), "_", true},
		{name(0, "match"), "MATC", false}, {name(0, "match"), "MATCHE", false}, {name(0, "match"), "", false}, {name(0, "match"), "match ", false}, {name(0, "in"), "is", false},
		{name(0, "a_1"), "A_2", false}, {name(0, "a"), "_", false},
		{quoted(0, "match"), "MATCH", false}, {text(0, "match"), "MATCH", false}, {sign(0, "match"), "MATCH", false}, {api.Word{Text: "match"}, "MATCH", false},
		{sign(0, "("), "(", false}, {number(0, 1), "1", false}, {number(0, 0), "", false}, {api.Word{}, "", false},
		{name(0, "skip"), "s\u212aip", false}, {name(0, "set"), "\u017fet", false}, {name(0, "a"), "\x01", false}, {name(0, "a"), "!", false},
		{name(0, strings.Repeat("x", api.MaxName)), strings.Repeat("X", api.MaxName), true},
		// Words that are read nowhere: their kind and their letters count, nothing else.
		{name(0, ""), "", true}, {name(0, ""), "a", false}, {name(0, "1"), "1", true}, {name(0, "1a"), "1A", true}, {name(0, "1a"), "1b", false},
		{name(0, "a b"), "A B", true}, {name(0, "a b"), "a_b", false}, {name(0, "a\x00"), "A\x00", true}, {name(0, "a\x00"), "a", false}, {name(0, "\xff"), "\xff", true}, {name(0, "\xff"), "\xfe", false},
		{name(0, "É"), "É", true}, {name(0, "aÉ"), "AÉ", true}, {name(0, "\u017fet"), "set", false},
		{api.Word{Kind: api.WordName, Text: "match", Number: 1}, "MATCH", true}, {api.Word{Kind: api.WordName, Text: "match", Number: 1<<64 - 1}, "matc", false},
		{name(0, strings.Repeat("x", api.MaxName+1)), strings.Repeat("X", api.MaxName+1), true}, {name(0, strings.Repeat("x", api.MaxText+1)), strings.Repeat("X", api.MaxText+1), true},
		{quoted(0, "1a"), "1a", false}, {api.Word{Kind: -1, Text: "a"}, "a", false}, {api.Word{Kind: 6, Text: "a"}, "a", false},
	} {
		if got := words.Is(x.w, x.keyword); got != x.want {
			t.Errorf("%d: %.70q %.70q %v", i, x.w.Text, x.keyword, got)
		}
	}
	for i, w := range wrong() {
		if got := words.Is(w, w.Text); got != (w.Kind == api.WordName) {
			t.Errorf("wrong %d: %v", i, got)
		}
	}
}

// P3.4 (P0.5)

// some are words of all kinds.
func some() []api.Word {
	l := []api.Word{
		name(0, "a"), name(0, "MATCH"), name(0, "_9"), name(0, strings.Repeat("Z", api.MaxName)),
		quoted(0, "a"), quoted(0, "`"), quoted(0, "` `"), quoted(0, "/*"), quoted(0, "é\n"), quoted(0, strings.Repeat("`", api.MaxName)),
		text(0, ""), text(0, "'"), text(0, `"`), text(0, `\`), text(0, `\'`), text(0, "\n\r\t\x00\x1f\x7f"), text(0, "// /*"), text(0, "é\u2028\U0010ffff"), text(0, `\u0041`),
		number(0, 0), number(0, 7), number(0, 1<<63-1), number(0, 1<<63),
	}
	for _, s := range signs() {
		l = append(l, sign(0, s))
	}
	return l
}

// held reads a text, and holds that its words are the same as l, and that each begins at its place.
func held(t *testing.T, s string, l []api.Word) {
	t.Helper()
	got, _, e := words.Lex(s)
	if e != api.OK || !words.Same(got, l) {
		t.Fatalf("%q: %v %v, not %v", s, got, e, l)
	}
	for i, w := range got {
		if i > 0 && w.At <= got[i-1].At {
			t.Fatalf("%q: places %v", s, got)
		}
		rest, _, e := words.Lex(s[w.At:])
		if e != api.OK || !words.Same(rest, l[i:]) || rest[0].At != 0 {
			t.Fatalf("%q from %d: %v %v", s, w.At, rest, e)
		}
	}
}

func TestLexOfPrint(t *testing.T) {
	all := some()
	for _, a := range all {
		for _, b := range all {
			for _, l := range [][]api.Word{{a}, {a, b}, {a, b, a}} {
				s, e := words.Print(l...)
				if e != api.OK {
					t.Fatal(l, e)
				}
				held(t, s, l)
				if k, _, _ := words.Lex(s); !slices.Equal(k, placed(l)) {
					t.Fatal(s, k)
				}
				again, e := words.Print(placed(l)...)
				if again != s || e != api.OK {
					t.Fatal(s, again, e)
				}
			}
		}
	}
	s, e := words.Print(all...)
	if e != api.OK {
		t.Fatal(e)
	}
	held(t, s, all)
}

// placed are words at the places at which Print tells them.
func placed(l []api.Word) []api.Word {
	out, at := slices.Clone(l), 0
	for i := range out {
		out[i].At = at
		s, _ := words.Print(out[i])
		at += len(s) + 1
	}
	return out
}

func TestBlanksAndComments(t *testing.T) {
	all := some()
	between := []string{" ", "\t", "\n", "\r", "  \n ", "/**/", "//\n", " // ' `\n", "/* ' // \n*/", " /***/ /* * / */\t", "//\xff\n"}
	for i, a := range all {
		for j, b := range all {
			one, _ := words.Print(a)
			two, _ := words.Print(b)
			gap := between[(i*7+j)%len(between)]
			if one == "/" && gap[0] == '/' {
				gap = " " + gap
			}
			s := between[(i+j)%len(between)] + one + gap + two + " //"
			held(t, s, []api.Word{a, b})
		}
	}
}

func TestLexOfSpell(t *testing.T) {
	names := append(reserved(), "a", "_", "a1", "1a", "A b", "`", "``", "`a", "a`", "é", "\n", "'", "\"", "\\", "//", "/*", "*/", "(", "0", "$a", "MATCH", "Count", "\x01", strings.Repeat("x", api.MaxName), strings.Repeat("`", api.MaxName), strings.Repeat("é", api.MaxName/2))
	for c := 1; c < 128; c++ {
		names = append(names, string(rune(c)), "a"+string(rune(c)), string(rune(c))+"a")
	}
	for _, s := range names {
		l, at, e := words.Lex(words.Spell(s))
		if len(l) != 1 || at != 0 || e != api.OK || l[0].Text != s || l[0].At != 0 {
			t.Fatalf("%q %q: %v %d %v", s, words.Spell(s), l, at, e)
		}
		if k := l[0].Kind; k != api.WordQuoted && (k != api.WordName || words.Reserved(s)) {
			t.Errorf("%q: %v", s, l)
		}
		held(t, "("+words.Spell(s)+")", []api.Word{sign(0, "("), l[0], sign(0, ")")})
	}
}
