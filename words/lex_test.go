package words_test

import (
	"slices"
	"strconv"
	"strings"
	"testing"

	"lattice/api"
	"lattice/words"
)

func name(at int, s string) api.Word   { return api.Word{Kind: api.WordName, At: at, Text: s} }
func quoted(at int, s string) api.Word { return api.Word{Kind: api.WordQuoted, At: at, Text: s} }
func text(at int, s string) api.Word   { return api.Word{Kind: api.WordText, At: at, Text: s} }
func sign(at int, s string) api.Word   { return api.Word{Kind: api.WordSign, At: at, Text: s} }
func number(at int, n uint64) api.Word { return api.Word{Kind: api.WordNumber, At: at, Number: n} }

// reads holds that a text has just these words, in Lex and in All.
func reads(t *testing.T, s string, want ...api.Word) {
	t.Helper()
	l, at, e := words.Lex(s)
	if !slices.Equal(l, want) || at != 0 || e != api.OK {
		t.Errorf("%.40q: %v %d %v", s, l, at, e)
	}
	if got := gone(words.All(s)); !slices.Equal(got, want) {
		t.Errorf("All of %.40q: %v", s, got)
	}
}

// refuses holds that the words of a text end with an error at a place, behind some that can be read.
func refuses(t *testing.T, s string, place int, ahead ...api.Word) {
	t.Helper()
	if l, at, e := words.Lex(s); len(l) != 0 || at != place || e != api.ErrWord {
		t.Errorf("%.40q: %v %d %v", s, l, at, e)
	}
	if got := gone(words.All(s)); !slices.Equal(got, ahead) {
		t.Errorf("All of %.40q: %v", s, got)
	}
}

// gone is what an iteration tells; nothing, if its numbers are not those from 0 on.
func gone(all func(func(int, api.Word) bool)) []api.Word {
	var l []api.Word
	for i, w := range all {
		if i != len(l) {
			return nil
		}
		l = append(l, w)
	}
	return l
}

// P3.1

func TestExamples(t *testing.T) {
	reads(t, "MATCH (a:`b c`) /* */ <>1 // x", name(0, "MATCH"), sign(6, "("), name(7, "a"), sign(8, ":"), quoted(9, "b c"), sign(14, ")"), sign(22, "<>"), number(24, 1))
	reads(t, `'it\'s' "it's\u00e9"`, text(0, "it's"), text(8, "it's\u00e9"))
	reads(t, "9223372036854775808", number(0, 1<<63))
	for _, s := range []string{"9223372036854775809", "01", "1a", "'a", "``", "/* a", "#", `'\q'`, `'\ud800'`} {
		refuses(t, s, 0)
	}
}

func TestNothing(t *testing.T) {
	for _, s := range []string{"", " ", "\t\n\r ", "//", "// x", "/**/", " /* a */\n// b\n", "//\n//\r"} {
		reads(t, s)
	}
}

func TestNameWords(t *testing.T) {
	for _, s := range []string{"a", "z", "A", "Z", "_", "_1", "a0", "z9", "aB_9", "MATCH", "__", "u00e9", strings.Repeat("x", api.MaxName), strings.Repeat("_", api.MaxName)} {
		reads(t, s, name(0, s))
		reads(t, " "+s+"(", name(1, s), sign(1+len(s), "("))
	}
	for _, s := range []string{strings.Repeat("x", api.MaxName+1), strings.Repeat("x", api.MaxText), "a" + strings.Repeat("1", api.MaxName)} {
		refuses(t, s, 0)
	}
	refuses(t, "b "+strings.Repeat("x", api.MaxName+1)+" #", 2, name(0, "b"))
	for _, s := range []string{"aé", "a#", "a@", "a?", "a;", "a!", "a\\", "a&", "a^", "a~", "a\x00", "a\x80", "a\x7f"} {
		refuses(t, s, 1, name(0, "a"))
	}
	for _, s := range []string{"é", "\u212a", "ß", "\x00", "\x80", "\xc3", ";", "@", "\\", "^", "~", "!", "&", "?", "\u2028"} {
		refuses(t, s, 0)
	}
}

func TestQuotedNames(t *testing.T) {
	for s, want := range map[string]string{
		"`a`": "a", "` `": " ", "`a b`": "a b", "`match`": "match", "`1`": "1", "````": "`", "`a``b`": "a`b", "``````": "``", "```a`": "`a", "`a```": "a`",
		"`'\"\\`": "'\"\\", "`\\```": "\\`", "`\n\t\r`": "\n\t\r", "`\x01\x7f`": "\x01\x7f", "`é\u2028\U0010ffff\ufffd`": "é\u2028\U0010ffff\ufffd", "`/*`": "/*", "`//`": "//",
		"`" + strings.Repeat("x", api.MaxName) + "`":     strings.Repeat("x", api.MaxName),
		"`" + strings.Repeat("é", api.MaxName/2) + "`":   strings.Repeat("é", api.MaxName/2),
		"`" + strings.Repeat("``", api.MaxName) + "`":    strings.Repeat("`", api.MaxName),
		"`" + strings.Repeat("``", api.MaxName-1) + "x`": strings.Repeat("`", api.MaxName-1) + "x",
	} {
		reads(t, s, quoted(0, want))
		reads(t, "\n"+s+"'`'", quoted(1, want), text(1+len(s), "`"))
	}
	for _, s := range []string{
		"`", "``", "```", "`a", "`a``", "`a``b", "`````", "`` ", "``a", "`a\n", "`\x00`", "`a\x00b`", "`\xff`", "`\xc3`", "`\xed\xa0\x80`", "`a\x80`",
		"`" + strings.Repeat("x", api.MaxName+1) + "`", "`" + strings.Repeat("é", api.MaxName/2) + "x`",
		"`" + strings.Repeat("``", api.MaxName+1) + "`", "`" + strings.Repeat("x", api.MaxText-4) + "`",
	} {
		refuses(t, s, 0)
		refuses(t, "a "+s, 2, name(0, "a"))
	}
	reads(t, "`a` `b`", quoted(0, "a"), quoted(4, "b"))
}

func TestTexts(t *testing.T) {
	for s, want := range map[string]string{
		"": "", "a": "a", "a b": "a b", `\\`: `\`, `\'`: "'", `\"`: `"`, `\n\t\r`: "\n\t\r", `\\n`: `\n`, `\\\\`: `\\`, "`": "`", "\n\r\t": "\n\r\t", "\x00\x01\x7f": "\x00\x01\x7f",
		"é\u2028\U0010ffff\ufffd": "é\u2028\U0010ffff\ufffd", "// /* */": "// /* */",
		`\u0000`: "\x00", `\u0041`: "A", `\u00e9`: "é", `\u00E9`: "é", `\u007f\u0080`: "\x7f\u0080", `\u07ff\u0800`: "\u07ff\u0800",
		`\ud7ff`: "\ud7ff", `\uD7FF`: "\ud7ff", `\ue000`: "\ue000", `\uE000`: "\ue000", `\uffff`: "\uffff", `\uabcd`: "\uabcd", `\uABCD`: "\uabcd", `\u12345`: "\u12345", `\u0123\u4567\u89aB\ucDeF`: "\u0123\u4567\u89ab\ucdef",
		`\u005c`: `\`, `\u0027`: "'", `\u0022n`: `"n`, `a\nb`: "a\nb",
	} {
		reads(t, "'"+s+"'", text(0, want))
		reads(t, `"`+s+`"`, text(0, want))
		reads(t, "a'"+s+`'"`+s+`"`, name(0, "a"), text(1, want), text(3+len(s), want))
	}
	reads(t, `'"'`, text(0, `"`))
	reads(t, `"'"`, text(0, `'`))
	reads(t, `'a''b'`, text(0, "a"), text(3, "b"))
	reads(t, `'a'b`, text(0, "a"), name(3, "b"))
}

func TestTextsThatCannotBeRead(t *testing.T) {
	for _, s := range []string{
		`'`, `"`, `'a`, `"a`, `'a"`, `"a'`, `'\'`, `"\"`, `'\`, `'a\\\'`, `'\u`, `'\u0`, `'\u004`, `'\u0041`, "'\n",
		`'\q'`, `'\a'`, `'\b'`, `'\0'`, `'\N'`, `'\T'`, `'\R'`, `'\U0041'`, `'\x41'`, `'\ '`, "'\\`'", "'\\\n'", `'\/'`, `'\é'`,
		`'\u'`, `'\u0'`, `'\u004'`, `'\u004g'`, `'\u004G'`, `'\u/041'`, `'\u:041'`, `'\u@041'`, "'\\u`041'", `'\u-041'`, `'\u+041'`, `'\u 041'`, `'\u00_1'`, `'\u{41}'`, `'\u004é'`,
		`'\ud800'`, `'\uD800'`, `'\udabc'`, `'\udbff'`, `'\udc00'`, `'\udfff'`, `'\uDFFF'`, `'\ud83d\ude00'`,
		"'\xff'", "'a\xc3'", "'\xa9'", "'\xed\xa0\x80'", "'\xc0\x80'", "'\xf4\x90\x80\x80'", "'\xc3\\u00a9'", "\"\xe2\x82\"",
	} {
		refuses(t, s, 0)
		refuses(t, "/* */"+s, 5)
		refuses(t, "a\n"+s, 2, name(0, "a"))
	}
}

func TestNumbers(t *testing.T) {
	for s, n := range map[string]uint64{"0": 0, "1": 1, "9": 9, "10": 10, "1234567890": 1234567890, "9223372036854775807": 1<<63 - 1, "9223372036854775808": 1 << 63, "9223372036854775799": 9223372036854775799} {
		reads(t, s, number(0, n))
		reads(t, "-"+s+".", sign(0, "-"), number(1, n), sign(1+len(s), "."))
		refuses(t, s+"a", 0)
		refuses(t, s+"_", 0)
		refuses(t, s+"Z0", 0)
		refuses(t, s+"é", len(s), number(0, n))
		refuses(t, "0"+s, 0)
	}
	for _, s := range []string{"9223372036854775809", "9223372036854775810", "9999999999999999999", "10000000000000000000", "18446744073709551615", "18446744073709551616", "18446744073709551617", "92233720368547758080", strings.Repeat("1", api.MaxText-2)} {
		refuses(t, s, 0)
		refuses(t, "( "+s, 2, sign(0, "("))
	}
	for _, s := range []string{"00", "01", "007", "1a", "1_", "1_0", "0x1", "0b1", "0o7", "1e5", "9Z", "0_"} {
		refuses(t, s, 0)
	}
	reads(t, "1.5", number(0, 1), sign(1, "."), number(2, 5))
	reads(t, "0.0", number(0, 0), sign(1, "."), number(2, 0))
	reads(t, "1 2", number(0, 1), number(2, 2))
	reads(t, "1'a'`b`", number(0, 1), text(1, "a"), quoted(4, "b"))
	reads(t, "1/**/2//", number(0, 1), number(5, 2))
	refuses(t, "\u0661", 0)
}

func signs() []string {
	return []string{"(", ")", "[", "]", "{", "}", ",", ".", ":", "|", "=", "<>", "<", "<=", ">", ">=", "+", "-", "*", "/", "%", "$"}
}

func TestSigns(t *testing.T) {
	for _, s := range signs() {
		reads(t, s, sign(0, s))
		reads(t, "a"+s+"b", name(0, "a"), sign(1, s), name(1+len(s), "b"))
		reads(t, s+" "+s, sign(0, s), sign(1+len(s), s))
	}
	for s, want := range map[string][]api.Word{
		"<<>":  {sign(0, "<"), sign(1, "<>")},
		"<>=":  {sign(0, "<>"), sign(2, "=")},
		"<=>":  {sign(0, "<="), sign(2, ">")},
		">=>=": {sign(0, ">="), sign(2, ">=")},
		"=<":   {sign(0, "="), sign(1, "<")},
		"=>":   {sign(0, "="), sign(1, ">")},
		"==":   {sign(0, "="), sign(1, "=")},
		"><":   {sign(0, ">"), sign(1, "<")},
		"< >":  {sign(0, "<"), sign(2, ">")},
		"< =":  {sign(0, "<"), sign(2, "=")},
		"<-->": {sign(0, "<"), sign(1, "-"), sign(2, "-"), sign(3, ">")},
		"..":   {sign(0, "."), sign(1, ".")},
		"/ /":  {sign(0, "/"), sign(2, "/")},
		"/ *":  {sign(0, "/"), sign(2, "*")},
		"*/":   {sign(0, "*"), sign(1, "/")},
		"**":   {sign(0, "*"), sign(1, "*")},
		"([{":  {sign(0, "("), sign(1, "["), sign(2, "{")},
		"/":    {sign(0, "/")},
	} {
		reads(t, s, want...)
	}
	for c := range 256 {
		s := string([]byte{byte(c)})
		if c == '`' || c == '\'' || c == '"' || !strings.Contains("\t\n\r ()[]{},.:|=<>+-*/%$_0123456789", s) && (c|32 < 'a' || c|32 > 'z' || c > 127) {
			refuses(t, s, 0)
			refuses(t, "$ "+s+" a", 2, sign(0, "$"))
		} else if _, _, e := words.Lex(s); e != api.OK {
			t.Error(c, e)
		}
	}
}

func TestComments(t *testing.T) {
	for s, want := range map[string][]api.Word{
		"// a":           nil,
		"a//":            {name(0, "a")},
		"a// b":          {name(0, "a")},
		"a//\nb":         {name(0, "a"), name(4, "b")},
		"// a\rb":        nil,
		"// a\r\nb":      {name(6, "b")},
		"// /*\nb":       {name(6, "b")},
		"//*\nb":         {name(4, "b")},
		"///\n/":         {sign(4, "/")},
		"//\n//\nb":      {name(6, "b")},
		"/**/b":          {name(4, "b")},
		"/***/b":         {name(5, "b")},
		"/*/*/b":         {name(5, "b")},
		"/* /* */b":      {name(8, "b")},
		"/* // */b":      {name(8, "b")},
		"/* * / */b":     {name(9, "b")},
		"/*\n\n*/b":      {name(6, "b")},
		"/* */ */":       {sign(6, "*"), sign(7, "/")},
		"a/*b*/c":        {name(0, "a"), name(6, "c")},
		"</**/>":         {sign(0, "<"), sign(5, ">")},
		"//\xff\x00\nb":  {name(5, "b")},
		"/*\xff\x00*/b":  {name(6, "b")},
		"/* ' */b/*' */": {name(7, "b")},
		"// ' `\nb":      {name(7, "b")},
		"///**/":         nil,
		"//":             nil,
		"/":              {sign(0, "/")},
	} {
		reads(t, s, want...)
	}
	for _, s := range []string{"/*", "/* a", "/*/", "/* *", "/* * /", "/*\n", "/*//", "/* *\n/", "/*'*'"} {
		refuses(t, s, 0)
		refuses(t, "a/**/ "+s, 6, name(0, "a"))
		refuses(t, "//\n"+s, 3)
	}
}

func TestFirstThatCannotBeRead(t *testing.T) {
	refuses(t, "a # 'b", 2, name(0, "a"))
	refuses(t, "a b 'c #", 4, name(0, "a"), name(2, "b"))
	refuses(t, "a /* ' #", 2, name(0, "a"))
	refuses(t, "é\xff", 0)
	refuses(t, "\xc3", 0)
	refuses(t, "  \xa9", 2)
	for _, s := range []string{"\x0b", "\x0c", "\u0085", "\u00a0", "\ufeff", "\x00"} {
		refuses(t, "a "+s+"b", 2, name(0, "a"))
	}
}

func TestLongTexts(t *testing.T) {
	blanks := strings.Repeat(" ", api.MaxText)
	reads(t, blanks)
	reads(t, "a"+blanks[2:]+"b", name(0, "a"), name(api.MaxText-1, "b"))
	reads(t, "//"+blanks[2:])
	reads(t, "/*"+blanks[4:]+"*/")
	reads(t, "'"+blanks[2:]+"'", text(0, blanks[2:]))
	refuses(t, blanks[1:]+"#", api.MaxText-1)
	refuses(t, blanks[1:]+"'", api.MaxText-1)
	for _, s := range []string{blanks + " ", blanks + "a", "#" + blanks, "a b" + blanks, strings.Repeat("'", api.MaxText+1), blanks + blanks, "\xff" + blanks} {
		if l, at, e := words.Lex(s); len(l) != 0 || at != 0 || e != api.ErrLong {
			t.Errorf("%.10q: %v %d %v", s, l, at, e)
		}
		if l := gone(words.All(s)); len(l) != 0 {
			t.Errorf("%.10q: %v", s, l)
		}
	}
	many := strings.Repeat("a ", api.MaxText/2)
	if l, at, e := words.Lex(many); len(l) != api.MaxText/2 || at != 0 || e != api.OK || l[len(l)-1] != name(api.MaxText-2, "a") {
		t.Error(len(l), at, e)
	}
}

// TestAll leaves an iteration behind each word, and goes over it again from its begin.
func TestAll(t *testing.T) {
	s := "a 'b' `c` 4 <= #"
	all := words.All(s)
	want := []api.Word{name(0, "a"), text(2, "b"), quoted(6, "c"), number(10, 4), sign(12, "<=")}
	for enough := range len(want) + 1 {
		n := 0
		for i, w := range all {
			if i != n || w != want[i] {
				t.Error(enough, i, w)
			}
			if n++; n > enough {
				break
			}
		}
		if n != min(enough+1, len(want)) {
			t.Error(enough, n)
		}
		if l := gone(all); !slices.Equal(l, want) {
			t.Error(enough, l)
		}
	}
	for _, a := range all {
		for _, b := range all {
			if a.At == 12 && b == a {
				return
			}
		}
	}
	t.Error("one within the other")
}

// TestAllReadsNoFurther holds that what can't be read far behind is no matter to a loop that is left ahead of it.
func TestAllReadsNoFurther(t *testing.T) {
	for i, w := range words.All("a b c /*") {
		if w != name(2*i, string(rune('a'+i))) {
			t.Error(i, w)
		}
		if i == 1 {
			return
		}
	}
	t.Error("not left")
}

// TestAllLetsPanicsThrough: what a loop's body does is not the reader's.
func TestAllLetsPanicsThrough(t *testing.T) {
	for _, own := range []any{"own", any(api.ErrWord)} {
		func() {
			defer func() {
				if r := recover(); r != own {
					t.Error(r)
				}
			}()
			for range words.All("a b") {
				panic(own)
			}
		}()
	}
}

// TestLexAnswersItsOwn changes an answer, and asks again.
func TestLexAnswersItsOwn(t *testing.T) {
	a, _, _ := words.Lex("a b")
	a[0].Text, a[1].At = "x", 7
	b, _, _ := words.Lex("a b")
	if !slices.Equal(b, []api.Word{name(0, "a"), name(2, "b")}) {
		t.Error(b)
	}
}

func TestEveryEscapedRune(t *testing.T) {
	for c := range 1 << 16 {
		h := strconv.FormatInt(int64(1<<16+c), 16)[1:]
		for _, s := range []string{`'\u` + h + `'`, `"\u` + strings.ToUpper(h) + `"`} {
			l, at, e := words.Lex(s)
			if c >= 0xd800 && c <= 0xdfff {
				if len(l) != 0 || at != 0 || e != api.ErrWord {
					t.Error(s, l, e)
				}
			} else if len(l) != 1 || l[0] != text(0, string(rune(c))) || e != api.OK {
				t.Error(s, l, e)
			}
		}
	}
}
