package words_test

import (
	"math/big"
	"regexp"
	"slices"
	"strconv"
	"strings"
	"testing"
	"unicode/utf8"

	"lattice/api"
	"lattice/words"
)

// another reads words by patterns: slow, and put together from nothing of the program.
type another struct{ pass, name, quoted, text, number, sign, escape *regexp.Regexp }

func makeAnother() another {
	return another{
		pass:   regexp.MustCompile(`^(?s:[\t\n\r ]|//[^\n]*|/\*.*?\*/)+`),
		name:   regexp.MustCompile(`^[A-Za-z_][A-Za-z_0-9]*`),
		quoted: regexp.MustCompile("^`((?s:[^`]|``)*)"),
		text:   regexp.MustCompile(`^(?s:'((?:[^'\\]|\\(?:[\\'"ntr]|u[0-9A-Fa-f]{4}))*)'|"((?:[^"\\]|\\(?:[\\'"ntr]|u[0-9A-Fa-f]{4}))*)")`),
		number: regexp.MustCompile(`^[0-9][A-Za-z_0-9]*`),
		sign:   regexp.MustCompile(`^(?:<>|<=|>=|[()\[\]{},.:|=<>+\-*/%$])`),
		escape: regexp.MustCompile(`\\(?:u(....)|.)`),
	}
}

// lex tells the words of a text up to the first that can't be read, and its place; -1, if there is none.
func (a another) lex(s string) (l []api.Word, bad int) {
	for at := 0; ; {
		at += len(a.pass.FindString(s[at:]))
		if at == len(s) {
			return l, -1
		}
		w, size := a.word(s[at:])
		if size == 0 {
			return l, at
		}
		w.At = at
		l = append(l, w)
		at += size
	}
}

func (a another) word(s string) (api.Word, int) {
	if strings.HasPrefix(s, "/*") {
		return api.Word{}, 0
	}
	if m := a.name.FindString(s); m != "" && len(m) <= 64 {
		return name(0, m), len(m)
	}
	if m := a.quoted.FindStringSubmatch(s); m != nil && strings.HasPrefix(s[len(m[0]):], "`") {
		plain := strings.ReplaceAll(m[1], "``", "`")
		if plain != "" && len(plain) <= 64 && utf8.ValidString(plain) && !strings.Contains(plain, "\x00") {
			return quoted(0, plain), len(m[0]) + 1
		}
		return api.Word{}, 0
	}
	if m := a.text.FindStringSubmatch(s); m != nil && utf8.ValidString(m[0]) {
		plain, ok := a.unescape(m[1] + m[2])
		if !ok {
			return api.Word{}, 0
		}
		return text(0, plain), len(m[0])
	}
	if m := a.number.FindString(s); m != "" {
		n, ok := new(big.Int).SetString(m, 10)
		if !ok || n.String() != m || n.Cmp(new(big.Int).Lsh(big.NewInt(1), 63)) > 0 {
			return api.Word{}, 0
		}
		return number(0, n.Uint64()), len(m)
	}
	m := a.sign.FindString(s)
	return sign(0, m), len(m)
}

func (a another) unescape(s string) (string, bool) {
	ok := true
	out := a.escape.ReplaceAllStringFunc(s, func(e string) string {
		if e[1] == 'u' {
			n, _ := strconv.ParseInt(e[2:], 16, 32)
			ok = ok && utf8.ValidRune(rune(n))
			return string(rune(n))
		}
		return strings.NewReplacer("n", "\n", "t", "\t", "r", "\r").Replace(e[1:])
	})
	return out, ok
}

// against holds Lex and All against another reader.
func (a another) against(t *testing.T, s string) {
	t.Helper()
	want, bad := a.lex(s)
	l, at, e := words.Lex(s)
	switch {
	case bad < 0:
		if !slices.Equal(l, want) || at != 0 || e != api.OK {
			t.Fatalf("%q: %v %d %v, not %v", s, l, at, e, want)
		}
	case len(l) != 0 || at != bad || e != api.ErrWord:
		t.Fatalf("%q: %v %d %v, not %d", s, l, at, e, bad)
	}
	if got := gone(words.All(s)); !slices.Equal(got, want) {
		t.Fatalf("All of %q: %v, not %v", s, got, want)
	}
}

// TestAgainstAnother goes through all texts of up to four of some pieces.
func TestAgainstAnother(t *testing.T) {
	a := makeAnother()
	pieces := []string{"a", "0", "7", "_", "'", `"`, "`", `\`, "n", "u00", "/", "*", "\n", " ", "<", ">", "=", "é", "\xc3", "\x00", "#", "."}
	texts := []string{""}
	for range 4 {
		var longer []string
		for _, s := range texts {
			a.against(t, s)
			for _, p := range pieces {
				longer = append(longer, s+p)
			}
		}
		texts = longer
	}
	for _, s := range texts {
		a.against(t, s)
	}
}

// TestLongerAgainstAnother strings pieces together by a rule that takes each behind each other.
func TestLongerAgainstAnother(t *testing.T) {
	a := makeAnother()
	pieces := []string{"abc", "MATCH ", " 12 ", "9223372036854775808 ", "'x'", `"\u00e9"`, `'\\'`, `"\""`, "`b c`", "````", "<>", "<=", "< ", "/*-*/", "//\n", "\t", "(", ")", "-", ".", "$", "[", "|", "/", `'\n`, "'", "1x", "\xff", "é"}
	state := uint32(1)
	for range 20000 {
		var b strings.Builder
		for n := 0; n < 12; n++ {
			state = state*1664525 + 1013904223
			b.WriteString(pieces[int(state>>16)%len(pieces)])
		}
		a.against(t, b.String())
	}
}
