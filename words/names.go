package words

import (
	"strings"
	"unicode/utf8"

	"lattice/api"
	"lattice/value"
)

// Name tells whether a text may be a name.
func Name(s string) bool {
	return s != "" && len(s) <= api.MaxName && utf8.ValidString(s) && strings.IndexByte(s, 0) < 0
}

// Reserved tells whether a text is a keyword that no variable is called by as it is.
func Reserved(s string) bool {
	keywords := [...]string{
		"and", "as", "asc", "by", "case", "contains", "create", "delete", "desc", "descending", "ascending", "detach", "distinct",
		"else", "end", "ends", "false", "in", "is", "limit", "match", "not", "null", "on", "optional", "or", "order",
		"remove", "return", "set", "skip", "starts", "then", "true", "unwind", "when", "where", "with", "xor",
	}
	for _, k := range keywords {
		if alike(s, k) {
			return true
		}
	}
	return false
}

// Spell tells a name as it is written in a query; nothing, if it may be no name.
func Spell(s string) string {
	switch {
	case !Name(s):
		return ""
	case bare(s) && !Reserved(s):
		return s
	}
	return enclosed(s)
}

// Is tells whether a word is a keyword, in letters of any case. Whether the word may be is asked by Print alone.
func Is(w api.Word, keyword string) bool {
	return w.Kind == api.WordName && alike(w.Text, keyword)
}

// bare tells whether a name is read as it is. Layer 1 leaves just such keys as they are.
func bare(s string) bool { return Name(s) && value.Name(s) == s }

// enclosed tells a name between signs that let it have any letters.
func enclosed(s string) string {
	return "`" + strings.ReplaceAll(s, "`", "``") + "`"
}

// alike holds texts against each other byte by byte: the library would take letters beyond A to Z for some of these.
func alike(a, b string) bool {
	if len(a) != len(b) {
		return false
	}
	for i := range len(a) {
		if lower(a[i]) != lower(b[i]) {
			return false
		}
	}
	return true
}

func lower(c byte) byte {
	if c >= 'A' && c <= 'Z' {
		return c - 'A' + 'a'
	}
	return c
}

func letter(c byte) bool { return c == '_' || lower(c) >= 'a' && lower(c) <= 'z' }

func digit(c byte) bool { return c >= '0' && c <= '9' }

// sign tells whether a text is a sign, and one alone.
func sign(s string) bool {
	switch s {
	case "(", ")", "[", "]", "{", "}", ",", ".", ":", "|", "=", "<>", "<", "<=", ">", ">=", "+", "-", "*", "/", "%", "$":
		return true
	}
	return false
}
