package value

import (
	"strconv"
	"strings"
	"unicode/utf8"

	"lattice/api"
)

// Text tells a value as a text.
func Text(v api.Value) (string, api.Errno) {
	if e := Check(v); e != api.OK {
		return "", e
	}
	return string(tell(nil, v)), api.OK
}

// Quote tells a text as a value's text does; nothing of no UTF-8.
func Quote(s string) string {
	if !utf8.ValidString(s) {
		return ""
	}
	return string(quote(nil, s))
}

// Name tells a key as a value's text does; nothing of no UTF-8.
func Name(s string) string {
	if !utf8.ValidString(s) {
		return ""
	}
	if bare(s) {
		return s
	}
	return "`" + strings.ReplaceAll(s, "`", "``") + "`"
}

// tell appends the text of a value that Check has let through.
func tell(out []byte, v api.Value) []byte {
	switch v.Kind {
	case api.ValueBool:
		return strconv.AppendBool(out, v.Bool)
	case api.ValueInt:
		return strconv.AppendInt(out, v.Int, 10)
	case api.ValueText:
		return quote(out, v.Text)
	case api.ValueList:
		return append(tellAll(append(out, '['), v), ']')
	case api.ValueMap:
		return append(tellAll(append(out, '{'), v), '}')
	case api.ValueNode:
		return append(strconv.AppendInt(append(out, "<n"...), v.Int, 10), '>')
	case api.ValueRel:
		return append(strconv.AppendInt(append(out, "<r"...), v.Int, 10), '>')
	}
	return append(out, "null"...)
}

// tellAll appends what is in a list or a map, a map's values behind their keys.
func tellAll(out []byte, v api.Value) []byte {
	for i, x := range v.List {
		if i > 0 {
			out = append(out, ", "...)
		}
		if v.Kind == api.ValueMap {
			out = append(append(out, Name(v.Keys[i])...), ": "...)
		}
		out = tell(out, x)
	}
	return out
}

// quote goes byte by byte: all that is told otherwise is a rune of one byte, and such a byte is in no longer rune.
func quote(out []byte, s string) []byte {
	out = append(out, '\'')
	for i := range len(s) {
		out = escape(out, s[i])
	}
	return append(out, '\'')
}

func escape(out []byte, c byte) []byte {
	const digits = "0123456789abcdef"
	switch {
	case c == '\'' || c == '\\':
		return append(out, '\\', c)
	case c == '\n':
		return append(out, `\n`...)
	case c == '\t':
		return append(out, `\t`...)
	case c == '\r':
		return append(out, `\r`...)
	case c < 32 || c == 127:
		return append(append(out, `\u00`...), digits[c>>4], digits[c&15])
	}
	return append(out, c)
}

// bare tells whether a key needs no signs around it.
func bare(s string) bool {
	for i := range len(s) {
		if !letter(s[i]) && (i == 0 || s[i] < '0' || s[i] > '9') {
			return false
		}
	}
	return s != ""
}

func letter(c byte) bool {
	return c == '_' || c >= 'A' && c <= 'Z' || c >= 'a' && c <= 'z'
}
