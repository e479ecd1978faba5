package words

import (
	"strconv"
	"strings"
	"unicode/utf8"

	"lattice/api"
)

// most is the greatest number: that of the least one below nought without its sign, which is a word of its own.
const most = 1 << 63

// reader reads a text from the front.
type reader struct {
	text  string
	at    int // up to where it is read
	begin int // where the word or comment that is under way begins
}

// each hands a text's words on till yield has enough, or tells why it can't go on, and where.
func each(text string, yield func(int, api.Word) bool) (int, api.Errno) {
	if len(text) > api.MaxText {
		return 0, api.ErrLong
	}
	r := reader{text: text}
	step := r.step
	for i := 0; ; i++ {
		w, there, e := guarded(step)
		if e != api.OK {
			return r.begin, e
		}
		if !there || !yield(i, w) {
			return 0, api.OK
		}
	}
}

// guarded lets a step give up. It stands around one step alone, so that what the caller's loop does is none of its business.
func guarded(step func() (api.Word, bool)) (w api.Word, there bool, e api.Errno) {
	defer func() {
		r := recover()
		if r == any(api.ErrWord) {
			w, there, e = api.Word{}, false, api.ErrWord
		} else if r != nil {
			panic(r)
		}
	}()
	w, there = step()
	return w, there, api.OK
}

// need gives up the word that is under way, unless what it needs is so.
func need(so bool) {
	if !so {
		panic(api.ErrWord)
	}
}

// step reads the next word, if there is one.
func (r *reader) step() (api.Word, bool) {
	r.pass()
	if r.at == len(r.text) {
		return api.Word{}, false
	}
	w := api.Word{At: r.at}
	switch c := r.text[r.at]; {
	case letter(c):
		w.Kind, w.Text = api.WordName, r.run()
		need(Name(w.Text))
	case c == '`':
		w.Kind, w.Text = api.WordQuoted, r.quoted()
		need(Name(w.Text))
	case c == '\'' || c == '"':
		w.Kind, w.Text = api.WordText, r.closed()
		need(utf8.ValidString(w.Text))
	case digit(c):
		w.Kind, w.Number = api.WordNumber, number(r.run())
	case sign(r.ahead(2)):
		r.at++
		fallthrough
	case sign(r.ahead(1)):
		r.at++
		w.Kind, w.Text = api.WordSign, r.text[w.At:r.at]
	default:
		need(false)
	}
	return w, true
}

// pass goes over what stands between words.
func (r *reader) pass() {
	for {
		r.begin = r.at
		switch r.ahead(1) {
		case "\t", "\n", "\r", " ":
			r.at++
			continue
		}
		switch r.ahead(2) {
		case "//":
			r.comment("\n")
		case "/*":
			r.comment("*/")
		default:
			return
		}
	}
}

// comment goes on behind the end of a comment; the text's end is a line's end too.
func (r *reader) comment(end string) {
	r.at += 2
seek:
	for {
		switch {
		case strings.HasPrefix(r.text[r.at:], end):
			r.at += len(end)
			break seek
		case r.at == len(r.text):
			need(end == "\n")
			break seek
		}
		r.at++
	}
}

// ahead tells the next n bytes; nothing, if there are fewer.
func (r *reader) ahead(n int) string {
	if len(r.text)-r.at < n {
		return ""
	}
	return r.text[r.at : r.at+n]
}

// next is the byte that must be there for the word to go on.
func (r *reader) next() byte {
	need(r.at < len(r.text))
	return r.text[r.at]
}

// run reads letters and digits as far as they go.
func (r *reader) run() string {
	from := r.at
	for r.at < len(r.text) && (letter(r.text[r.at]) || digit(r.text[r.at])) {
		r.at++
	}
	return r.text[from:r.at]
}

// number takes the letters behind digits too, which may not be there.
func number(s string) uint64 {
	n, err := strconv.ParseUint(s, 10, 64)
	need(err == nil && n <= most && (s[0] != '0' || len(s) == 1))
	return n
}

// quoted reads a name between two `.
func (r *reader) quoted() string {
	var out []byte
	for r.at++; ; r.at++ {
		if r.next() == '`' {
			r.at++
			if r.ahead(1) != "`" {
				return string(out)
			}
		}
		out = append(out, r.text[r.at])
	}
}

// closed reads a text up to the sign with which it begins.
func (r *reader) closed() string {
	var out []byte
	end := r.next()
	for r.at++; r.next() != end; r.at++ {
		if r.next() == '\\' {
			r.at++
			out = r.escape(out)
		} else {
			out = append(out, r.next())
		}
	}
	r.at++
	return string(out)
}

// escape adds what the byte behind a \ stands for.
func (r *reader) escape(out []byte) []byte {
	escapes := [...][2]byte{{'\\', '\\'}, {'\'', '\''}, {'"', '"'}, {'n', 10}, {'t', 9}, {'r', 13}}
	for _, e := range escapes {
		if e[0] == r.next() {
			return append(out, e[1])
		}
	}
	need(r.next() == 'u')
	return utf8.AppendRune(out, r.hex())
}

// hex reads four digits to the base 16, the last of which stays to be gone over.
func (r *reader) hex() rune {
	n := rune(0)
	for range 4 {
		r.at++
		d := strings.IndexByte("0123456789abcdef", lower(r.next()))
		need(d >= 0)
		n = n<<4 | rune(d)
	}
	// Halves of pairs, D800 to DFFF, are no runes.
	need(utf8.ValidRune(n))
	return n
}
