package syntax

import (
	"lattice/api"
	"lattice/words"
)

// fault is why reading gives up, and where.
type fault struct {
	at int
	e  api.Errno
}

// source is a text's words, of which the next one is to be read.
type source struct {
	list []api.Word
	next int
	end  fault // what is told where a word is asked for behind the last one
}

// sourceOf reads a text's words up to the first that can't be read: those ahead of it may be wrong, and are told first.
func sourceOf(text string) source {
	l, at, e := words.Lex(text)
	switch e {
	case api.OK:
		return source{list: l, end: fault{len(text), api.ErrSyntax}}
	case api.ErrLong:
		panic(fault{at, e})
	}
	for _, w := range words.All(text) {
		l = append(l, w)
	}
	return source{list: l, end: fault{at, e}}
}

// ahead is the n-th word behind the next one; a word of no kind, if there are not so many.
func (s *source) ahead(n int) api.Word {
	if s.next+n < len(s.list) {
		return s.list[s.next+n]
	}
	return api.Word{}
}

func (s *source) word() api.Word { return s.ahead(0) }

func (s *source) pass() { s.next++ }

// place is where the next word begins.
func (s *source) place() int {
	if s.next < len(s.list) {
		return s.word().At
	}
	return s.end.at
}

// refuse gives up at the next word.
func (s *source) refuse(e api.Errno) { panic(fault{s.place(), e}) }

// wrong gives up as the next word may not stand here.
func (s *source) wrong() {
	if s.next == len(s.list) {
		panic(s.end)
	}
	s.refuse(api.ErrSyntax)
}

// ended needs that all words are read.
func (s *source) ended() {
	if s.next < len(s.list) || s.end.e != api.ErrSyntax {
		s.wrong()
	}
}

func (s *source) isSign(sign string) bool {
	w := s.word()
	return w.Kind == api.WordSign && w.Text == sign
}

func (s *source) isKeyword(keyword string) bool { return words.Is(s.word(), keyword) }

// isAny tells whether a name stands next, reserved or not.
func (s *source) isAny() bool {
	k := s.word().Kind
	return k == api.WordName || k == api.WordQuoted
}

// isName tells whether a name stands next that a variable may be called by as it stands there.
func (s *source) isName() bool {
	w := s.word()
	return w.Kind == api.WordQuoted || w.Kind == api.WordName && !words.Reserved(w.Text)
}

func (s *source) takeSign(sign string) bool { return s.take(s.isSign(sign)) }

func (s *source) takeKeyword(keyword string) bool { return s.take(s.isKeyword(keyword)) }

// take passes the next word, if it is so.
func (s *source) take(so bool) bool {
	if so {
		s.pass()
	}
	return so
}

func (s *source) needSign(sign string) { s.need(s.isSign(sign)) }

func (s *source) needKeyword(keyword string) { s.need(s.isKeyword(keyword)) }

func (s *source) needAny() string { return s.need(s.isAny()) }

func (s *source) needName() string { return s.need(s.isName()) }

// need passes the next word, which may stand here only if it is so, and tells its text.
func (s *source) need(so bool) string {
	if !so {
		s.wrong()
	}
	w := s.word()
	s.pass()
	return w.Text
}
