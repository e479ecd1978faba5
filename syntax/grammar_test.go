package syntax_test

import (
	"math/rand/v2"
	"regexp"
	"slices"
	"strings"
	"testing"

	"lattice/api"
	"lattice/syntax"
	"lattice/words"
)

// chapter is the language as the chapter writes it, but for a rel with both signs, which its words rule out.
const chapter = `
query  = clause { clause }
clause = [ OPTIONAL ] MATCH paths [ WHERE expr ] | UNWIND expr AS name | WITH told [ WHERE expr ] | CREATE paths
       | SET set { "," set } | REMOVE drop { "," drop } | [ DETACH ] DELETE name { "," name } | RETURN told
told   = [ DISTINCT ] item { "," item } [ ORDER BY key { "," key } ] [ SKIP expr ] [ LIMIT expr ]
item   = expr [ AS name ]
key    = expr [ ASC | ASCENDING | DESC | DESCENDING ]
set    = name "." any "=" expr | name ":" any
drop   = name "." any | name ":" any
paths  = path { "," path }
path   = node { rel node }
node   = "(" [ name ] { ":" any } [ map ] ")"
rel    = "<" "-" [ "[" [ name ] [ ":" any { "|" any } ] [ map ] "]" ] "-" | "-" [ "[" [ name ] [ ":" any { "|" any } ] [ map ] "]" ] "-" [ ">" ]
map    = "{" [ any ":" expr { "," any ":" expr } ] "}"
expr   = xor { OR xor }
xor    = and { XOR and }
and    = not { AND not }
not    = NOT not | test
test   = sum { ( "=" | "<>" | "<" | "<=" | ">" | ">=" | IN | STARTS WITH | ENDS WITH | CONTAINS ) sum | IS [ NOT ] NULL | ":" any }
sum    = term { ( "+" | "-" ) term }
term   = sign { ( "*" | "/" | "%" ) sign }
sign   = "-" sign | part
part   = atom { "." any | "[" expr "]" }
atom   = NULL | TRUE | FALSE | [ "-" ] number | text | "$" any | name | name "(" [ [ DISTINCT ] expr { "," expr } ] ")" | COUNT "(" "*" ")"
       | "[" [ expr { "," expr } ] "]" | map | "(" expr ")" | CASE WHEN expr THEN expr { WHEN expr THEN expr } [ ELSE expr ] END
`

// grammar has rules without { [ (: each of these is a name of its own.
type grammar struct {
	rules map[string][][]string
	left  []string // what is still to be read of the chapter
}

func readGrammar() *grammar {
	g := &grammar{rules: map[string][][]string{}}
	for _, s := range regexp.MustCompile(`(?m)^(\w+)\s*=`).Split(chapter, -1) {
		g.left = append(g.left, s)
	}
	names := regexp.MustCompile(`(?m)^(\w+)\s*=`).FindAllStringSubmatch(chapter, -1)
	bodies := g.left[1:]
	for i, n := range names {
		g.left = strings.Fields(bodies[i])
		g.rules[n[1]] = g.choices("")
	}
	return g
}

// choices reads up to a closing sign.
func (g *grammar) choices(end string) [][]string {
	l := [][]string{nil}
	for len(g.left) > 0 {
		s := g.left[0]
		g.left = g.left[1:]
		switch {
		case s == end:
			return l
		case s == "|":
			l = append(l, nil)
			continue
		case s == "{" || s == "[" || s == "(":
			s = g.group(s)
		}
		l[len(l)-1] = append(l[len(l)-1], s)
	}
	return l
}

func (g *grammar) group(open string) string {
	name := "group" + string(rune('A'+len(g.rules)))
	g.rules[name] = nil
	l := g.choices(map[string]string{"{": "}", "[": "]", "(": ")"}[open])
	if open == "{" {
		for i := range l {
			l[i] = append(l[i], name)
		}
	}
	if open != "(" {
		l = append(l, nil)
	}
	g.rules[name] = l
	return name
}

// stand is how far a rule is gone through, and with which word it began.
type stand struct {
	name         string
	choice, done int
	from         int
}

// walk is what all rules may be at, behind each word.
type walk struct {
	*grammar
	sets [][]stand
}

func (g *grammar) start(name string) walk {
	var first []stand
	for i := range g.rules[name] {
		first = append(first, stand{name, i, 0, 0})
	}
	return walk{g, nil}.with(first)
}

// with adds a set, and what follows it without a word, till there is nothing more.
func (w walk) with(set []stand) walk {
	last := len(w.sets)
	seen := map[stand]bool{}
	var closed []stand
	var empty []string // names that are there without a word
	add := func(s stand) {
		if !seen[s] {
			seen[s] = true
			closed = append(closed, s)
		}
	}
	for _, s := range set {
		add(s)
	}
	for i := 0; i < len(closed); i++ {
		s := closed[i]
		rule := w.rules[s.name][s.choice]
		if s.done < len(rule) {
			for c := range w.rules[rule[s.done]] {
				add(stand{rule[s.done], c, 0, last})
			}
			if slices.Contains(empty, rule[s.done]) {
				add(stand{s.name, s.choice, s.done + 1, s.from})
			}
			continue
		}
		within := closed
		if s.from < last {
			within = w.sets[s.from]
		} else {
			empty = append(empty, s.name)
		}
		for _, t := range within {
			if r := w.rules[t.name][t.choice]; t.done < len(r) && r[t.done] == s.name {
				add(stand{t.name, t.choice, t.done + 1, t.from})
			}
		}
	}
	return walk{w.grammar, append(w.sets[:last:last], closed)}
}

// on is the walk behind one more word, and whether that word may stand there.
func (w walk) on(x api.Word) (walk, bool) {
	var set []stand
	for _, s := range w.sets[len(w.sets)-1] {
		if rule := w.rules[s.name][s.choice]; s.done < len(rule) && fits(rule[s.done], x) {
			set = append(set, stand{s.name, s.choice, s.done + 1, s.from})
		}
	}
	return w.with(set), len(set) > 0
}

// ended tells whether the words are all of a name.
func (w walk) ended(name string) bool {
	for _, s := range w.sets[len(w.sets)-1] {
		if s.name == name && s.from == 0 && s.done == len(w.rules[name][s.choice]) {
			return true
		}
	}
	return false
}

func fits(symbol string, x api.Word) bool {
	switch {
	case symbol == "name":
		return x.Kind == api.WordQuoted || x.Kind == api.WordName && !words.Reserved(x.Text)
	case symbol == "any":
		return x.Kind == api.WordQuoted || x.Kind == api.WordName
	case symbol == "number":
		return x.Kind == api.WordNumber
	case symbol == "text":
		return x.Kind == api.WordText
	case symbol[0] == '"':
		return x.Kind == api.WordSign && x.Text == strings.Trim(symbol, `"`)
	}
	return symbol == strings.ToUpper(symbol) && words.Is(x, symbol)
}

// vocabulary is what may be put behind words: each keyword and sign, names and the like.
func vocabulary() []string {
	l := regexp.MustCompile(`\b[A-Z]{2,}\b`).FindAllString(chapter, -1)
	for _, m := range regexp.MustCompile(`"([^"]+)"`).FindAllStringSubmatch(chapter, -1) {
		l = append(l, m[1])
	}
	l = append(l, "a", "`b c`", "`match`", "7", "'t'", "on")
	var once []string
	seen := map[string]bool{}
	for _, s := range l {
		if !seen[s] {
			seen[s] = true
			once = append(once, s)
		}
	}
	return once
}

// asked reads a text as what a name of the language is.
func asked(name, text string) (int, api.Errno) {
	if name == "expr" {
		_, at, e := syntax.ParseExpr(text)
		return at, e
	}
	_, at, e := syntax.Parse(text)
	return at, e
}

// step holds one more word against the language, and tells the walk behind it, if it may stand there.
func step(t *testing.T, name, text string, w walk, word string) (string, walk, bool) {
	t.Helper()
	longer := text + " " + word
	if repeated(text, word) {
		return "", w, false
	}
	l, _, _ := words.Lex(word)
	next, ok := w.on(l[0])
	at, e := asked(name, longer)
	switch {
	case !ok:
		if e != api.ErrSyntax || at != len(text)+1 {
			t.Fatalf("%q: %v at %d, not at %d", longer, e, at, len(text)+1)
		}
		if at2, e2 := asked(name, longer+" # )"); at2 != at || e2 != e {
			t.Fatalf("%q and more: %v at %d", longer, e2, at2)
		}
	case next.ended(name):
		if e != api.OK || at != 0 {
			t.Fatalf("%q: %v at %d", longer, e, at)
		}
	default:
		if e != api.ErrSyntax || at != len(longer) {
			t.Fatalf("%q: %v at %d, not at its end", longer, e, at)
		}
	}
	if at, e := asked(name, longer+" # )"); ok && (e != api.ErrWord || at != len(longer)+1) {
		t.Fatalf("%q and no word: %v at %d", longer, e, at)
	}
	return longer, next, ok
}

// repeated tells whether a word may be a key that stood already, of which the language's rules say nothing.
func repeated(text, word string) bool {
	ahead := strings.Fields(strings.ReplaceAll(text, "`b c`", "`b_c`"))
	if len(ahead) == 0 || ahead[len(ahead)-1] != "," {
		return false
	}
	for _, s := range ahead {
		if strings.Trim(s, "`") == strings.Trim(strings.ReplaceAll(word, " ", "_"), "`") {
			return true
		}
	}
	return false
}

// P4.1: the first word that may not stand there, of all rows of a few words.
func TestEachWordBehindEachOther(t *testing.T) {
	g, all := readGrammar(), vocabulary()
	for name, deep := range map[string]int{"query": 4, "expr": 3} {
		var extend func(text string, w walk, left int)
		extend = func(text string, w walk, left int) {
			for _, word := range all {
				if longer, next, ok := step(t, name, text, w, word); ok && left > 1 {
					extend(longer, next, left-1)
				}
			}
		}
		extend("", g.start(name), deep)
	}
}

// P4.1: so of longer rows, each word of which may stand where it stands.
func TestLongRowsOfWords(t *testing.T) {
	g, all := readGrammar(), vocabulary()
	r := rand.New(rand.NewPCG(4, 1))
	for _, name := range []string{"query", "expr"} {
		for range 25 {
			text, w := "", g.start(name)
			for range 30 {
				type choice struct {
					text string
					walk walk
				}
				var good []choice
				for _, word := range all {
					if longer, next, ok := step(t, name, text, w, word); ok {
						good = append(good, choice{longer, next})
					}
				}
				if len(good) == 0 {
					break
				}
				c := good[r.IntN(len(good))]
				text, w = c.text, c.walk
			}
		}
	}
}
