package parse_test

import (
	"math/rand"
	"slices"
	"strings"
	"testing"

	"changeling/api"
	"changeling/parse"
)

// rules is promise 4.1 as a grammar, for programs whose classes are called A and B. NAME, NUMBER and TEXT are words of which any one will do.
const rules = `
PROGRAM : | WHOLE PROGRAM
WHOLE : class A { MEMBERSA } | class A extends CLASS { MEMBERSA } | class B { MEMBERSB } | class B extends CLASS { MEMBERSB }
CLASS : A | B
MEMBERSA : | MEMBER MEMBERSA | A ( PARAMS ) CTORBLOCK MEMBERSA
MEMBERSB : | MEMBER MEMBERSB | B ( PARAMS ) CTORBLOCK MEMBERSB
MEMBER : static DECLARED | DECLARED
DECLARED : TYPE NAME ; | TYPE NAME = EXPR ; | TYPE NAME ( PARAMS ) BLOCK | void NAME ( PARAMS ) BLOCK
TYPE : int | boolean | String | CLASS
PARAMS : | SOMEPARAMS
SOMEPARAMS : TYPE NAME | SOMEPARAMS , TYPE NAME
BLOCK : { STATEMENTS }
STATEMENTS : | STATEMENT STATEMENTS
STATEMENT : TYPE NAME = EXPR ; | if ( EXPR ) BLOCK | if ( EXPR ) BLOCK else BLOCK | while ( EXPR ) BLOCK
STATEMENT : return ; | return EXPR ; | print EXPR ; | assert NUMBER EXPR ; | throw EXPR ;
STATEMENT : try BLOCK catch ( CLASS NAME ) BLOCK | try BLOCK catch ( CLASS NAME ) BLOCK finally BLOCK
EXPR : AHEAD | EXPR BETWEEN AHEAD
BETWEEN : "||" | && | == | != | < | <= | + | - | * | / | % | @
AHEAD : FOLLOWED | - AHEAD | ! AHEAD | # AHEAD
FOLLOWED : ATOM | FOLLOWED . NAME | FOLLOWED . NAME ( ARGS ) | FOLLOWED as CLASS | FOLLOWED is CLASS
ATOM : NUMBER | true | false | TEXT | null | this | NAME | NAME ( ARGS ) | super . NAME | super . NAME ( ARGS )
ATOM : CLASS :: NAME | CLASS :: NAME ( ARGS ) | new CLASS ( ARGS ) | ( EXPR )
ARGS : | SOMEARGS
SOMEARGS : EXPR | SOMEARGS , EXPR
`

// asRead has what is told behind all as if it were right; asLeft has only what is right.
const asRead = rules + `
CTORBLOCK : BLOCK
STATEMENT : super ( ARGS ) ; | EXPR = EXPR ; | EXPR ;
`

const asLeft = rules + `
CTORBLOCK : { STATEMENTS } | { super ( ARGS ) ; STATEMENTS }
STATEMENT : LEFT = EXPR ; | CALL ;
LEFT : NAME | FOLLOWED . NAME | super . NAME | CLASS :: NAME | ( LEFT )
CALL : NAME ( ARGS ) | FOLLOWED . NAME ( ARGS ) | super . NAME ( ARGS ) | CLASS :: NAME ( ARGS ) | new CLASS ( ARGS ) | ( CALL )
`

// grammar is rules by what they are of, and all words in them.
type grammar struct {
	of    map[string][][]string
	empty map[string]bool
	words []string
}

func newGrammar(rules string) *grammar {
	g := &grammar{map[string][][]string{}, map[string]bool{}, nil}
	for _, line := range strings.Split(strings.TrimSpace(rules), "\n") {
		left, right, _ := strings.Cut(line, " : ")
		for _, way := range strings.Split(" "+right+" ", " | ") {
			l := strings.Fields(strings.ReplaceAll(way, `"`, ""))
			g.of[left] = append(g.of[left], l)
			g.empty[left] = g.empty[left] || len(l) == 0 // here none is empty by others that are
		}
	}
	for _, ways := range g.of {
		for _, w := range slices.Concat(ways...) {
			if g.of[w] == nil && !slices.Contains(g.words, w) {
				g.words = append(g.words, w)
			}
		}
	}
	slices.Sort(g.words)
	return g
}

// item is a rule of which some is there, from a place on: Earley's.
type item struct {
	left      string
	way, done int
	from      int
}

func (g *grammar) next(i item) string {
	if l := g.of[i.left][i.way]; i.done < len(l) {
		return l[i.done]
	}
	return ""
}

// chart is a set of items for each place between words that can stand there.
type chart [][]item

// closed is c with a set more: l, and all that comes of it.
func (g *grammar) closed(c chart, l []item) chart {
	at := len(c)
	seen := map[item]bool{}
	var set []item
	add := func(i item) {
		if !seen[i] {
			seen[i] = true
			set = append(set, i)
		}
	}
	for _, i := range l {
		add(i)
	}
	for n := 0; n < len(set); n++ {
		i := set[n]
		next := g.next(i)
		if next == "" {
			if i.from < at {
				for _, up := range c[i.from] {
					if g.next(up) == i.left {
						up.done++
						add(up)
					}
				}
			}
			continue
		}
		for way := range g.of[next] {
			add(item{next, way, 0, at})
		}
		if g.empty[next] {
			i.done++
			add(i)
		}
	}
	return append(c[:at:at], set)
}

func (g *grammar) start() chart {
	var l []item
	for way := range g.of["PROGRAM"] {
		l = append(l, item{"PROGRAM", way, 0, 0})
	}
	return g.closed(nil, l)
}

// with is c with one word more; false, if it can't stand there.
func (g *grammar) with(c chart, w string) (chart, bool) {
	var l []item
	for _, i := range c[len(c)-1] {
		if g.next(i) == w {
			i.done++
			l = append(l, i)
		}
	}
	if len(l) == 0 {
		return c, false
	}
	return g.closed(c, l), true
}

// whole tells whether nothing is missing.
func (g *grammar) whole(c chart) bool {
	return slices.ContainsFunc(c[len(c)-1], func(i item) bool { return i.left == "PROGRAM" && i.from == 0 && g.next(i) == "" })
}

// takes is how many words of l can stand behind one another, and whether they are a program.
func (g *grammar) takes(l []string) (int, bool) {
	c, is := g.start(), true
	for n, w := range l {
		if c, is = g.with(c, w); !is {
			return n, false
		}
	}
	return len(l), g.whole(c)
}

// spelt is a word of that sort. A text is that, whatever it says.
func spelt(w string, r *rand.Rand) string {
	pick := func(l ...string) string { return l[r.Intn(len(l))] }
	switch w {
	case "NAME":
		return pick("a", "b", "x1", "classA", "superb", "aBCDEFGHIJKLMNOPQRST")
	case "NUMBER":
		return pick("0", "7", "0042", "9999")
	case "TEXT":
		return pick(`"t"`, `""`, `"("`, `")"`, `"{"`, `"}"`, `";"`, `"="`, `"+"`, `"-"`, `"a"`, `"A"`, `"7"`, `"int"`, `"super"`, `"class"`, `"is"`, `"."`, `","`)
	}
	return w
}

// judge is what the grammars say of words, each of a sort, and texts of them.
type judge struct {
	read, left *grammar
	rand       *rand.Rand
}

func newJudge() *judge {
	return &judge{newGrammar(asRead), newGrammar(asLeft), rand.New(rand.NewSource(4))}
}

// text is the words with blanks between, and where each begins, the end as well.
func (j *judge) text(l []string) (string, []int) {
	var b strings.Builder
	var places []int
	for i, w := range l {
		if i > 0 {
			b.WriteByte(' ')
		}
		places = append(places, b.Len())
		b.WriteString(spelt(w, j.rand))
	}
	return b.String(), append(places, b.Len())
}

// refused holds Program against the answer that the n-th word can't stand there, whatever is behind it.
func (j *judge) refused(t *testing.T, l []string, n int) {
	t.Helper()
	s, places := j.text(l)
	if p, code, at := parse.Program(s); code != api.ErrParse || at != places[n] || len(p.Classes) != 0 {
		t.Fatalf("%s: %d at %d, not at %d", s, code, at, places[n])
	}
}

// done holds Program against what the stricter grammar says of words that the other one takes.
func (j *judge) done(t *testing.T, l []string) {
	t.Helper()
	s, places := j.text(l)
	p, code, at := parse.Program(s)
	if _, right := j.left.takes(l); right {
		if code != 0 || at != 0 || len(p.Classes) != strings.Count(" "+strings.Join(l, " "), " class ") {
			t.Fatalf("%s: %d at %d", s, code, at)
		}
		return
	}
	n := slices.Index(places, at)
	if code != api.ErrParse || n < 1 || !strings.Contains("{};", l[n-1]) || len(p.Classes) != 0 {
		t.Fatalf("%s: %d at %d", s, code, at)
	}
}

// check holds Program against the grammars.
func (j *judge) check(t *testing.T, l []string) {
	t.Helper()
	if n, whole := j.read.takes(l); whole {
		j.done(t, l)
	} else {
		j.refused(t, l, n)
	}
}

// each tries all words behind l, whose chart is c, and that many words behind those that can stand there.
func (j *judge) each(t *testing.T, c chart, l []string, more int) {
	l = l[:len(l):len(l)]
	if j.read.whole(c) {
		j.done(t, l)
	} else {
		j.refused(t, l, len(l))
	}
	for _, w := range j.read.words {
		next, stands := j.read.with(c, w)
		if !stands {
			j.refused(t, append(l, w), len(l))
			j.refused(t, append(l, w, ";", "}"), len(l))
		} else if more > 0 {
			j.each(t, next, append(l, w), more-1)
		}
	}
}

// TestFirstWord is promise 4.1: the first word that can't stand there is told, or the end; a word for each beginning of so many words.
func TestFirstWord(t *testing.T) {
	j := newJudge()
	for _, c := range []struct {
		ahead string
		more  int
	}{
		{"", 5}, {"class A extends B {", 3}, {"class A { int NAME", 2}, {"class A { A (", 3}, {"class A { static TYPE NAME = (", 1},
		{"class A { void NAME ( )", 3}, {"class A { A ( ) {", 2}, {"class A { } class B { B ( ) { super (", 2},
		{"class B { void NAME ( ) { NAME", 2}, {"class B { void NAME ( ) { NAME . NAME ( NAME", 2}, {"class B { void NAME ( ) { A", 2}, {"class B { void NAME ( ) { super", 3},
		{"class B { void NAME ( ) { if ( NAME )", 3}, {"class B { void NAME ( ) { if ( NAME ) { } else", 3}, {"class B { void NAME ( ) { assert", 2}, {"class B { void NAME ( ) { new", 3},
		{"class B { void NAME ( ) { try { }", 5}, {"class B { void NAME ( ) { try { } catch ( A NAME ) {", 2}, {"class B { void NAME ( ) { while ( NAME", 2}, {"class B { void NAME ( ) { return", 2},
	} {
		l := strings.Fields(strings.ReplaceAll(c.ahead, "TYPE", "String"))
		n, _ := j.read.takes(l)
		if n != len(l) {
			t.Fatal(c.ahead)
		}
		chart := j.read.start()
		for _, w := range l {
			chart, _ = j.read.with(chart, w)
		}
		j.each(t, chart, l, c.more)
	}
}

// TestAnyWords is promise 4.1 far into a text: ways of going on that are chosen by lot, and all words behind each of them.
func TestAnyWords(t *testing.T) {
	j := newJudge()
	for range 60 {
		c := j.read.start()
		var l []string
		for range 40 {
			j.each(t, c, l, 0)
			var can []string
			for _, w := range j.read.words {
				if _, stands := j.read.with(c, w); stands {
					can = append(can, w)
				}
			}
			w := can[j.rand.Intn(len(can))]
			c, _ = j.read.with(c, w)
			l = append(l, w)
		}
	}
}

// TestChangedWords is promises 4.1 and 4.3: whole programs with a word taken out, put in or changed about.
func TestChangedWords(t *testing.T) {
	j := newJudge()
	programs := []string{
		"class A extends B { static int NAME = NUMBER ; A ( A NAME , int NAME ) { super ( NAME , NUMBER ) ; NAME = NAME + NUMBER ; } } class B { A NAME ; boolean NAME ( ) { return NAME == null && ! NAME . NAME ; } }",
		"class B { void NAME ( ) { if ( NAME < NUMBER ) { print TEXT ; } else { NAME ( ) ; } while ( true ) { A NAME = new A ( this , - NUMBER ) ; ( NAME as B ) . NAME = A :: NAME ; } } }",
		"class A { static void NAME ( String NAME ) { try { throw NAME ; } catch ( B NAME ) { super . NAME = # NAME @ TEXT ; } finally { assert NUMBER NAME is A || false ; } super . NAME ( ) ; return ; } }",
		"class A { } class B { A NAME ( ) { B :: NAME ( NAME , ( NAME ) ) ; NAME . NAME ( ) . NAME ( NUMBER ) ; new B ( ) ; } B ( ) { } int NAME ; }",
	}
	for _, s := range programs {
		l := strings.Fields(s)
		if _, right := j.left.takes(l); !right {
			t.Fatal(s)
		}
		j.check(t, l)
		for i := range l {
			j.check(t, l[:i])
			j.check(t, slices.Delete(slices.Clone(l), i, i+1))
			j.check(t, slices.Insert(slices.Clone(l), i, l[i]))
			for range 4 {
				w, k := j.read.words[j.rand.Intn(len(j.read.words))], j.rand.Intn(len(l))
				j.check(t, slices.Insert(slices.Clone(l), i, w))
				other := slices.Clone(l)
				other[i] = w
				j.check(t, other)
				other[i], other[k] = l[k], l[i]
				j.check(t, other)
			}
		}
	}
}
