package word_test

import (
	"regexp"
	"slices"
	"strings"
	"testing"
	"unicode/utf8"
	"unsafe"

	"changeling/api"
	"changeling/word"
)

// marks are the signs of chapter 2, in its order.
const marks = ":: <= == != && || { } ( ) ; , . = < + - * / % ! # @"

// told is All told in another way: by regular expressions, with the longest signs first.
type told struct {
	gap, letters, digits, text, plain, mark *regexp.Regexp
	unquote                                 *strings.Replacer
}

func newTold() told {
	var signs []string
	for _, m := range strings.Fields(marks) {
		signs = append(signs, regexp.QuoteMeta(m))
	}
	return told{
		gap:     regexp.MustCompile(`^(?:[ \t\r\n]|//[^\n]*)*`),
		letters: regexp.MustCompile(`^[a-zA-Z][a-zA-Z0-9]*`),
		digits:  regexp.MustCompile(`^[0-9]+`),
		text:    regexp.MustCompile(`^"(?:[^"\\\n]|\\[^\n])*"`),
		plain:   regexp.MustCompile(`^"(?:[^"\\\n]|\\["\\n])*"$`),
		mark:    regexp.MustCompile(`^(?:` + strings.Join(signs, "|") + `)`),
		unquote: strings.NewReplacer(`\\`, `\`, `\"`, `"`, `\n`, "\n"),
	}
}

// one is the word with which s begins, and how long it is there; 0, if there is none.
func (o told) one(s string) (word.Word, int) {
	if m := o.letters.FindString(s); m != "" {
		return word.Word{Kind: 1, Text: m}, len(m)
	}
	if m := o.digits.FindString(s); m != "" {
		return word.Word{Kind: 2, Text: m}, len(m)
	}
	if m := o.text.FindString(s); m != "" {
		if !utf8.ValidString(m) || !o.plain.MatchString(m) {
			return word.Word{}, 0
		}
		return word.Word{Kind: 3, Text: o.unquote.Replace(m[1 : len(m)-1])}, len(m)
	}
	m := o.mark.FindString(s)
	return word.Word{Kind: 4, Text: m}, len(m)
}

// all goes on until something is wrong: the first place that has no word, or a byte in a gap that is no UTF-8.
func (o told) all(s string) ([]word.Word, int, int) {
	if len(s) > 8000 {
		return nil, api.ErrLimit, 0
	}
	var l []word.Word
	for at := 0; ; {
		gap := o.gap.FindString(s[at:])
		if bad := badAt(gap); bad >= 0 {
			return nil, api.ErrSign, at + bad
		}
		at += len(gap)
		if at == len(s) {
			return l, 0, 0
		}
		w, n := o.one(s[at:])
		if n == 0 {
			return nil, api.ErrSign, at
		}
		w.At = at
		l = append(l, w)
		at += n
	}
}

// badAt is the first byte that is no UTF-8, by the library's own decoder.
func badAt(s string) int {
	for i := 0; i < len(s); {
		r, n := utf8.DecodeRuneInString(s[i:])
		if r == utf8.RuneError && n == 1 {
			return i
		}
		i += n
	}
	return -1
}

func (o told) check(t *testing.T, s string) {
	t.Helper()
	want, wantCode, wantAt := o.all(s)
	l, code, at := word.All(s)
	if code != wantCode || at != wantAt || !slices.Equal(l, want) {
		t.Fatalf("All(%.60q): %v %d %d, not %v %d %d", s, l, code, at, want, wantCode, wantAt)
	}
}

// eachText goes over all texts of at most n pieces.
func eachText(n int, pieces []string, do func(string)) {
	texts := []string{""}
	for range n + 1 {
		var longer []string
		for _, s := range texts {
			do(s)
			for _, p := range pieces {
				longer = append(longer, s+p)
			}
		}
		texts = longer
	}
}

// somePieces are of each kind of word, near each sign, of each gap, and runes of each length.
func somePieces() []string {
	return []string{"a", "n", "Z", "0", "9", "\"", "\\", " ", "\t", "\n", "\r", "/", ":", "<", "=", "!", "&", "|", ">", ".", "{", "_", "\x00", "\u00e9", "\ufffd", "\xff", "\xe2\x82"}
}

// TestAllShortTexts is promise 2.1: each kind of word beside each, and each gap and fault between.
func TestAllShortTexts(t *testing.T) {
	o := newTold()
	eachText(3, somePieces(), func(s string) { o.check(t, s) })
}

// TestTextsAndComments is promise 2.1: where texts and comments begin and end, in one another too.
func TestTextsAndComments(t *testing.T) {
	o := newTold()
	eachText(6, []string{"\"", "\\", "n", "/", "\n", "\xff"}, func(s string) { o.check(t, s) })
	eachText(4, []string{"\"", "\\", "n", "/", "\n", "\r", "\t", " ", "\u00e9", "\ufffd", "\xc3"}, func(s string) { o.check(t, s) })
}

// TestEveryByte is promise 2.1: each byte, and each two, alone and at the edges of a word, a text and a comment.
func TestEveryByte(t *testing.T) {
	o := newTold()
	for a := range 256 {
		for b := range 256 {
			s := string([]byte{byte(a), byte(b)})
			for _, x := range []string{s, s[:1], "x" + s + "y", "1" + s + "2", "\"" + s + "\"", "//" + s} {
				o.check(t, x)
			}
		}
	}
}

// TestEveryRune is promise 2.1: no other rune is a letter, a digit, a blank or a sign; all but three stand in a text as themselves; all stand in a comment.
func TestEveryRune(t *testing.T) {
	for r := range rune(utf8.MaxRune + 1) {
		if !utf8.ValidRune(r) || r < utf8.RuneSelf {
			continue
		}
		s := string(r)
		if l, code, at := word.All("a" + s); len(l) != 0 || code != api.ErrSign || at != 1 {
			t.Fatalf("rune %x behind a letter: %v %d %d", r, l, code, at)
		}
		l, code, _ := word.All("\"" + s + "\"//" + s)
		if code != 0 || !slices.Equal(l, []word.Word{{Kind: 3, Text: s}}) {
			t.Fatalf("rune %x in a text: %v %d", r, l, code)
		}
	}
}

// spelt are the words of s by their texts, with a blank between each two.
func spelt(t *testing.T, s string) string {
	t.Helper()
	l, code, at := word.All(s)
	if code != 0 || at != 0 {
		t.Fatalf("All(%q): %d %d", s, code, at)
	}
	var texts []string
	for _, w := range l {
		texts = append(texts, w.Text)
	}
	return strings.Join(texts, " ")
}

// TestLongest is promise 2.1: words are as long as may be, signs too.
func TestLongest(t *testing.T) {
	for s, want := range map[string]string{
		marks:                 marks,
		"a<=b":                "a <= b",
		"a<b":                 "a < b",
		"<==":                 "<= =",
		"===":                 "== =",
		"====":                "== ==",
		"!==":                 "!= =",
		"!!=":                 "! !=",
		"::<":                 ":: <",
		"&&&&":                "&& &&",
		"||!x":                "|| ! x",
		"a / / b":             "a / / b",
		"a1b2 1a2b 007 0":     "a1b2 1 a2b 007 0",
		"aB.cD":               "aB . cD",
		"class while String":  "class while String",
		"1.5":                 "1 . 5",
		"-1":                  "- 1",
		"\"a\"\"b\"":          "a b",
		"a\"b\"1":             "a b 1",
		"\"\\\\\"\"\\\"\"":    "\\ \"",
		"\"//\"//\"":          "//",
		"a//b\nc///\"\n//\nd": "a c d",
		"a//b\rc":             "a",
		"/\t/\r=\n=":          "/ / = =",
		"new A(1,\"x y\").f;": "new A ( 1 , x y ) . f ;",
		"\u0020\t\n\r":        "",
		"//":                  "",
		"\"\t\r\u00e9\"":      "\t\r\u00e9",
		"\"\\n\\\\n\"":        "\n\\n",
	} {
		if got := spelt(t, s); got != want {
			t.Fatalf("All(%q): %q", s, got)
		}
	}
}

// TestFaults is promises 2.1 and 2.2: each fault is told at its place, the one that is ahead.
func TestFaults(t *testing.T) {
	for s, want := range map[string]int{
		"?":                0,
		"a ?":              2,
		"a>b":              1,
		"a >= b":           2,
		"a:b":              1,
		":::":              2,
		"&&&":              2,
		"a&b":              1,
		"|":                0,
		"a_b":              1,
		"'a'":              0,
		"\x00":             0,
		"\v":               0,
		"\u00a0":           0,
		"\ufeffa":          0,
		"a\ufffd":          1,
		"\xff":             0,
		"a\xff?":           1,
		"a ? \xff":         2,
		"//\xff":           2,
		"//\n//\u00e9\xc3": 7,
		"//\xff\n?":        2,
		"? //\xff":         0,
		"\"":               0,
		"a \"":             2,
		"a \"b\\":          2,
		"a \"b\\\"":        2,
		"a \"b\n\"":        2,
		"a \"b\\\n\"":      2,
		"\"a\" \"b":        4,
		"\"a\"\"":          3,
		"x\"\\q\"":         1,
		"x\"\\t\"":         1,
		"x\"\\\u00e9\"":    1,
		"x\"\xff\"":        1,
		"x\"\\\xff\"":      1,
		"x\"\xff":          1,
		"x\"\xff\n":        1,
		"\"\\q\" \xff":     0,
		"\"ok\" \xff \"":   5,
		"//\"\n \" ":       5,
	} {
		l, code, at := word.All(s)
		if len(l) != 0 || code != api.ErrSign || at != want {
			t.Fatalf("All(%q): %v %d %d", s, l, code, at)
		}
	}
}

// TestErrorsHaveAPlace is promise 2.2: what is ahead of the place is fine, and with the byte there it is no more.
func TestErrorsHaveAPlace(t *testing.T) {
	eachText(3, somePieces(), func(s string) {
		l, code, at := word.All(s)
		if code == 0 {
			if at != 0 {
				t.Fatalf("All(%q): a place %d of no error", s, at)
			}
			return
		}
		if len(l) != 0 || code != api.ErrSign || at < 0 || at >= len(s) {
			t.Fatalf("All(%q): %v %d %d", s, l, code, at)
		}
		if _, ahead, _ := word.All(s[:at]); ahead != 0 {
			t.Fatalf("All(%q): an error ahead of %d", s, at)
		}
		if _, with, there := word.All(s[:at+1]); with != api.ErrSign || there != at {
			t.Fatalf("All(%q): no error at %d", s, at)
		}
	})
}

// TestMaxSource is promise 2.1: MaxSource bytes are fine, of one word or of as many; one more is ErrLimit at 0, ahead of all other errors.
func TestMaxSource(t *testing.T) {
	o := newTold()
	for _, s := range []string{"a", "Z", "0", " ", "\n", "(", "<=", "//", "\"\"", "\"\\\"\"", "a ", "\u00e9", "\xff", "?", "\"", "/\n"} {
		long := strings.Repeat(s, 2*api.MaxSource)
		for _, n := range []int{api.MaxSource - 1, api.MaxSource, api.MaxSource + 1, len(long)} {
			o.check(t, long[:n])
			o.check(t, "\""+long[:n-2]+"\"")
			o.check(t, "//"+long[:n-2])
		}
	}
	if l, code, _ := word.All(strings.Repeat("a", 8000)); code != 0 || len(l) != 1 || len(l[0].Text) != 8000 {
		t.Fatal("a word may be as long as the source")
	}
	if l, code, _ := word.All(strings.Repeat("(", 8000)); code != 0 || len(l) != 8000 || l[7999].At != 7999 {
		t.Fatal("there may be as many words as bytes")
	}
	if l, code, at := word.All("\xff?" + strings.Repeat(" ", 7999)); len(l) != 0 || code != api.ErrLimit || at != 0 {
		t.Fatal("the limit is told ahead of other errors")
	}
	if _, code, _ := word.All(strings.Repeat("a", 1<<24)); code != api.ErrLimit {
		t.Fatal("far too long")
	}
}

// TestWordsAreNew is the rule that an answer is the caller's own: it shares nothing with what is handed in, nor with another answer.
func TestWordsAreNew(t *testing.T) {
	s := "while(12<=x)\"text\""
	l, _, _ := word.All(s)
	again, _, _ := word.All(s)
	from := uintptr(unsafe.Pointer(unsafe.StringData(s)))
	for i, w := range l {
		if p := uintptr(unsafe.Pointer(unsafe.StringData(w.Text))); p >= from && p < from+uintptr(len(s)) {
			t.Fatalf("word %d shares with the source", i)
		}
		l[i] = word.Word{}
	}
	if third, _, _ := word.All(s); !slices.Equal(again, third) || len(third) != 7 {
		t.Fatal("an answer has changed with another", again, third)
	}
}
