package sign_test

import (
	"math"
	"strings"
	"testing"
	"unicode/utf8"
	"unsafe"

	"changeling/api"
	"changeling/sign"
)

const (
	smalls = "abcdefghijklmnopqrstuvwxyz"
	bigs   = "ABCDEFGHIJKLMNOPQRSTUVWXYZ"
	digits = "0123456789"
)

// words are those that chapter 1 keeps for the language.
const words = "boolean int void class extends static new this super null true false if else while return print assert throw try catch finally as is"

// TestRuneKinds is promise 1.1: every rune that can be handed in, those that are no rune too.
func TestRuneKinds(t *testing.T) {
	check := func(r rune) {
		small := r < utf8.RuneSelf && strings.ContainsRune(smalls, r)
		big := r < utf8.RuneSelf && strings.ContainsRune(bigs, r)
		digit := r < utf8.RuneSelf && strings.ContainsRune(digits, r)
		if sign.Small(r) != small || sign.Big(r) != big || sign.Digit(r) != digit {
			t.Fatalf("rune %d: %v %v %v", r, sign.Small(r), sign.Big(r), sign.Digit(r))
		}
	}
	for r := rune(-1000); r <= utf8.MaxRune+1000; r++ {
		check(r)
	}
	for _, r := range []rune{math.MinInt32, math.MinInt32 + 'a', math.MaxInt32, 1<<16 + 'a', 1<<24 + 'A', 1<<30 + '0'} {
		check(r)
	}
}

// shapes is the shape of 1.1 told in another way: a letter of first, then letters and digits, 1 to 20 bytes.
func shapes(s, first string) bool {
	if len(s) < 1 || len(s) > 20 || strings.IndexByte(first, s[0]) < 0 {
		return false
	}
	return strings.Trim(s, smalls+bigs+digits) == ""
}

func checkNames(t *testing.T, s string) {
	t.Helper()
	word := strings.Contains(" "+words+" ", " "+s+" ")
	if got, want := sign.Name(s), shapes(s, smalls) && !word; got != want {
		t.Fatalf("Name(%q): %v", s, got)
	}
	if got, want := sign.Class(s), shapes(s, bigs) && s != "String"; got != want {
		t.Fatalf("Class(%q): %v", s, got)
	}
}

// TestShortNames is promise 1.1: all texts of no byte, of one and of two, and each byte at each place of a longer one.
func TestShortNames(t *testing.T) {
	checkNames(t, "")
	for a := range 256 {
		checkNames(t, string([]byte{byte(a)}))
		for b := range 256 {
			checkNames(t, string([]byte{byte(a), byte(b)}))
		}
	}
	for _, s := range []string{"abC", "Abc", "aBcDeFgHiJ0123456789", "ABcDeFgHiJ0123456789"} {
		for i := range len(s) {
			for a := range 256 {
				checkNames(t, s[:i]+string([]byte{byte(a)})+s[i+1:])
			}
		}
	}
}

// TestLongNames is promise 1.1: MaxName bytes at most, counted in bytes.
func TestLongNames(t *testing.T) {
	for _, first := range []string{"a", "z", "A", "Z"} {
		for n := range 3 * api.MaxName {
			for _, rest := range []string{"a", "Z", "9", "\u00e9"} {
				checkNames(t, first+strings.Repeat(rest, n))
			}
		}
	}
	if !sign.Name(strings.Repeat("a", api.MaxName)) || !sign.Class("A"+strings.Repeat("0", api.MaxName-1)) {
		t.Fatal("MaxName bytes are fine")
	}
	if sign.Name(strings.Repeat("a", api.MaxName+1)) || sign.Class("A"+strings.Repeat("0", api.MaxName)) {
		t.Fatal("more than MaxName bytes are too many")
	}
	checkNames(t, strings.Repeat("a", 1<<24))
}

// TestNamesAreNoWords is promise 1.3: a name, a class and a word are never one another, nor is what is near a word told for one.
func TestNamesAreNoWords(t *testing.T) {
	if n := len(strings.Fields(words)); n != 24 {
		t.Fatal(n)
	}
	for _, w := range strings.Fields(words + " String") {
		if w != "String" && sign.Name(w) || sign.Class(w) {
			t.Fatalf("%q is a word", w)
		}
		for _, s := range []string{w + "s", w + "0", "x" + w, w + w, w + "X", "X" + w, strings.ToLower(w), strings.ToUpper(w), strings.ToUpper(w[:1]) + w[1:], w[:len(w)-1], w[1:], w + " ", " " + w, w + "\x00"} {
			checkNames(t, s)
			if sign.Name(s) && sign.Class(s) {
				t.Fatalf("%q is both", s)
			}
		}
	}
	for _, s := range []string{"string", "stringX", "object", "main", "for", "do", "public", "null0"} {
		if !sign.Name(s) || sign.Class(s) {
			t.Fatalf("%q is a name", s)
		}
	}
	for _, s := range []string{"Strings", "Strin", "Exception", "NullFault", "Int", "Class", "Null", "This"} {
		if !sign.Class(s) || sign.Name(s) {
			t.Fatalf("%q is a class", s)
		}
	}
}

// pieces are what texts are put together from: what is escaped, what is near it, runes of one to four bytes, FFFD itself, and pieces of runes.
func pieces() []string {
	return []string{"\"", "\\", "\n", "n", "a", "\x00", "\r", "\u00e9", "\u20ac", "\U0001f600", "\ufffd", "\xff", "\x80", "\xc3", "\xe2\x82", "\xed\xa0\x80"}
}

// eachText goes over all texts of at most n pieces.
func eachText(n int, do func(string)) {
	texts := []string{""}
	for range n + 1 {
		var longer []string
		for _, s := range texts {
			do(s)
			for _, p := range pieces() {
				longer = append(longer, s+p)
			}
		}
		texts = longer
	}
}

// badAt is the first byte that is no UTF-8, by the library's own decoder.
func badAt(s string) int {
	for i := 0; i < len(s); {
		r, n := utf8.DecodeRuneInString(s[i:])
		if r == utf8.RuneError && n == 1 {
			return i
		}
		i += n
	}
	return -1
}

// quoted is Quote told in another way; in a text without invalid bytes only the three are replaced.
func quoted(s string) string {
	q := strings.ReplaceAll(string([]rune(s)), "\\", "\\\\")
	q = strings.ReplaceAll(q, "\"", "\\\"")
	return "\"" + strings.ReplaceAll(q, "\n", "\\n") + "\""
}

// TestTextsThereAndBack is promise 1.2: of all texts of a few pieces, Quote, and Plain of what stands between its quotes.
func TestTextsThereAndBack(t *testing.T) {
	eachText(4, func(s string) {
		if got := sign.Bad(s); got != badAt(s) {
			t.Fatalf("Bad(%q): %d", s, got)
		}
		q := sign.Quote(s)
		if q != quoted(s) {
			t.Fatalf("Quote(%q): %q", s, q)
		}
		if got, is := sign.Plain(q[1 : len(q)-1]); !is || got != string([]rune(s)) {
			t.Fatalf("Plain of what Quote(%q) has: %q %v", s, got, is)
		}
	})
}

// TestPlainIsNoMore is promise 1.2: Plain tells a text just if that one's Quote is it; "" and false of all others.
func TestPlainIsNoMore(t *testing.T) {
	behind := map[string]string{}
	eachText(4, func(s string) {
		if utf8.ValidString(s) {
			behind[quoted(s)] = s
		}
	})
	eachText(4, func(s string) {
		want, found := behind["\""+s+"\""]
		if got, is := sign.Plain(s); is != found || got != want {
			t.Fatalf("Plain(%q): %q %v", s, got, is)
		}
	})
	for r := range rune(0x300) {
		s := "x\\" + string(r)
		got, is := sign.Plain(s)
		want := map[rune]string{'"': "x\"", '\\': "x\\", 'n': "x\n"}[r]
		if is != (want != "") || got != want {
			t.Fatalf("Plain(%q): %q %v", s, got, is)
		}
	}
}

// TestBadBytes is promise 1.2: all texts of two bytes, the edges of what UTF-8 can write, and FFFD, which is fine.
func TestBadBytes(t *testing.T) {
	for a := range 256 {
		for b := range 256 {
			s := string([]byte{byte(a), byte(b)})
			if got := sign.Bad(s); got != badAt(s) {
				t.Fatalf("Bad(%q): %d", s, got)
			}
		}
	}
	for s, want := range map[string]int{
		"":                         -1,
		"\ufffd":                   -1,
		"\ufffd\ufffd":             -1,
		"\ufffd\xff":               3,
		"\xff\ufffd":               0,
		"a\xef\xbf":                1,
		"\xef\xbfa":                0,
		"\xef\xbf\xbe\xef\xbf\xbf": -1,
		"\xc0\x80":                 0,
		"\xed\x9f\xbf\xed\xa0\x80": 3,
		"\xf4\x8f\xbf\xbf":         -1,
		"\xf4\x90\x80\x80":         0,
		"\u00e9\u20ac\x82":         5,
	} {
		if got := sign.Bad(s); got != want {
			t.Fatalf("Bad(%q): %d", s, got)
		}
	}
}

// TestEveryRune is promise 1.2: each rune is itself, but for the three.
func TestEveryRune(t *testing.T) {
	for r := range rune(utf8.MaxRune + 1) {
		if !utf8.ValidRune(r) {
			continue
		}
		s := string(r)
		q := sign.Quote(s)
		if p, is := sign.Plain(q[1 : len(q)-1]); sign.Bad(s) != -1 || q != quoted(s) || !is || p != s {
			t.Fatalf("rune %x: %d %q %q %v", r, sign.Bad(s), q, p, is)
		}
	}
}

// TestLongTexts is promise 1.2 of long texts: none is cut, and the work grows no faster than they do.
func TestLongTexts(t *testing.T) {
	s := strings.Repeat("a\"\\\n\u00e9\ufffd", 1<<18)
	q := sign.Quote(s)
	if q != quoted(s) {
		t.Fatal("Quote of a long text")
	}
	if p, is := sign.Plain(q[1 : len(q)-1]); !is || p != s {
		t.Fatal("Plain of a long text")
	}
	if sign.Bad(s) != -1 || sign.Bad(s+"\x80"+s) != len(s) {
		t.Fatal("Bad of a long text")
	}
}

// TestPlainIsNew is the rule that an answer shares no memory with what is handed in.
func TestPlainIsNew(t *testing.T) {
	for _, s := range []string{"abc", strings.Repeat("long enough ", 100)} {
		p, is := sign.Plain(s)
		if !is || p != s || unsafe.StringData(p) == unsafe.StringData(s) {
			t.Fatalf("Plain(%q) shares with it", s)
		}
	}
}
