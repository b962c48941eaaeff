package text_test

import (
	"fmt"
	"math"
	"math/rand"
	"strconv"
	"strings"
	"testing"
	"unicode/utf8"
	"unsafe"

	"changeling/api"
	"changeling/text"
)

const (
	least    = math.MinInt32
	greatest = math.MaxInt32
)

func number(n int32) api.Value { return api.Value{Kind: api.VInt, N: n} }

func truth(n int32) api.Value { return api.Value{Kind: api.VBool, N: n} }

func words(s string) api.Value { return api.Value{Kind: api.VText, S: s} }

func object(n int32) api.Value { return api.Value{Kind: api.VRef, N: n} }

// brief is v, in few signs, whatever its text is.
func brief(v api.Value) string { return fmt.Sprintf("%d %d %.40q", v.Kind, v.N, v.S) }

// kinds are all Kinds that are one, and some that are none.
func kinds() []int {
	return []int{api.VInt, api.VBool, api.VText, api.VRef, 0, -1, 5, 6, 255, 256 + api.VInt, 1<<32 + api.VText, -api.VBool, math.MinInt, math.MaxInt}
}

// numbers are those of which a value is asked.
func numbers() []int32 { return []int32{0, 1, -1, 2, 7, 256, 1 << 16, least, least + 1, greatest} }

// broken are texts that hold pieces of runes, beside FFFD, which is a rune.
func broken() []string {
	return []string{"\ufffd", "\xff", "\x80", "\xc3", "\xe2\x82", "\xf0\x9f\x98", "\xed\xa0\x80", "\xc0\x80", "\xf4\x90\x80\x80"}
}

// sorts are short texts: of runes of one to four bytes, of both ends of each length, and broken ones.
func sorts() []string {
	whole := []string{"", "a", "\x00", "\n", "\x7f", "\u0080", "é", "\u07ff", "\u0800", "€", "\uffff", "\U00010000", "😀", "\U0010ffff", "e\u0301", "true", "-7"}
	return append(whole, broken()...)
}

// mixed is a text of n pieces by lot.
func mixed(r *rand.Rand, n int) string {
	var b strings.Builder
	pieces := sorts()
	for range n {
		b.WriteString(pieces[r.Intn(len(pieces))])
	}
	return b.String()
}

// eachText goes over all texts of at most three pieces, and some longer ones.
func eachText(do func(string)) {
	for _, a := range sorts() {
		for _, b := range sorts() {
			for _, c := range sorts() {
				do(a + b + c)
			}
		}
	}
	r := rand.New(rand.NewSource(14))
	for n := range 300 {
		do(mixed(r, n))
	}
}

// runesOf are the runes of s, each as a text, by the library's own decoder.
func runesOf(s string) []string {
	var out []string
	for len(s) > 0 {
		r, n := utf8.DecodeRuneInString(s)
		out = append(out, string(utf8.AppendRune(nil, r)))
		s = s[n:]
	}
	return out
}

// told is Of, told again.
func told(v api.Value) string {
	switch v.Kind {
	case api.VInt:
		return strconv.Itoa(int(v.N))
	case api.VBool:
		return strconv.FormatBool(v.N == 1)
	case api.VText:
		return v.S
	}
	return ""
}

// values are of each Kind, with each number and several texts.
func values() []api.Value {
	var out []api.Value
	for _, kind := range kinds() {
		for _, n := range numbers() {
			for _, s := range []string{"", "a", "b", "\xff", "\ufffd", "1", "true"} {
				out = append(out, api.Value{Kind: kind, N: n, S: s})
			}
		}
	}
	return out
}

// TestOf is 14.1, by hand.
func TestOf(t *testing.T) {
	for _, x := range []struct {
		v    api.Value
		want string
	}{
		{number(0), "0"},
		{number(-7), "-7"},
		{number(1002003004), "1002003004"},
		{number(greatest), "2147483647"},
		{number(least), "-2147483648"},
		{api.Value{Kind: api.VInt, N: 5, S: "six"}, "5"},
		{truth(1), "true"},
		{truth(0), "false"},
		{truth(2), "false"},
		{truth(-1), "false"},
		{truth(least), "false"},
		{truth(greatest), "false"},
		{api.Value{Kind: api.VBool, N: 1, S: "false"}, "true"},
		{words(""), ""},
		{words("a b"), "a b"},
		{words("\"\\\n"), "\"\\\n"},
		{words("é€😀"), "é€😀"},
		{words("\xff\x00\xe2\x82"), "\xff\x00\xe2\x82"},
		{api.Value{Kind: api.VText, N: 1, S: "x"}, "x"},
		{object(0), ""},
		{object(1), ""},
		{api.Value{Kind: api.VRef, N: 3, S: "A"}, ""},
		{api.Value{}, ""},
		{api.Value{N: 1, S: "a"}, ""},
		{api.Value{Kind: 5, N: 1, S: "a"}, ""},
		{api.Value{Kind: -1, N: 1, S: "a"}, ""},
	} {
		if s := text.Of(x.v); s != x.want {
			t.Errorf("%s: %q, not %q", brief(x.v), s, x.want)
		}
	}
}

// TestOfAll is 14.1: of all Kinds, numbers by lot, and texts of all sorts, long ones too, which Of does not cut.
func TestOfAll(t *testing.T) {
	check := func(v api.Value) {
		if s := text.Of(v); s != told(v) {
			t.Fatalf("%s: %.40q", brief(v), s)
		}
	}
	for _, v := range values() {
		check(v)
	}
	eachText(func(s string) { check(words(s)) })
	r := rand.New(rand.NewSource(141))
	for range 20000 {
		n := int32(r.Uint32()) >> r.Intn(32)
		check(number(n))
		check(truth(n))
		check(object(n))
	}
	for _, n := range []int{api.MaxText, api.MaxText + 1, 1 << 20} {
		check(words(strings.Repeat("\xff", n)))
	}
}

// TestJoin is 14.1, by hand.
func TestJoin(t *testing.T) {
	for _, x := range []struct {
		a, b api.Value
		want string
	}{
		{words("a"), words("b"), "ab"},
		{words("b"), words("a"), "ba"},
		{words(""), words(""), ""},
		{words("a"), words(""), "a"},
		{words(""), words("a"), "a"},
		{words("a"), number(1), "a1"},
		{number(1), words("a"), "1a"},
		{number(1), number(2), "12"},
		{number(least), number(greatest), "-21474836482147483647"},
		{number(0), number(0), "00"},
		{truth(1), truth(0), "truefalse"},
		{words("is "), truth(1), "is true"},
		{truth(7), words("!"), "false!"},
		{words("a"), object(0), "a"},
		{words("a"), object(9), "a"},
		{object(9), words("a"), "a"},
		{object(1), object(2), ""},
		{object(1), number(2), "2"},
		{api.Value{}, api.Value{}, ""},
		{api.Value{Kind: 77, N: 1, S: "x"}, words("a"), "a"},
		{words("é"), words("€"), "é€"},
		{words("\xe2"), words("\x82\xac"), "€"},
		{words("\xff"), words("\ufffd"), "\xff\ufffd"},
		{api.Value{Kind: api.VText, N: 5, S: "a"}, api.Value{Kind: api.VInt, N: 6, S: "b"}, "a6"},
	} {
		if v, is := text.Join(x.a, x.b); !is || v != words(x.want) {
			t.Errorf("%s, %s: %s %v, not %q", brief(x.a), brief(x.b), brief(v), is, x.want)
		}
	}
}

func checkJoin(t *testing.T, a, b api.Value) {
	t.Helper()
	want, may := words(told(a)+told(b)), true
	if len(want.S) > 1000 {
		want, may = api.Value{}, false
	}
	if v, is := text.Join(a, b); v != want || is != may {
		t.Fatalf("%s, %s: %s %v", brief(a), brief(b), brief(v), is)
	}
}

// TestJoinAll is 14.1: pairs of all Kinds, and of texts of all sorts.
func TestJoinAll(t *testing.T) {
	l := values()
	r := rand.New(rand.NewSource(142))
	for _, a := range l {
		for range 40 {
			checkJoin(t, a, l[r.Intn(len(l))])
		}
	}
	for _, a := range sorts() {
		for _, b := range sorts() {
			checkJoin(t, words(a), words(b))
		}
	}
}

// TestJoinLimit is 14.1: MaxText bytes (not runes) may be, one more may not, whatever part they stand in.
func TestJoinLimit(t *testing.T) {
	if api.MaxText != 1000 {
		t.Fatal(api.MaxText)
	}
	for sum := 997; sum <= 1003; sum++ {
		for n := range sum + 1 {
			checkJoin(t, words(strings.Repeat("x", n)), words(strings.Repeat("y", sum-n)))
		}
	}
	rest := []api.Value{number(0), number(-1), number(100), number(greatest), number(least), truth(1), truth(0), object(0), object(5), {}, {Kind: 9, N: 5, S: "a"}, words("é"), words("€"), words("😀"), words("\xff\xff")}
	for n := 985; n <= 1003; n++ {
		for _, v := range rest {
			checkJoin(t, words(strings.Repeat("x", n)), v)
			checkJoin(t, v, words(strings.Repeat("x", n)))
		}
	}
	for _, s := range []string{"é", "€", "😀", "\xff"} {
		for n := 200; n <= 1002; n++ {
			checkJoin(t, words(strings.Repeat(s, n)), words(""))
			checkJoin(t, words("a"), words(strings.Repeat(s, n)))
		}
	}
	long := words(strings.Repeat("x", 1<<20))
	checkJoin(t, long, long)
	checkJoin(t, long, object(0))
	checkJoin(t, object(0), long)
}

// TestJoinTwice is 14.1: what was joined is joined on, until it is too long.
func TestJoinTwice(t *testing.T) {
	all := words("")
	for n := 1; n <= api.MaxText; n++ {
		more, is := text.Join(all, words("x"))
		if !is || len(more.S) != n {
			t.Fatal(n, brief(more), is)
		}
		all = more
	}
	if v, is := text.Join(all, number(1)); is || v != (api.Value{}) {
		t.Fatal(brief(v), is)
	}
	if v, is := text.Join(all, object(1)); !is || v != all {
		t.Fatal(brief(v), is)
	}
}

// TestLen is 14.1 and 14.2, by hand.
func TestLen(t *testing.T) {
	for s, want := range map[string]int32{
		"":               0,
		"a":              1,
		"\x00":           1,
		"é":              1,
		"€":              1,
		"😀":              1,
		"e\u0301":        2,
		"aé€😀":           4,
		"\ufffd":         1,
		"\xff":           1,
		"\xff\xff":       2,
		"\xe2\x82":       2,
		"\xe2\x82a":      3,
		"\xf0\x9f\x98":   3,
		"\xed\xa0\x80":   3,
		"\xc3\xc3\xa9":   2,
		"a\xffb\ufffd\n": 5,
	} {
		if n := text.Len(s); n != want {
			t.Errorf("%q: %d, not %d", s, n, want)
		}
	}
}

// TestAt is 14.1 and 14.2, by hand.
func TestAt(t *testing.T) {
	for _, x := range []struct {
		s    string
		k    int32
		want string
		is   bool
	}{
		{"abc", 0, "a", true},
		{"abc", 1, "b", true},
		{"abc", 2, "c", true},
		{"abc", 3, "", false},
		{"abc", -1, "", false},
		{"abc", -3, "", false},
		{"", 0, "", false},
		{"", -1, "", false},
		{"a", least, "", false},
		{"a", greatest, "", false},
		{"éa", 0, "é", true},
		{"éa", 1, "a", true},
		{"éa", 2, "", false},
		{"😀€é", 0, "😀", true},
		{"😀€é", 1, "€", true},
		{"😀€é", 2, "é", true},
		{"😀€é", 3, "", false},
		{"a\x00b", 1, "\x00", true},
		{"\xffa", 0, "\ufffd", true},
		{"\xffa", 1, "a", true},
		{"\ufffda", 0, "\ufffd", true},
		{"\ufffda", 1, "a", true},
		{"\xe2\x82a", 0, "\ufffd", true},
		{"\xe2\x82a", 1, "\ufffd", true},
		{"\xe2\x82a", 2, "a", true},
		{"\xe2\x82a", 3, "", false},
		{"e\u0301", 1, "\u0301", true},
	} {
		if r, is := text.At(x.s, x.k); r != x.want || is != x.is {
			t.Errorf("%q %d: %q %v, not %q %v", x.s, x.k, r, is, x.want, x.is)
		}
	}
}

// TestRunes is 14.1 and 14.2: Len and At, of texts of all sorts, at each number and at those that are none.
func TestRunes(t *testing.T) {
	eachText(func(s string) {
		all := runesOf(s)
		n := int32(len(all))
		if text.Len(s) != n {
			t.Fatalf("%q: %d, not %d", s, text.Len(s), n)
		}
		for k, want := range all {
			if r, is := text.At(s, int32(k)); r != want || !is {
				t.Fatalf("%q %d: %q %v, not %q", s, k, r, is, want)
			}
		}
		for _, k := range []int32{n, n + 1, 2*n + 1, 1<<16 + n, greatest, -1, -2, -n - 1, least, least + n} {
			if r, is := text.At(s, k); r != "" || is {
				t.Fatalf("%q %d: %q %v", s, k, r, is)
			}
		}
	})
}

// TestEveryRune is 14.2: each rune there is counts as one, alone and between others.
func TestEveryRune(t *testing.T) {
	for r := range rune(utf8.MaxRune + 1) {
		if !utf8.ValidRune(r) {
			continue
		}
		s := string(r)
		at, is := text.At(s, 0)
		next, more := text.At("é"+s+"a", 1)
		if text.Len(s) != 1 || !is || at != s || !more || next != s || text.Len("é"+s+"a") != 3 {
			t.Fatalf("%x: %d %q %v %q %v", r, text.Len(s), at, is, next, more)
		}
	}
}

// TestLong is 14.2: a long text has as many runes as it is made of, however many bytes these are.
func TestLong(t *testing.T) {
	const n = 1 << 20
	for _, s := range []string{"a", "é", "€", "😀", "\xff"} {
		long := strings.Repeat(s, n) + "z"
		if text.Len(long) != n+1 {
			t.Fatalf("%q: %d", s, text.Len(long))
		}
		want := runesOf(s)[0]
		for k, want := range map[int32]string{0: want, n - 1: want, n: "z", n + 1: "", 2 * n: "", -1: ""} {
			if r, is := text.At(long, k); r != want || is != (want != "") {
				t.Fatalf("%q %d: %q %v", s, k, r, is)
			}
		}
	}
}

// TestSame is 14.1, by hand.
func TestSame(t *testing.T) {
	for _, x := range []struct {
		a, b api.Value
		want bool
	}{
		{number(1), number(1), true},
		{number(1), number(2), false},
		{number(0), number(least), false},
		{number(least), number(least), true},
		{api.Value{Kind: api.VInt, N: 1, S: "a"}, api.Value{Kind: api.VInt, N: 1, S: "b"}, true},
		{truth(1), truth(1), true},
		{truth(0), truth(1), false},
		{truth(0), truth(2), false},
		{truth(2), truth(1), false},
		{words("a"), words("a"), true},
		{words("a"), words("b"), false},
		{words("a"), words("A"), false},
		{words(""), words(""), true},
		{words(""), words("a"), false},
		{words("ab"), words("a"), false},
		{words("\xff"), words("\ufffd"), false},
		{words("\xff"), words("\xfe"), false},
		{words("é"), words("e\u0301"), false},
		{api.Value{Kind: api.VText, N: 1, S: "a"}, api.Value{Kind: api.VText, N: 2, S: "a"}, true},
		{api.Value{Kind: api.VText, N: 1, S: "a"}, api.Value{Kind: api.VText, N: 1, S: "b"}, false},
		{object(0), object(0), true},
		{object(3), object(3), true},
		{object(0), object(1), false},
		{number(1), truth(1), false},
		{number(1), object(1), false},
		{truth(0), object(0), false},
		{number(1), words("1"), false},
		{truth(1), words("true"), false},
		{words(""), object(0), false},
		{object(0), words(""), false},
		{api.Value{}, number(0), false},
		{api.Value{}, api.Value{}, true},
		{api.Value{Kind: 9, N: 1}, api.Value{Kind: 9, N: 1, S: "a"}, true},
		{api.Value{Kind: 9, N: 1}, api.Value{Kind: 9, N: 2}, false},
		{api.Value{Kind: 9, N: 1}, api.Value{Kind: 8, N: 1}, false},
	} {
		if text.Same(x.a, x.b) != x.want || text.Same(x.b, x.a) != x.want {
			t.Errorf("%s, %s: not %v", brief(x.a), brief(x.b), x.want)
		}
	}
}

// key is what Same asks of a value, written out.
func key(v api.Value) string {
	if v.Kind == api.VText {
		return strconv.Itoa(v.Kind) + " " + strconv.Quote(v.S)
	}
	return strconv.Itoa(v.Kind) + " " + strconv.Itoa(int(v.N))
}

// TestSameAll is 14.1: all pairs of values of all Kinds.
func TestSameAll(t *testing.T) {
	l := values()
	keys := make([]string, len(l))
	for i, v := range l {
		keys[i] = key(v)
	}
	for i, a := range l {
		for j, b := range l {
			if text.Same(a, b) != (keys[i] == keys[j]) {
				t.Fatalf("%s, %s: %v", brief(a), brief(b), text.Same(a, b))
			}
		}
	}
}

// TestSameTexts is 14.1: all pairs of texts of all sorts, which are the same by their bytes.
func TestSameTexts(t *testing.T) {
	for _, a := range sorts() {
		for _, b := range sorts() {
			same := string([]byte(a)) == string([]byte(b))
			if text.Same(words(a+"x"), words(b+"x")) != same || text.Same(words("x"+a), words("x"+b)) != same {
				t.Fatalf("%q %q", a, b)
			}
		}
	}
}

// within tells whether s stands in the memory of whole.
func within(s, whole string) bool {
	if s == "" || whole == "" {
		return false
	}
	from := uintptr(unsafe.Pointer(unsafe.StringData(whole)))
	at := uintptr(unsafe.Pointer(unsafe.StringData(s)))
	return at >= from && at < from+uintptr(len(whole))
}

// TestOwn is the rule that an answer shares no memory with what is handed in.
func TestOwn(t *testing.T) {
	for _, n := range []int{1, 2, 31, 32, 33, 200, api.MaxText} {
		s := strings.Repeat("x", n)
		if within(text.Of(words(s)), s) {
			t.Fatal("Of", n)
		}
		for _, v := range []api.Value{words(""), object(1), {}} {
			front, is := text.Join(words(s), v)
			back, may := text.Join(v, words(s))
			if !is || !may || front.S != s || back.S != s || within(front.S, s) || within(back.S, s) {
				t.Fatal("Join", n)
			}
		}
		for _, s := range []string{s, strings.Repeat("é", n), strings.Repeat("\ufffd", n)} {
			if r, is := text.At(s, int32(n-1)); !is || within(r, s) {
				t.Fatal("At", n)
			}
		}
	}
}
