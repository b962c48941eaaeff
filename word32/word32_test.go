package word32_test

import (
	"math"
	"math/big"
	"math/rand"
	"testing"
	"unsafe"

	"changeling/word32"
)

const (
	least    = math.MinInt32
	greatest = math.MaxInt32
)

// edges are the numbers about which 32 bits go round, or a digit more is needed.
func edges() []int32 {
	out := []int32{0, least, greatest, least + 1, greatest - 1, least / 2, greatest / 2, greatest/2 + 1, 46340, 46341, -46340, -46341, 65535, 65536, 65537, -65535, -65536, -65537}
	for n := int64(1); n <= greatest; n *= 10 {
		for _, d := range []int64{-1, 0, 1} {
			out = append(out, int32(n+d), int32(-n-d))
		}
	}
	for n := int64(1); n <= greatest; n *= 2 {
		out = append(out, int32(n), int32(-n))
	}
	return out
}

// byLot are numbers of all lengths.
func byLot(r *rand.Rand) int32 { return int32(r.Uint32()) >> r.Intn(32) }

// round is n as 32 bits hold it, the highest one as a sign.
func round(n *big.Int) int32 {
	all := new(big.Int).Lsh(big.NewInt(1), 32)
	n = new(big.Int).Mod(n, all)
	if n.Bit(31) == 1 {
		n.Sub(n, all)
	}
	return int32(n.Int64())
}

// told is Do, in numbers of any length.
func told(op string, a, b int32) (int32, bool) {
	x, y, n := big.NewInt(int64(a)), big.NewInt(int64(b)), new(big.Int)
	switch op {
	case "+":
		return round(n.Add(x, y)), true
	case "-":
		return round(n.Sub(x, y)), true
	case "*":
		return round(n.Mul(x, y)), true
	case "/":
		if b != 0 {
			return round(n.Quo(x, y)), true
		}
	case "%":
		if b != 0 {
			return round(n.Rem(x, y)), true
		}
	}
	return 0, false
}

// holds is Less, in numbers of any length.
func holds(op string, a, b int32) (bool, bool) {
	way := big.NewInt(int64(a)).Cmp(big.NewInt(int64(b)))
	switch op {
	case "<":
		return way == -1, true
	case "<=":
		return way != 1, true
	case "==":
		return way == 0, true
	case "!=":
		return way != 0, true
	}
	return false, false
}

func pair(t *testing.T, a, b int32) {
	t.Helper()
	for _, op := range []string{"+", "-", "*", "/", "%", "<", "<=", "==", "!="} {
		n, is := word32.Do(op, a, b)
		if m, of := told(op, a, b); n != m || is != of {
			t.Fatal("Do", a, op, b, "is", n, is, "not", m, of)
		}
		c, is := word32.Less(op, a, b)
		if d, of := holds(op, a, b); c != d || is != of {
			t.Fatal("Less", a, op, b, "is", c, is, "not", d, of)
		}
	}
}

// TestDo is 13.1, by hand.
func TestDo(t *testing.T) {
	for _, x := range []struct {
		a    int32
		op   string
		b    int32
		want int32
		is   bool
	}{
		{3, "+", 4, 7, true},
		{3, "-", 4, -1, true},
		{-3, "*", 4, -12, true},
		{0, "*", least, 0, true},
		{greatest, "+", 1, least, true},
		{greatest, "+", greatest, -2, true},
		{least, "+", least, 0, true},
		{least, "+", -1, greatest, true},
		{least, "-", 1, greatest, true},
		{0, "-", least, least, true},
		{greatest, "-", -1, least, true},
		{65536, "*", 65536, 0, true},
		{46341, "*", 46341, -2147479015, true},
		{greatest, "*", greatest, 1, true},
		{least, "*", -1, least, true},
		{least, "*", least, 0, true},
		{7, "/", 2, 3, true},
		{-7, "/", 2, -3, true},
		{7, "/", -2, -3, true},
		{-7, "/", -2, 3, true},
		{1, "/", greatest, 0, true},
		{-1, "/", greatest, 0, true},
		{7, "%", 2, 1, true},
		{-7, "%", 2, -1, true},
		{7, "%", -2, 1, true},
		{-7, "%", -2, -1, true},
		{-8, "%", 2, 0, true},
		{least, "/", -1, least, true},
		{least, "%", -1, 0, true},
		{least, "/", 1, least, true},
		{least, "%", greatest, -1, true},
		{greatest, "/", least, 0, true},
		{greatest, "%", least, greatest, true},
		{1, "/", 0, 0, false},
		{1, "%", 0, 0, false},
		{0, "/", 0, 0, false},
		{0, "%", 0, 0, false},
		{least, "/", 0, 0, false},
		{least, "%", 0, 0, false},
		{5, "+", 0, 5, true},
		{5, "-", 0, 5, true},
		{5, "*", 0, 0, true},
	} {
		if n, is := word32.Do(x.op, x.a, x.b); n != x.want || is != x.is {
			t.Error(x.a, x.op, x.b, "is", n, is, "not", x.want, x.is)
		}
	}
}

// TestLess is 13.1, by hand.
func TestLess(t *testing.T) {
	for _, x := range []struct {
		a, b                       int32
		less, most, same, otherOne bool
	}{
		{1, 2, true, true, false, true},
		{2, 1, false, false, false, true},
		{2, 2, false, true, true, false},
		{-1, 1, true, true, false, true},
		{1, -1, false, false, false, true},
		{0, 0, false, true, true, false},
		{least, greatest, true, true, false, true},
		{greatest, least, false, false, false, true},
		{least, least, false, true, true, false},
		{greatest, greatest, false, true, true, false},
		{least, 1, true, true, false, true},
		{least, 0, true, true, false, true},
		{greatest, -1, false, false, false, true},
	} {
		for op, want := range map[string]bool{"<": x.less, "<=": x.most, "==": x.same, "!=": x.otherOne} {
			if c, is := word32.Less(op, x.a, x.b); c != want || !is {
				t.Error(x.a, op, x.b, "is", c, is, "not", want)
			}
		}
	}
}

// TestPairs is 13.1, against numbers of any length.
func TestPairs(t *testing.T) {
	l := edges()
	for _, a := range l {
		for _, b := range l {
			pair(t, a, b)
		}
	}
	for a := int32(-70); a <= 70; a++ {
		for b := int32(-70); b <= 70; b++ {
			pair(t, a, b)
		}
	}
	r := rand.New(rand.NewSource(13))
	for range 100000 {
		pair(t, byLot(r), byLot(r))
	}
}

// TestRound is 13.2: what is done in several steps comes to the same, whichever of them went round.
func TestRound(t *testing.T) {
	do := func(op string, a, b int32) int32 {
		n, is := word32.Do(op, a, b)
		if !is {
			t.Fatal(a, op, b)
		}
		return n
	}
	r := rand.New(rand.NewSource(132))
	l := edges()
	for range 100000 {
		a, b, c := byLot(r), l[r.Intn(len(l))], byLot(r)
		if do("-", do("+", a, b), b) != a || do("+", do("+", a, b), c) != do("+", a, do("+", b, c)) {
			t.Fatal(a, b, c)
		}
		if do("*", a, do("+", b, c)) != do("+", do("*", a, b), do("*", a, c)) {
			t.Fatal(a, b, c)
		}
		if do("+", a, word32.Neg(b)) != do("-", a, b) || do("*", a, -1) != word32.Neg(a) {
			t.Fatal(a, b)
		}
		if b != 0 && do("+", do("*", do("/", a, b), b), do("%", a, b)) != a {
			t.Fatal(a, b)
		}
	}
	if word32.Neg(least) != least || word32.Neg(greatest) != least+1 || word32.Neg(0) != 0 || word32.Neg(-7) != 7 {
		t.Fatal("Neg")
	}
}

// TestOps is 13.1: all that is no op, of up to two signs and some longer ones.
func TestOps(t *testing.T) {
	var l []string
	for i := range 256 {
		l = append(l, string([]byte{byte(i)}))
		for j := range 256 {
			l = append(l, string([]byte{byte(i), byte(j)}))
		}
	}
	l = append(l, "", "+ ", " +", "<<=", "===", "<= ", "add", "＋", "÷", "+\x00", "&&", "||", "@", "!")
	for _, op := range l {
		for _, b := range []int32{0, 1, -3} {
			n, is := word32.Do(op, -8, b)
			if m, of := told(op, -8, b); n != m || is != of {
				t.Fatalf("%q %d %v", op, n, is)
			}
			c, is := word32.Less(op, -8, b)
			if d, of := holds(op, -8, b); c != d || is != of {
				t.Fatalf("%q %v %v", op, c, is)
			}
		}
		if c, is := word32.Less(op, 5, 5); is != (op == "<" || op == "<=" || op == "==" || op == "!=") || c != (op == "<=" || op == "==") {
			t.Fatalf("%q %v %v", op, c, is)
		}
	}
}

// TestText is 13.1.
func TestText(t *testing.T) {
	for a, want := range map[int32]string{0: "0", 7: "7", -7: "-7", 10: "10", -10: "-10", 99: "99", 100: "100", 1002003004: "1002003004", 1234567890: "1234567890", -987654321: "-987654321", greatest: "2147483647", least: "-2147483648"} {
		if s := word32.Text(a); s != want {
			t.Error(s, want)
		}
	}
	told := func(a int32) {
		if s := word32.Text(a); s != big.NewInt(int64(a)).String() {
			t.Fatal(a, s)
		}
	}
	for _, a := range edges() {
		told(a)
	}
	for a := int32(-20000); a <= 20000; a++ {
		told(a)
	}
	r := rand.New(rand.NewSource(131))
	for range 100000 {
		told(byLot(r))
	}
}

// TestOwn: two texts of one number share no memory.
func TestOwn(t *testing.T) {
	for _, a := range edges() {
		s, u := word32.Text(a), word32.Text(a)
		if len(s) > 1 && unsafe.StringData(s) == unsafe.StringData(u) {
			t.Fatal(a)
		}
	}
}
