package word

import (
	"math"
	"math/big"
	"math/rand"
	"slices"
	"strconv"
	"strings"
	"testing"

	"becket/api"
)

// The least word and the greatest one, and how far the numbers that wrap to one word lie from each other, as the chapter's words tell them.
const (
	least    = -2147483648
	greatest = 2147483647
	round    = 4294967296
)

// words are the ends of the words, some that are near them, near 0, near the ends of smaller types, and in between.
var words = []int{least, least + 1, least + 2, least + 31, -1<<30 - 1, -1 << 30, -1<<30 + 1, -1000000007, -65537, -65536, -46341, -46340, -32768, -256, -255, -128, -33, -32, -31, -8, -7, -3, -2, -1, 0, 1, 2, 3, 7, 8, 31, 32, 33, 127, 128, 255, 256, 32767, 46340, 46341, 65535, 65536, 65537, 1000000007, 1<<30 - 1, 1 << 30, 1<<30 + 1, 0x55555555, greatest - 31, greatest - 2, greatest - 1, greatest}

// noWords are numbers that are no words: just outside of them, such as have a word's bits as their lowest ones, and the ends of the type.
var noWords = []int{math.MinInt, math.MinInt + 1, math.MinInt + 7, -1 << 62, -1 << 40, -2*round - 3, -2 * round, -round - 1, -round, -round + 1, -round + 7, least - 2, least - 1, greatest + 1, greatest + 2, round - 7, round - 1, round, round + 1, round + 7, 2 * round, 1 << 40, 1 << 62, math.MaxInt - 7, math.MaxInt - 1, math.MaxInt}

// noOps are numbers by which nothing is reckoned.
var noOps = []int{math.MinInt, math.MinInt + 1, math.MinInt + 4, -round, -round + 1, -12, -4, -1, 0, 13, 14, 16, 255, 256, 257, 1 << 16, 1<<31 + 1, round, round + 1, round + 4, round + 12, math.MaxInt - 1, math.MaxInt}

// names are what is reckoned, in order from 1 on.
var names = []string{"Add", "Sub", "Mul", "Div", "Rem", "And", "Or", "Xor", "Shl", "Shr", "Lt", "Eq"}

// ops is each of what is reckoned.
func ops() []int {
	var out []int
	for i := range names {
		out = append(out, i+1)
	}
	return out
}

// does fails, unless Do answers so.
func does(t *testing.T, op, a, b, want int, err api.Errno) {
	t.Helper()
	if got, e := Do(op, a, b); got != want || e != err {
		t.Errorf("Do(%d, %d, %d): %d, %d; want %d, %d", op, a, b, got, e, want, err)
	}
}

// done is what Do answers, without an error.
func done(t *testing.T, op, a, b int) int {
	t.Helper()
	got, e := Do(op, a, b)
	if e != api.OK {
		t.Fatalf("Do(%d, %d, %d): %d", op, a, b, e)
	}
	return got
}

// of is what Not or Neg answers, without an error.
func of(t *testing.T, f func(int) (int, api.Errno), a int) int {
	t.Helper()
	got, e := f(a)
	if e != api.OK {
		t.Fatalf("%d: %d", a, e)
	}
	return got
}

// parses fails, unless Parse answers so.
func parses(t *testing.T, s string, want int, err api.Errno) {
	t.Helper()
	if got, e := Parse(s); got != want || e != err {
		t.Errorf("Parse(%.40q of %d): %d, %d; want %d, %d", s, len(s), got, e, want, err)
	}
}

// wrapped is a number wrapped, reckoned with numbers that have no ends.
func wrapped(n *big.Int) int {
	rest := new(big.Int).Mod(n, big.NewInt(round)) // never below 0
	if rest.Cmp(big.NewInt(greatest)) > 0 {
		rest.Sub(rest, big.NewInt(round))
	}
	return int(rest.Int64())
}

// bitwise is the word whose bits are each made of those of two words.
func bitwise(a, b int, f func(x, y int64) bool) int {
	bit := func(n, k int) int64 {
		rest := new(big.Int).Mod(big.NewInt(int64(n)), big.NewInt(round))
		return rest.Div(rest, power(k)).Int64() % 2
	}
	sum := new(big.Int)
	for k := range 32 {
		if f(bit(a, k), bit(b, k)) {
			sum.Add(sum, power(k))
		}
	}
	return wrapped(sum)
}

// power is 2 to the power of k.
func power(k int) *big.Int {
	p := big.NewInt(1)
	for range k {
		p.Add(p, p)
	}
	return p
}

// moved is how far bits are moved by a word.
func moved(b int) *big.Int {
	return power(int(new(big.Int).Mod(big.NewInt(int64(b)), big.NewInt(32)).Int64()))
}

// asked is what the chapter asks of Do of two words, reckoned with numbers that have no ends.
func asked(op, a, b int) (int, api.Errno) {
	x, y, n := big.NewInt(int64(a)), big.NewInt(int64(b)), new(big.Int)
	if y.Sign() == 0 && (names[op-1] == "Div" || names[op-1] == "Rem") {
		return 0, api.ErrZero
	}
	yes := false
	switch names[op-1] {
	case "Add":
		n.Add(x, y)
	case "Sub":
		n.Sub(x, y)
	case "Mul":
		n.Mul(x, y)
	case "Div":
		n.Quo(x, y)
	case "Rem":
		n.Rem(x, y)
	case "And":
		return bitwise(a, b, func(x, y int64) bool { return x+y == 2 }), api.OK
	case "Or":
		return bitwise(a, b, func(x, y int64) bool { return x+y >= 1 }), api.OK
	case "Xor":
		return bitwise(a, b, func(x, y int64) bool { return x+y == 1 }), api.OK
	case "Shl":
		n.Mul(x, moved(b))
	case "Shr":
		n.Div(x, moved(b)) // downwards, below 0 too: the sign comes in
	case "Lt":
		yes = x.Cmp(y) < 0
	case "Eq":
		yes = x.Cmp(y) == 0
	}
	if yes {
		return 1, api.OK
	}
	return wrapped(n), api.OK
}

// chance is a word by chance, of all sizes.
func chance(r *rand.Rand) int { return int(int32(r.Uint32())) >> r.Intn(32) }

// The chapter's example.
func TestExamples(t *testing.T) {
	does(t, Add, api.MaxWord, 1, api.MinWord, api.OK)
	does(t, Div, -7, 2, -3, api.OK)
	does(t, Rem, -7, 2, -1, api.OK)
	does(t, Shr, -8, 1, -4, api.OK)
}

// What is reckoned has the numbers that the chapter tells.
func TestOps(t *testing.T) {
	got := []int{Add, Sub, Mul, Div, Rem, And, Or, Xor, Shl, Shr, Lt, Eq}
	if !slices.Equal(got, ops()) {
		t.Errorf("%v; want 1 to 12", got)
	}
	const small uint8 = Eq // the constants are of no type, as the chapter has them
	if small != 12 {
		t.Error(small)
	}
}

// P8.1: Fine.
func TestFine(t *testing.T) {
	for _, n := range words {
		if !Fine(n) {
			t.Errorf("Fine(%d): false", n)
		}
	}
	for _, n := range noWords {
		if Fine(n) {
			t.Errorf("Fine(%d): true", n)
		}
	}
}

// P8.1: what lies just within the words, and just outside of them.
func TestFineEdges(t *testing.T) {
	for k := -40; k <= 40; k++ {
		if got, want := Fine(least+k), k >= 0; got != want {
			t.Errorf("Fine(%d): %v", least+k, got)
		}
		if got, want := Fine(greatest+k), k <= 0; got != want {
			t.Errorf("Fine(%d): %v", greatest+k, got)
		}
		if !Fine(k) {
			t.Errorf("Fine(%d): false", k)
		}
	}
}

// wraps fails, unless Wrap gives the word that the chapter asks for.
func wraps(t *testing.T, n int) {
	t.Helper()
	got := Wrap(n)
	if want := wrapped(big.NewInt(int64(n))); got != want {
		t.Errorf("Wrap(%d): %d; want %d", n, got, want)
	}
	if !Fine(got) || Wrap(got) != got || (got == n) != Fine(n) {
		t.Errorf("Wrap(%d): %d is a word: %v; wrapped again: %d", n, got, Fine(got), Wrap(got))
	}
}

// P8.1: Wrap of words, of numbers just outside of them, and far off.
func TestWrap(t *testing.T) {
	for _, c := range []struct{ n, want int }{
		{0, 0}, {1, 1}, {-1, -1}, {least, least}, {greatest, greatest},
		{greatest + 1, least}, {greatest + 2, least + 1}, {least - 1, greatest}, {least - 2, greatest - 1},
		{round, 0}, {-round, 0}, {round - 1, -1}, {round + 1, 1}, {-round - 1, -1}, {-round + 1, 1},
		{3 * 2147483648, least}, {3*2147483648 - 1, greatest}, {-3 * 2147483648, least}, {-3*2147483648 - 1, greatest},
		{1 << 40, 0}, {1<<40 + 5, 5}, {-1<<40 + 5, 5}, {1 << 62, 0},
		{math.MaxInt, -1}, {math.MaxInt - 1, -2}, {math.MinInt, 0}, {math.MinInt + 1, 1},
	} {
		if got := Wrap(c.n); got != c.want {
			t.Errorf("Wrap(%d): %d; want %d", c.n, got, c.want)
		}
	}
	for _, n := range slices.Concat(words, noWords) {
		wraps(t, n)
	}
}

// P8.1: Wrap at each multiple of 2 to the power of 31, from one end of int to the other: near 0, near the ends, near each power of two, and in between; with neighbours.
func TestWrapMultiples(t *testing.T) {
	multiples := []int{-1<<32 + 1, -1<<32 + 2, 1<<32 - 3, 1<<32 - 2}
	for k := -300; k <= 300; k++ {
		multiples = append(multiples, k, k*14000001)
	}
	for k := range 32 {
		multiples = append(multiples, 1<<k-1, 1<<k+1, -1<<k-1, -1<<k+1)
	}
	for _, m := range multiples {
		for d := -3; d <= 3; d++ {
			wraps(t, m*2147483648+d)
		}
	}
	for d := range 4 {
		wraps(t, math.MinInt+d)
		wraps(t, math.MaxInt-d)
		wraps(t, math.MinInt+2147483648-d)
		wraps(t, math.MaxInt-2147483648+d)
	}
}

// P8.1: Wrap of numbers by chance, of all sizes.
func TestWrapChance(t *testing.T) {
	r := rand.New(rand.NewSource(81))
	for range 20000 {
		wraps(t, int(r.Uint64())>>r.Intn(64))
	}
}

// P8.2: by a number that is none, nothing is reckoned, whatever else is wrong.
func TestDoArg(t *testing.T) {
	numbers := slices.Concat(words, noWords)
	for _, op := range noOps {
		for _, a := range numbers {
			for _, b := range numbers {
				does(t, op, a, b, 0, api.ErrArg)
			}
		}
	}
	for op := -300; op <= 300; op++ {
		if op < 1 || op > 12 {
			does(t, op, 7, 2, 0, api.ErrArg)
			does(t, op, 7, 0, 0, api.ErrArg)
			does(t, op, greatest+1, 0, 0, api.ErrArg)
		}
	}
}

// P8.2: numbers that are no words, at one place or at both: by 0 too, of Div and of Rem, ErrRange comes first.
func TestDoRange(t *testing.T) {
	for _, op := range ops() {
		for _, no := range noWords {
			for _, n := range words {
				does(t, op, no, n, 0, api.ErrRange)
				does(t, op, n, no, 0, api.ErrRange)
			}
			for _, other := range noWords {
				does(t, op, no, other, 0, api.ErrRange)
			}
		}
	}
}

// P8.2: by 0 there is no quotient, and nothing is left; all else takes a 0 there.
func TestDoZero(t *testing.T) {
	for _, a := range words {
		does(t, Div, a, 0, 0, api.ErrZero)
		does(t, Rem, a, 0, 0, api.ErrZero)
		does(t, Add, a, 0, a, api.OK)
		does(t, Sub, a, 0, a, api.OK)
		does(t, Mul, a, 0, 0, api.OK)
		does(t, And, a, 0, 0, api.OK)
		does(t, Or, a, 0, a, api.OK)
		does(t, Xor, a, 0, a, api.OK)
		does(t, Shl, a, 0, a, api.OK)
		does(t, Shr, a, 0, a, api.OK)
	}
	for _, op := range []int{Div, Rem} { // and a 0 ahead is nothing special
		for _, b := range words {
			if b != 0 {
				does(t, op, 0, b, 0, api.OK)
			}
		}
	}
}

// P8.2: sums, differences and products, within the words, at their ends, and beyond them on either side.
func TestSums(t *testing.T) {
	for _, c := range []struct{ op, a, b, want int }{
		{Add, 2, 3, 5}, {Add, -2, -3, -5}, {Add, 5, -5, 0},
		{Add, greatest - 1, 1, greatest}, {Add, greatest, 1, least}, {Add, greatest, 2, least + 1}, {Add, greatest, greatest, -2},
		{Add, least + 1, -1, least}, {Add, least, -1, greatest}, {Add, least, -2, greatest - 1}, {Add, least, least, 0},
		{Add, least, greatest, -1}, {Add, greatest, least, -1}, {Add, 1 << 30, 1 << 30, least},
		{Sub, 5, 3, 2}, {Sub, 3, 5, -2}, {Sub, -3, -5, 2}, {Sub, 0, 1, -1},
		{Sub, greatest, -1, least}, {Sub, greatest, -2, least + 1}, {Sub, greatest, greatest, 0}, {Sub, greatest, least, -1},
		{Sub, least, 1, greatest}, {Sub, least, 2, greatest - 1}, {Sub, least, least, 0}, {Sub, least, greatest, 1},
		{Sub, 0, least, least}, {Sub, -1, least, greatest}, {Sub, 0, greatest, least + 1}, {Sub, -2, greatest, greatest},
		{Mul, 2, 3, 6}, {Mul, -2, 3, -6}, {Mul, 2, -3, -6}, {Mul, -2, -3, 6},
		{Mul, 46340, 46340, 2147395600}, {Mul, 46341, 46341, -2147479015}, {Mul, -46341, 46341, 2147479015}, {Mul, 65536, 32767, 2147418112},
		{Mul, 65536, 32768, least}, {Mul, -65536, 32768, least}, {Mul, 65536, 65536, 0}, {Mul, 65537, 65537, 131073},
		{Mul, greatest, greatest, 1}, {Mul, least, least, 0}, {Mul, greatest, least, least}, {Mul, least, greatest, least},
		{Mul, least, -1, least}, {Mul, -1, least, least}, {Mul, greatest, -1, least + 1}, {Mul, least, 1, least}, {Mul, least, 2, 0}, {Mul, least, 3, least}, {Mul, greatest, 2, -2},
	} {
		does(t, c.op, c.a, c.b, c.want, api.OK)
	}
}

// P8.2: quotients and what they leave, for all four signs: of numbers that go in, and that do not; at the ends.
func TestQuotients(t *testing.T) {
	for _, c := range []struct{ a, b, div, rem int }{
		{7, 2, 3, 1}, {-7, 2, -3, -1}, {7, -2, -3, 1}, {-7, -2, 3, -1},
		{6, 2, 3, 0}, {-6, 2, -3, 0}, {6, -2, -3, 0}, {-6, -2, 3, 0},
		{1, 2, 0, 1}, {-1, 2, 0, -1}, {1, -2, 0, 1}, {-1, -2, 0, -1},
		{5, 1, 5, 0}, {-5, 1, -5, 0}, {5, -1, -5, 0}, {-5, -1, 5, 0},
		{5, 5, 1, 0}, {-5, 5, -1, 0}, {5, -5, -1, 0}, {-5, -5, 1, 0},
		{99, 10, 9, 9}, {-99, 10, -9, -9}, {99, -10, -9, 9}, {-99, -10, 9, -9},
		{least, -1, least, 0}, {least, 1, least, 0}, {greatest, -1, least + 1, 0}, {greatest, 1, greatest, 0}, {least + 1, -1, greatest, 0},
		{least, 2, -1 << 30, 0}, {least, -2, 1 << 30, 0}, {greatest, 2, 1<<30 - 1, 1}, {greatest, -2, -1<<30 + 1, 1},
		{least, least, 1, 0}, {greatest, greatest, 1, 0}, {least, greatest, -1, -1}, {greatest, least, 0, greatest},
		{5, least, 0, 5}, {-5, least, 0, -5}, {5, greatest, 0, 5}, {-5, greatest, 0, -5}, {least + 1, least, 0, least + 1},
		{least, 3, -715827882, -2}, {least, -3, 715827882, -2}, {greatest, 10, 214748364, 7}, {least, 10, -214748364, -8},
	} {
		does(t, Div, c.a, c.b, c.div, api.OK)
		does(t, Rem, c.a, c.b, c.rem, api.OK)
	}
}

// P8.2: bits of both, of one, of just one: of words below 0 too.
func TestBits(t *testing.T) {
	for _, c := range []struct{ a, b, and, or, xor int }{
		{12, 10, 8, 14, 6}, {5, 5, 5, 5, 0}, {0, 5, 0, 5, 5},
		{-1, 5, 5, -1, -6}, {5, -1, 5, -1, -6}, {-1, -1, -1, -1, 0}, {-1, 0, 0, -1, -1},
		{-8, 7, 0, -1, -1}, {-8, 12, 8, -4, -12}, {-8, -12, -16, -4, 12}, {-2, -3, -4, -1, 3},
		{least, greatest, 0, -1, -1}, {least, least, least, least, 0}, {greatest, greatest, greatest, greatest, 0},
		{least, -1, least, -1, greatest}, {greatest, -1, greatest, -1, least}, {least, 1, 0, least + 1, least + 1},
		{0x55555555, -0x55555556, 0, -1, -1},
	} {
		does(t, And, c.a, c.b, c.and, api.OK)
		does(t, Or, c.a, c.b, c.or, api.OK)
		does(t, Xor, c.a, c.b, c.xor, api.OK)
	}
}

// P8.2: bits moved up and down, by the lowest five bits of what they are moved by: by 0, by 31, by 32 and above, and by words below 0.
func TestMoved(t *testing.T) {
	for _, c := range []struct{ a, b, shl, shr int }{
		{5, 0, 5, 5}, {5, 1, 10, 2}, {5, 2, 20, 1}, {5, 3, 40, 0}, {-8, 1, -16, -4}, {-7, 1, -14, -4}, {-1, 1, -2, -1}, {-1, 31, least, -1},
		{1, 30, 1 << 30, 0}, {1, 31, least, 0}, {2, 31, 0, 0}, {3, 31, least, 0}, {-2, 31, 0, -1}, {3, 30, -1 << 30, 0},
		{least, 0, least, least}, {least, 1, 0, -1 << 30}, {least, 30, 0, -2}, {least, 31, 0, -1},
		{greatest, 0, greatest, greatest}, {greatest, 1, -2, 1<<30 - 1}, {greatest, 30, -1 << 30, 1}, {greatest, 31, least, 0},
		{5, 32, 5, 5}, {5, 33, 10, 2}, {5, 63, least, 0}, {5, 64, 5, 5}, {-8, 32, -8, -8}, {-8, 33, -16, -4}, {-1, 63, least, -1}, {5, 256, 5, 5}, {5, 1<<30 + 1, 10, 2},
		{5, -1, least, 0}, {-5, -1, least, -1}, {5, -31, 10, 2}, {5, -32, 5, 5}, {5, -33, least, 0}, {-8, -31, -16, -4}, {-8, -32, -8, -8},
		{5, least, 5, 5}, {5, least + 1, 10, 2}, {-8, least, -8, -8}, {5, greatest, least, 0}, {-5, greatest, least, -1}, {5, greatest - 30, 10, 2}, {5, greatest - 31, 5, 5},
		{0, 5, 0, 0}, {0, 31, 0, 0}, {0, -1, 0, 0},
	} {
		does(t, Shl, c.a, c.b, c.shl, api.OK)
		does(t, Shr, c.a, c.b, c.shr, api.OK)
	}
	for _, a := range words {
		for b := -70; b <= 70; b++ {
			for _, op := range []int{Shl, Shr} {
				want, _ := asked(op, a, b)
				does(t, op, a, b, want, api.OK)
			}
		}
	}
}

// P8.2: what is less, and what is the same: at the ends, near each other, and of other signs.
func TestHeld(t *testing.T) {
	for _, c := range []struct{ a, b, lt, eq int }{
		{0, 0, 0, 1}, {0, 1, 1, 0}, {1, 0, 0, 0}, {-1, 0, 1, 0}, {0, -1, 0, 0}, {-1, 1, 1, 0}, {1, -1, 0, 0}, {-2, -1, 1, 0}, {-1, -2, 0, 0}, {5, 5, 0, 1}, {-5, -5, 0, 1}, {-5, 5, 1, 0},
		{least, least, 0, 1}, {greatest, greatest, 0, 1}, {least, greatest, 1, 0}, {greatest, least, 0, 0},
		{least, least + 1, 1, 0}, {least + 1, least, 0, 0}, {greatest - 1, greatest, 1, 0}, {greatest, greatest - 1, 0, 0},
		{least, 0, 1, 0}, {0, least, 0, 0}, {greatest, 0, 0, 0}, {0, greatest, 1, 0}, {least, -1, 1, 0}, {least, 1, 1, 0}, {greatest, -1, 0, 0}, {1 << 30, -1 << 30, 0, 0},
	} {
		does(t, Lt, c.a, c.b, c.lt, api.OK)
		does(t, Eq, c.a, c.b, c.eq, api.OK)
	}
	for i, a := range words {
		for k, b := range words { // they rise, so that their places tell which one is less
			lt, eq := 0, 0
			if i < k {
				lt = 1
			}
			if i == k {
				eq = 1
			}
			does(t, Lt, a, b, lt, api.OK)
			does(t, Eq, a, b, eq, api.OK)
		}
	}
}

// P8.2: all that is reckoned, with all pairs, held against numbers that have no ends.
func TestDoPairs(t *testing.T) {
	for _, op := range ops() {
		for _, a := range words {
			for _, b := range words {
				want, err := asked(op, a, b)
				does(t, op, a, b, want, err)
			}
		}
	}
}

// P8.2: all that is reckoned, with words by chance, of all sizes.
func TestDoChance(t *testing.T) {
	r := rand.New(rand.NewSource(82))
	for range 5000 {
		a, b := chance(r), chance(r)
		for _, op := range ops() {
			want, err := asked(op, a, b)
			does(t, op, a, b, want, err)
		}
	}
}

// P8.3: Not and Neg: of the ends, their neighbours, 0 and -1.
func TestNotNeg(t *testing.T) {
	for _, c := range []struct{ a, not, neg int }{
		{0, -1, 0}, {-1, 0, 1}, {1, -2, -1}, {5, -6, -5}, {-5, 4, 5},
		{least, greatest, least}, {least + 1, greatest - 1, greatest}, {greatest, least, least + 1}, {greatest - 1, least + 1, least + 2},
		{1 << 30, -1<<30 - 1, -1 << 30}, {0x55555555, -0x55555556, -0x55555555},
	} {
		if got, e := Not(c.a); got != c.not || e != api.OK {
			t.Errorf("Not(%d): %d, %d; want %d, 0", c.a, got, e, c.not)
		}
		if got, e := Neg(c.a); got != c.neg || e != api.OK {
			t.Errorf("Neg(%d): %d, %d; want %d, 0", c.a, got, e, c.neg)
		}
	}
	for _, a := range words {
		if got, want := of(t, Not, a), bitwise(a, 0, func(x, _ int64) bool { return x == 0 }); got != want {
			t.Errorf("Not(%d): %d; want %d", a, got, want)
		}
		if got, want := of(t, Neg, a), wrapped(big.NewInt(-int64(a))); got != want {
			t.Errorf("Neg(%d): %d; want %d", a, got, want)
		}
	}
}

// P8.3: Not and Neg of numbers that are no words.
func TestNotNegRange(t *testing.T) {
	for _, no := range noWords {
		if got, e := Not(no); got != 0 || e != api.ErrRange {
			t.Errorf("Not(%d): %d, %d; want 0, ErrRange", no, got, e)
		}
		if got, e := Neg(no); got != 0 || e != api.ErrRange {
			t.Errorf("Neg(%d): %d, %d; want 0, ErrRange", no, got, e)
		}
	}
}

// P8.4: Text, and Parse of it.
func TestText(t *testing.T) {
	for _, c := range []struct {
		n    int
		text string
	}{
		{0, "0"}, {1, "1"}, {-1, "-1"}, {9, "9"}, {10, "10"}, {-10, "-10"}, {100, "100"}, {-7, "-7"}, {1000000007, "1000000007"},
		{least, "-2147483648"}, {least + 1, "-2147483647"}, {greatest, "2147483647"}, {greatest - 1, "2147483646"},
	} {
		if s, e := Text(c.n); s != c.text || e != api.OK {
			t.Errorf("Text(%d): %q, %d; want %q, 0", c.n, s, e, c.text)
		}
		parses(t, c.text, c.n, api.OK)
	}
	for _, n := range words {
		if s, e := Text(n); s != big.NewInt(int64(n)).String() || e != api.OK {
			t.Errorf("Text(%d): %q, %d", n, s, e)
		}
	}
}

// P8.4: Text of numbers that are no words: no text beside the error.
func TestTextRange(t *testing.T) {
	for _, no := range noWords {
		if s, e := Text(no); s != "" || e != api.ErrRange {
			t.Errorf("Text(%d): %q, %d; want none, ErrRange", no, s, e)
		}
	}
}

// noTexts are texts that are those of no whole number.
var noTexts = []string{
	"", "-", "+", "--", "-+", "+-", // no digit
	"-0", "+0", "+1", "+2147483647", "--1", "-+1", "+-1", "1-", "1-1", "1+1", "-1-", "---5", // signs that may not stand there
	"00", "01", "007", "-00", "-01", "-007", "000", "0000000000000", "02147483647", "-02147483648", // noughts ahead
	" ", " 1", "1 ", "- 1", "1 2", "\t1", "1\n", "1\r\n", "\v5", "5\f", "\u00a05", "5\u00a0", "\u20095", "5\u2003", "\ufeff5", // blanks
	"a", "x1", "1x", "1a", "0x1", "0X1f", "0b1", "0o7", "1e3", "1E3", "1.0", "1.", ".5", "1,000", "1_000", "0_1", "_1", "1_", "1/2", "1:", "/1", "Inf", "-Inf", "NaN", "nil", // letters and other signs
	"\u22121", "\u20135", "\uff0b1", "\uff11", "\u0661", "\u06f1", "\u09e7", "1\u0662", "-\uff11", "\u00b2", "\u2460", "\U0001d7cf", // signs and digits of other scripts
	"\x00", "1\x00", "\x001", "\xff", "1\xff", "-\x80", "\xef\xbc", "1\xb2", // bytes that are no text
}

// P8.4: texts that are those of no whole number.
func TestParseForm(t *testing.T) {
	for _, s := range noTexts {
		parses(t, s, 0, api.ErrForm)
	}
}

// P8.4: of all bytes, just the ten digits are a number by themselves, and just they, and - ahead, may stand beside one.
func TestParseBytes(t *testing.T) {
	for k := range 256 {
		b := string([]byte{byte(k)})
		if k >= '0' && k <= '9' {
			parses(t, b, k-'0', api.OK)
			parses(t, "4"+b, 40+k-'0', api.OK)
			parses(t, "4"+b+"2", 402+10*(k-'0'), api.OK)
			continue
		}
		parses(t, b, 0, api.ErrForm)
		parses(t, "4"+b, 0, api.ErrForm)
		parses(t, "4"+b+"2", 0, api.ErrForm)
		parses(t, "-4"+b, 0, api.ErrForm)
		if k != '-' {
			parses(t, b+"4", 0, api.ErrForm)
		}
	}
	parses(t, "-4", -4, api.OK)
}

// P8.4: a number that is no word: just above the words, just below them, and such as a word's bits are the lowest ones of.
func TestParseRange(t *testing.T) {
	for _, s := range []string{
		"2147483648", "2147483649", "2147483650", "-2147483649", "-2147483650", "2147483657", "-2147483658",
		"2200000000", "3000000000", "-3000000000", "9999999999", "-9999999999", "10000000000", "-10000000000",
		"4294967295", "4294967296", "4294967297", "-4294967295", "-4294967296", "-4294967297",
		"9223372036854775807", "9223372036854775808", "-9223372036854775808", "-9223372036854775809",
		"18446744073709551615", "18446744073709551616", "18446744073709551621", "-18446744073709551616", "-18446744073709551611",
		"340282366920938463463374607431768211456", "340282366920938463463374607431768211461",
	} {
		parses(t, s, 0, api.ErrRange)
	}
	for _, no := range noWords {
		parses(t, strconv.Itoa(no), 0, api.ErrRange)
	}
	for k := 1; k <= 300; k++ {
		parses(t, strconv.Itoa(greatest+k), 0, api.ErrRange)
		parses(t, strconv.Itoa(least-k), 0, api.ErrRange)
		parses(t, strconv.Itoa(greatest+1-k), greatest+1-k, api.OK)
		parses(t, strconv.Itoa(least-1+k), least-1+k, api.OK)
	}
}

// P8.4: texts of very many digits: what stands at their far end, or ahead, still tells whether it is a number.
func TestParseLong(t *testing.T) {
	for _, many := range []int{11, 19, 20, 21, 64, 65, 308, 309, 500, 999, 100000} {
		for _, digits := range []string{"1" + strings.Repeat("0", many-1), strings.Repeat("9", many), "4" + strings.Repeat("294967296", many/9+2), new(big.Int).Add(power(4*many), big.NewInt(5)).String()} {
			if len(digits) < 11 {
				t.Fatal(digits)
			}
			parses(t, digits, 0, api.ErrRange)
			parses(t, "-"+digits, 0, api.ErrRange)
			for _, s := range []string{digits + "x", digits + " ", digits + "-", digits + ".", digits + "\xff", "0" + digits, "-0" + digits, "+" + digits, " " + digits, "--" + digits, digits[:5] + "_" + digits[5:], digits[:9] + "-" + digits[9:]} {
				parses(t, s, 0, api.ErrForm)
			}
		}
		for _, s := range []string{strings.Repeat("0", many), "-" + strings.Repeat("0", many), strings.Repeat("0", many) + "1", strings.Repeat("-", many), strings.Repeat(" ", many)} {
			parses(t, s, 0, api.ErrForm)
		}
	}
}

// P8.4, P8.5: of all short texts of some signs, just those are taken that Text gives, and just the word is answered of which it gives them.
func TestParseAll(t *testing.T) {
	given := map[string]int{}
	for n := -99999; n <= 99999; n++ {
		s, e := Text(n)
		if _, is := given[s]; is || e != api.OK {
			t.Fatalf("Text(%d): %q, %d", n, s, e)
		}
		given[s] = n
	}
	signs := []string{"0", "1", "2", "9", "-", "+", " ", ".", "a"}
	var all func(s string, left int)
	all = func(s string, left int) {
		if n, is := given[s]; is {
			parses(t, s, n, api.OK)
		} else {
			parses(t, s, 0, api.ErrForm)
		}
		if left > 0 {
			for _, sign := range signs {
				all(s+sign, left-1)
			}
		}
	}
	all("", 5)
}

// P8.5: sums and products hang on no order, of two words and of three.
func TestNoOrder(t *testing.T) {
	for _, op := range []int{Add, Mul} {
		for _, a := range words {
			for _, b := range words {
				ab := done(t, op, a, b)
				if ba := done(t, op, b, a); ba != ab {
					t.Errorf("Do(%d) of %d and %d: %d, and %d", op, a, b, ab, ba)
				}
				for _, c := range words {
					if x, y := done(t, op, ab, c), done(t, op, a, done(t, op, b, c)); x != y {
						t.Errorf("Do(%d) of %d, %d and %d: %d, and %d", op, a, b, c, x, y)
					}
				}
			}
		}
	}
}

// P8.5: many words come to the same sum, and to the same product, in each order.
func TestNoOrderOfMany(t *testing.T) {
	r := rand.New(rand.NewSource(85))
	for _, op := range []int{Add, Mul} {
		for range 200 {
			var l []int
			for range 9 {
				l = append(l, chance(r)|1) // no product comes to 0 by factors of 2 alone
			}
			all := func() int {
				n := l[0]
				for _, x := range l[1:] {
					n = done(t, op, n, x)
				}
				return n
			}
			want := all()
			for range 9 {
				r.Shuffle(len(l), func(i, k int) { l[i], l[k] = l[k], l[i] })
				if got := all(); got != want {
					t.Fatalf("Do(%d) of %v: %d; want %d", op, l, got, want)
				}
			}
		}
	}
}

// P8.5: what is added is taken away again, and the other way round; by Neg too.
func TestAddedTaken(t *testing.T) {
	for _, a := range words {
		for _, b := range words {
			sum, less := done(t, Add, a, b), done(t, Sub, a, b)
			if got := done(t, Sub, sum, b); got != a {
				t.Errorf("%d and %d, less it: %d", a, b, got)
			}
			if got := done(t, Add, less, b); got != a {
				t.Errorf("%d less %d, and it: %d", a, b, got)
			}
			if got := done(t, Add, a, of(t, Neg, b)); got != less {
				t.Errorf("%d and what Neg gives of %d: %d; want %d", a, b, got, less)
			}
		}
	}
}

// P8.5: a quotient and what is left make the number again; what is left is nearer to 0 than what was divided by, and has the number's sign.
func TestQuotientAndLeft(t *testing.T) {
	check := func(a, b int) {
		t.Helper()
		q, left := done(t, Div, a, b), done(t, Rem, a, b)
		if got := done(t, Add, done(t, Mul, q, b), left); got != a {
			t.Errorf("%d by %d: %d, and %d is left: together %d", a, b, q, left, got)
		}
		if max(left, -left) >= max(b, -b) || left < 0 && a >= 0 || left > 0 && a <= 0 {
			t.Errorf("%d by %d: %d is left", a, b, left)
		}
	}
	for _, a := range words {
		for _, b := range words {
			if b != 0 {
				check(a, b)
			}
		}
	}
	r := rand.New(rand.NewSource(86))
	for range 20000 {
		if a, b := chance(r), chance(r); b != 0 {
			check(a, b)
		}
	}
}

// P8.5: what follows of bits: Not and Neg are undone by themselves, Neg is Not and 1 more, and of the bits of both and of just one are those of one made.
func TestBitLaws(t *testing.T) {
	for _, a := range words {
		if got := of(t, Not, of(t, Not, a)); got != a {
			t.Errorf("Not of Not of %d: %d", a, got)
		}
		if got := of(t, Neg, of(t, Neg, a)); got != a {
			t.Errorf("Neg of Neg of %d: %d", a, got)
		}
		if got, want := of(t, Neg, a), done(t, Add, of(t, Not, a), 1); got != want {
			t.Errorf("Neg of %d: %d; want %d", a, got, want)
		}
		for _, b := range words {
			both, one := done(t, And, a, b), done(t, Xor, a, b)
			if got, want := done(t, Add, both, one), done(t, Or, a, b); got != want {
				t.Errorf("bits of %d and of %d: %d and %d; want %d", a, b, both, one, want)
			}
			if got := done(t, Xor, one, b); got != a {
				t.Errorf("bits of just one of %d and %d, held against the second one's: %d", a, b, got)
			}
		}
	}
}

// P8.5: words and their texts are one to one.
func TestOneToOne(t *testing.T) {
	seen := map[string]int{}
	check := func(n int) {
		t.Helper()
		s, e := Text(n)
		if e != api.OK {
			t.Fatalf("Text(%d): %d", n, e)
		}
		if was, is := seen[s]; is && was != n {
			t.Errorf("Text of %d and of %d: %q", was, n, s)
		}
		seen[s] = n
		parses(t, s, n, api.OK)
	}
	for _, n := range words {
		check(n)
	}
	for k := range 3000 {
		check(least + k)
		check(greatest - k)
		check(k - 1500)
	}
	r := rand.New(rand.NewSource(87))
	for range 20000 {
		check(chance(r))
	}
}

// What comes without an error is a word again, so that it may be reckoned with.
func TestComesWord(t *testing.T) {
	for _, op := range ops() {
		for _, a := range words {
			for _, b := range words {
				if n, _ := Do(op, a, b); !Fine(n) {
					t.Errorf("Do(%d, %d, %d): %d", op, a, b, n)
				}
			}
		}
	}
}
