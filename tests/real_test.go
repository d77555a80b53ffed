package tests

import (
	"math"
	"math/big"
	"regexp"
	"slices"
	"strconv"
	"strings"
	"testing"

	"loop.example/stilscan/impl"
)

// cmpSign is a row of the document's table of tests, with what the test says of a side that is less, the same and more.
type cmpSign struct {
	op, constant     int
	text             string
	flip, swap       int
	less, same, more bool
}

var cmpSigns = []cmpSign{
	{1, impl.CmpLess, "<", 5, 6, true, false, false},
	{2, impl.CmpMost, "<=", 6, 5, true, true, false},
	{3, impl.CmpSame, "=", 4, 3, false, true, false},
	{4, impl.CmpOther, "<>", 3, 4, true, false, true},
	{5, impl.CmpLeast, ">=", 1, 2, false, true, true},
	{6, impl.CmpMore, ">", 2, 1, false, false, true},
}

var (
	noTests      = []int{0, 7, 8, -1, -6, 11, 256 + 1, 1<<32 + 1, math.MinInt, math.MaxInt}
	noReckonings = []int{0, 6, 7, -1, -5, 11, 256 + 1, 1<<32 + 1, math.MinInt, math.MaxInt}
)

var (
	nan      = math.NaN()
	inf      = math.Inf(1)
	minus0   = math.Copysign(0, -1)
	smallest = math.SmallestNonzeroFloat64
	greatest = math.MaxFloat64
	normal   = 0x1p-1022
)

// says is the row's answer for an order of the two sides: below 0, 0 or above 0.
func (c cmpSign) says(order int) bool {
	switch {
	case order < 0:
		return c.less
	case order == 0:
		return c.same
	}
	return c.more
}

// edgeWholes are whole numbers at the bounds, round 0, and round each power of 2.
func edgeWholes() []int16 {
	list := []int16{-32768, -32767, -32766, 32767, 32766, 32765, 300, -300, 181, 182, -181, -182, 12345, -23456}
	for n := int16(-12); n <= 12; n++ {
		list = append(list, n)
	}
	for p := int16(16); p > 0; p *= 2 {
		list = append(list, p-1, p, p+1, -p-1, -p, -p+1)
	}
	return list
}

// edgeReals are the real numbers that the document names, and those next to them, of both signs.
func edgeReals() []float64 {
	var list []float64
	for _, x := range []float64{
		0, 1, 2, 3, 5, 10, 0.5, 2.5, 0.1, 0.2, 0.3, 1.0 / 3, math.Pi, 1e-5, 1e15, 1e16, 1e100, 1e-100, 1e-300, 1e300,
		32766.5, 32767, 32767.5, 32768, 32768.75, 32769, 65535, 65536, 65537, 1 << 31, 1 << 32, 1 << 63, 1 << 64,
		1<<53 - 1, 1 << 53, 1<<53 + 2, 1 << 52, 1<<52 + 0.5, 0.99999, 1 - 0x1p-53, 1 + 0x1p-52,
		smallest, 2 * smallest, 3 * smallest, normal, math.Nextafter(normal, 0), normal + smallest, 2 * normal,
		greatest, math.Nextafter(greatest, 0), greatest / 2, 0x1p1023, 0x1p-537, 0x1p-538, 0x1p511, 0x1p512, 0x1p970, 0x1p971, inf,
	} {
		list = append(list, x, -x)
	}
	// A nan has many patterns of bits, all of them one value.
	return append(list, nan, math.Copysign(nan, -1), math.Float64frombits(0x7ff0000000000001), math.Float64frombits(0xfff8000000000123), math.Float64frombits(math.MaxUint64))
}

// scattered are n patterns of bits that follow each other by a fixed rule.
func scattered(n int) []uint64 {
	list := make([]uint64, n)
	state := uint64(20261116)
	for i := range list {
		state = state*6364136223846793005 + 1442695040888963407
		z := (state ^ state>>31) * 0x9e3779b97f4a7c15
		list[i] = z ^ z>>29
	}
	return list
}

// manyReals are the edges, each power of 2 with its neighbours, and scattered numbers of all sizes and of those round 1.
func manyReals() []float64 {
	list := edgeReals()
	for e := -1074; e <= 1023; e++ {
		x := math.Ldexp(1, e)
		list = append(list, x, -x, math.Nextafter(x, 0), math.Nextafter(x, inf), 3*x/2)
	}
	for _, b := range scattered(20000) {
		list = append(list, math.Float64frombits(b), float64(int64(b))/float64(1<<48), math.Float64frombits(b>>12), float64(b>>40)/16)
	}
	return list
}

// sameReal holds two real numbers against each other as the document does.
func sameReal(x, y float64) bool {
	if math.IsNaN(x) || math.IsNaN(y) {
		return math.IsNaN(x) && math.IsNaN(y)
	}
	return math.Float64bits(x) == math.Float64bits(y)
}

// realOrder is the order of two real numbers, neither of them nan, by their bits as whole numbers.
func realOrder(x, y float64) int {
	key := func(x float64) int64 {
		size := int64(math.Float64bits(x) &^ (1 << 63))
		if math.Signbit(x) {
			return -size
		}
		return size
	}
	switch kx, ky := key(x), key(y); {
	case kx < ky:
		return -1
	case kx > ky:
		return 1
	}
	return 0
}

func TestCmpTable(t *testing.T) {
	for _, c := range cmpSigns {
		if c.constant != c.op {
			t.Errorf("the constant of test %d is %d", c.op, c.constant)
		}
		if s := impl.CmpText(c.op); s != c.text {
			t.Errorf("CmpText(%d) is %q", c.op, s)
		}
		if op := impl.CmpFlip(c.op); op != c.flip {
			t.Errorf("CmpFlip(%d) is %d", c.op, op)
		}
		if op := impl.CmpSwap(c.op); op != c.swap {
			t.Errorf("CmpSwap(%d) is %d", c.op, op)
		}
	}
	for i, constant := range []int{impl.CalcAdd, impl.CalcSub, impl.CalcMul, impl.CalcDiv, impl.CalcRem} {
		if constant != i+1 {
			t.Errorf("the constant of reckoning %d is %d", i+1, constant)
		}
	}
}

func TestCmpNoTests(t *testing.T) {
	for _, op := range noTests {
		if impl.CmpText(op) != "" || impl.CmpFlip(op) != 0 || impl.CmpSwap(op) != 0 {
			t.Errorf("%d is no test", op)
		}
		for _, a := range []int16{-32768, -1, 0, 1, 32767} {
			for _, b := range []int16{-32768, -1, 0, 1, 32767} {
				if impl.WholeCmp(op, a, b) {
					t.Errorf("WholeCmp(%d, %d, %d) is true", op, a, b)
				}
			}
		}
		for _, a := range edgeReals() {
			for _, b := range []float64{nan, inf, -inf, 0, minus0, 1} {
				if impl.RealCmp(op, a, b) {
					t.Errorf("RealCmp(%d, %v, %v) is true", op, a, b)
				}
			}
		}
	}
}

// P3 and P4, of whole numbers.
func TestWholeCmp(t *testing.T) {
	for a := -32768; a <= 32767; a++ {
		for _, b := range edgeWholes() {
			for _, c := range cmpSigns {
				got := impl.WholeCmp(c.op, int16(a), b)
				if want := c.says(a - int(b)); got != want {
					t.Fatalf("%d %s %d is %v", a, c.text, b, got)
				}
				if got == impl.WholeCmp(impl.CmpFlip(c.op), int16(a), b) {
					t.Fatalf("%d %s %d is %v, and flipped too", a, c.text, b, got)
				}
				if got != impl.WholeCmp(impl.CmpSwap(c.op), b, int16(a)) {
					t.Fatalf("%d %s %d is %v, but not swapped", a, c.text, b, got)
				}
			}
		}
	}
}

// checkRealCmp holds P3 and P4 at two real numbers.
func checkRealCmp(t *testing.T, a, b float64) {
	t.Helper()
	hasNan := math.IsNaN(a) || math.IsNaN(b)
	for _, c := range cmpSigns {
		got := impl.RealCmp(c.op, a, b)
		want := c.op == impl.CmpOther
		if !hasNan {
			want = c.says(realOrder(a, b))
		}
		if got != want {
			t.Errorf("%v %s %v is %v", a, c.text, b, got)
		}
		if !hasNan && got == impl.RealCmp(impl.CmpFlip(c.op), a, b) {
			t.Errorf("%v %s %v is %v, and flipped too", a, c.text, b, got)
		}
		if got != impl.RealCmp(impl.CmpSwap(c.op), b, a) {
			t.Errorf("%v %s %v is %v, but not swapped", a, c.text, b, got)
		}
	}
}

// P3 and P4, of real numbers.
func TestRealCmp(t *testing.T) {
	for _, a := range edgeReals() {
		for _, b := range edgeReals() {
			checkRealCmp(t, a, b)
		}
	}
	list := manyReals()
	for i := range list[1:] {
		checkRealCmp(t, list[i], list[i+1])
		checkRealCmp(t, list[i], math.Nextafter(list[i], 0))
		checkRealCmp(t, list[i], list[i])
	}
}

// countedRound is the whole number of 16 bits that n is, counted round.
func countedRound(n int) int16 {
	n %= 65536
	if n < -32768 {
		n += 65536
	}
	if n > 32767 {
		n -= 65536
	}
	return int16(n)
}

// cutDivision divides the sizes and puts the signs on behind it.
func cutDivision(a, b int) (int, int) {
	sizeA, sizeB := max(a, -a), max(b, -b)
	whole, left := sizeA/sizeB, sizeA%sizeB
	if (a < 0) != (b < 0) {
		whole = -whole
	}
	if a < 0 {
		left = -left
	}
	return whole, left
}

// wantWhole is what the document asks of WholeCalc.
func wantWhole(op int, a, b int) (int16, bool) {
	switch {
	case op == 1:
		return countedRound(a + b), true
	case op == 2:
		return countedRound(a - b), true
	case op == 3:
		return countedRound(a * b), true
	case (op == 4 || op == 5) && b != 0:
		whole, left := cutDivision(a, b)
		if op == 4 {
			return countedRound(whole), true
		}
		return countedRound(left), true
	}
	return 0, false
}

// P5, each reckoning at all whole numbers beside those of edgeWholes, on both sides.
func TestWholeCalc(t *testing.T) {
	for a := -32768; a <= 32767; a++ {
		for _, edge := range edgeWholes() {
			for op := 0; op <= 6; op++ {
				for _, pair := range [][2]int16{{int16(a), edge}, {edge, int16(a)}} {
					got, ok := impl.WholeCalc(op, pair[0], pair[1])
					if want, wantOk := wantWhole(op, int(pair[0]), int(pair[1])); got != want || ok != wantOk {
						t.Fatalf("WholeCalc(%d, %d, %d) is %d, %v, not %d, %v", op, pair[0], pair[1], got, ok, want, wantOk)
					}
				}
			}
		}
	}
}

// P5, the two sentences of it.
func TestWholeCountsRound(t *testing.T) {
	calc := func(op int, a, b int16) int16 {
		n, ok := impl.WholeCalc(op, a, b)
		if !ok {
			t.Fatalf("WholeCalc(%d, %d, %d) is refused", op, a, b)
		}
		return n
	}
	for a := -32768; a <= 32767; a++ {
		a := int16(a)
		for _, b := range edgeWholes() {
			if calc(impl.CalcSub, calc(impl.CalcAdd, a, b), b) != a || calc(impl.CalcAdd, calc(impl.CalcSub, a, b), b) != a {
				t.Fatalf("%d is not as before, with %d added and taken off", a, b)
			}
			if b == 0 {
				continue
			}
			whole, left := calc(impl.CalcDiv, a, b), calc(impl.CalcRem, a, b)
			if calc(impl.CalcAdd, calc(impl.CalcMul, whole, b), left) != a {
				t.Fatalf("%d by %d is %d and %d is left, which do not make it up", a, b, whole, left)
			}
			if left != 0 && (left < 0) != (a < 0) {
				t.Fatalf("%d by %d leaves %d, which has not its sign", a, b, left)
			}
			if size := max(int(b), -int(b)); int(left) >= size || int(left) <= -size {
				t.Fatalf("%d by %d leaves %d, which is too much", a, b, left)
			}
		}
	}
}

func TestWholeCalcEdges(t *testing.T) {
	for _, c := range []struct {
		op   int
		a, b int16
		want int16
		ok   bool
	}{
		{impl.CalcAdd, -32768, -1, 32767, true},
		{impl.CalcSub, -32768, -1, -32767, true},
		{impl.CalcMul, -32768, -1, -32768, true},
		{impl.CalcDiv, -32768, -1, -32768, true},
		{impl.CalcRem, -32768, -1, 0, true},
		{impl.CalcAdd, 32767, 1, -32768, true},
		{impl.CalcSub, -32768, 1, 32767, true},
		{impl.CalcSub, 0, -32768, -32768, true},
		{impl.CalcMul, -32768, -32768, 0, true},
		{impl.CalcMul, 300, 300, 24464, true},
		{impl.CalcMul, 32767, 32767, 1, true},
		{impl.CalcDiv, 7, -2, -3, true},
		{impl.CalcDiv, -7, 2, -3, true},
		{impl.CalcDiv, -7, -2, 3, true},
		{impl.CalcRem, 7, -2, 1, true},
		{impl.CalcRem, -7, 2, -1, true},
		{impl.CalcRem, -7, -2, -1, true},
		{impl.CalcAdd, 5, 0, 5, true},
		{impl.CalcSub, 5, 0, 5, true},
		{impl.CalcMul, 5, 0, 0, true},
		{impl.CalcDiv, 5, 0, 0, false},
		{impl.CalcRem, 5, 0, 0, false},
		{impl.CalcDiv, 0, 0, 0, false},
		{impl.CalcRem, 0, 0, 0, false},
		{impl.CalcDiv, -32768, 0, 0, false},
		{impl.CalcRem, -32768, 0, 0, false},
	} {
		if n, ok := impl.WholeCalc(c.op, c.a, c.b); n != c.want || ok != c.ok {
			t.Errorf("WholeCalc(%d, %d, %d) is %d, %v, not %d, %v", c.op, c.a, c.b, n, ok, c.want, c.ok)
		}
	}
	for _, op := range noReckonings {
		for _, b := range edgeWholes() {
			if n, ok := impl.WholeCalc(op, 5, b); n != 0 || ok {
				t.Errorf("WholeCalc(%d, 5, %d) is %d, %v", op, b, n, ok)
			}
		}
	}
}

// signed puts a sign on a size.
func signed(size float64, minus bool) float64 {
	if minus {
		return math.Copysign(size, -1)
	}
	return math.Copysign(size, 1)
}

// wantSum is a + b by exact fractions, rounded once; the rules of IEEE 754 are told one by one.
func wantSum(a, b float64) float64 {
	aInf, bInf := math.IsInf(a, 0), math.IsInf(b, 0)
	switch {
	case aInf && bInf && a != b:
		return nan
	case aInf:
		return a
	case bInf:
		return b
	case a == 0 && b == 0:
		return signed(0, math.Signbit(a) && math.Signbit(b))
	}
	sum := new(big.Rat).Add(new(big.Rat).SetFloat64(a), new(big.Rat).SetFloat64(b))
	x, _ := sum.Float64()
	return x
}

// wantProduct is a times b, likewise.
func wantProduct(a, b float64) float64 {
	minus := math.Signbit(a) != math.Signbit(b)
	aInf, bInf := math.IsInf(a, 0), math.IsInf(b, 0)
	switch {
	case aInf && b == 0 || bInf && a == 0:
		return nan
	case aInf || bInf:
		return signed(inf, minus)
	case a == 0 || b == 0:
		return signed(0, minus)
	}
	product := new(big.Rat).Mul(new(big.Rat).SetFloat64(a), new(big.Rat).SetFloat64(b))
	x, _ := product.Float64()
	return signed(math.Abs(x), minus)
}

// wantQuotient is a / b, likewise.
func wantQuotient(a, b float64) float64 {
	minus := math.Signbit(a) != math.Signbit(b)
	aInf, bInf := math.IsInf(a, 0), math.IsInf(b, 0)
	switch {
	case aInf && bInf || a == 0 && b == 0:
		return nan
	case aInf || b == 0:
		return signed(inf, minus)
	case bInf || a == 0:
		return signed(0, minus)
	}
	quotient := new(big.Rat).Quo(new(big.Rat).SetFloat64(a), new(big.Rat).SetFloat64(b))
	x, _ := quotient.Float64()
	return signed(math.Abs(x), minus)
}

// wantReal is what the document asks of RealCalc.
func wantReal(op int, a, b float64) float64 {
	if math.IsNaN(a) || math.IsNaN(b) {
		return nan
	}
	switch op {
	case 1:
		return wantSum(a, b)
	case 2:
		return wantSum(a, -b)
	case 3:
		return wantProduct(a, b)
	case 4:
		return wantQuotient(a, b)
	}
	return nan
}

func checkRealCalc(t *testing.T, a, b float64) {
	t.Helper()
	for op := 0; op <= 6; op++ {
		got := impl.RealCalc(op, a, b)
		if want := wantReal(op, a, b); !sameReal(got, want) {
			t.Errorf("RealCalc(%d, %v, %v) is %v, not %v", op, a, b, got, want)
		}
	}
}

func TestRealCalc(t *testing.T) {
	for _, a := range edgeReals() {
		for _, b := range edgeReals() {
			checkRealCalc(t, a, b)
		}
	}
	bits := scattered(4000)
	for i := range bits[1:] {
		checkRealCalc(t, float64(int64(bits[i]))/(1<<40), float64(int64(bits[i+1]))/(1<<40))
	}
	for _, op := range noReckonings {
		for _, x := range []float64{1, 0, minus0, inf, -inf, nan} {
			if y := impl.RealCalc(op, x, 2); !math.IsNaN(y) {
				t.Errorf("RealCalc(%d, %v, 2) is %v", op, x, y)
			}
		}
	}
}

func TestRealCalcEdges(t *testing.T) {
	for _, c := range []struct {
		op         int
		a, b, want float64
	}{
		{impl.CalcAdd, 0.1, 0.2, 0.30000000000000004},
		{impl.CalcSub, 0.3, 0.1, 0.19999999999999998},
		{impl.CalcAdd, 1 << 53, 1, 1 << 53},
		{impl.CalcAdd, 1<<53 + 2, 1, 1<<53 + 4},
		{impl.CalcAdd, greatest, greatest, inf},
		{impl.CalcSub, inf, inf, nan},
		{impl.CalcAdd, minus0, minus0, minus0},
		{impl.CalcAdd, minus0, 0, 0},
		{impl.CalcSub, minus0, 0, minus0},
		{impl.CalcSub, 5, 5, 0},
		{impl.CalcMul, 0, -1, minus0},
		{impl.CalcMul, inf, 0, nan},
		{impl.CalcMul, smallest, 0.5, 0},
		{impl.CalcMul, -smallest, 0.5, minus0},
		{impl.CalcMul, smallest, 0.75, smallest},
		{impl.CalcDiv, 1, 0, inf},
		{impl.CalcDiv, 1, minus0, -inf},
		{impl.CalcDiv, -1, 0, -inf},
		{impl.CalcDiv, 0, 0, nan},
		{impl.CalcDiv, 0, -3, minus0},
		{impl.CalcDiv, 1, -inf, minus0},
		{impl.CalcRem, 7, 3, nan},
	} {
		if x := impl.RealCalc(c.op, c.a, c.b); !sameReal(x, c.want) {
			t.Errorf("RealCalc(%d, %v, %v) is %v, not %v", c.op, c.a, c.b, x, c.want)
		}
	}
}

// decimals are all operands of okArgs that are decimal numbers, in the order of their numbers.
func decimals() []impl.DevArg {
	var list []impl.DevArg
	for a := range okArgs() {
		if a.Kind == impl.DevDec {
			list = append(list, a)
		}
	}
	for i, b := range scattered(20000) {
		n, p := int(b%2000000000)-999999999, i%6+1
		if n <= 999999999 && n%10 != 0 {
			list = append(list, arg(12, n, p))
		}
	}
	slices.SortFunc(list, func(a, b impl.DevArg) int { return millionths(a) - millionths(b) })
	return list
}

// millionths is a decimal number as a whole number of the smallest part that one may have.
func millionths(a impl.DevArg) int {
	n := a.N
	for range 6 - a.P {
		n *= 10
	}
	return n
}

// P7, and the nearest real number of each.
func TestRealArgDecimals(t *testing.T) {
	list := decimals()
	before := -inf
	for i, a := range list {
		x := impl.RealArg(a)
		if want, _ := big.NewRat(int64(millionths(a)), 1000000).Float64(); !sameReal(x, want) {
			t.Errorf("RealArg(%v) is %v, not %v", a, x, want)
		}
		if !(before <= x) {
			t.Errorf("RealArg(%v) is %v, though %v is ahead of it and %v", a, x, list[i-1], before)
		}
		if y, err := strconv.ParseFloat(impl.DevText(a), 64); err != nil || !sameReal(x, y) {
			t.Errorf("RealArg(%v) is %v, though it is written %q", a, x, impl.DevText(a))
		}
		before = x
	}
}

func TestRealArgEdges(t *testing.T) {
	for a, want := range map[impl.DevArg]float64{
		arg(12, -25, 1): -2.5, arg(12, 0, 1): 0, arg(12, 1, 1): 0.1, arg(12, 3, 1): 0.3, arg(12, -1, 1): -0.1, arg(12, 10, 1): 1,
		arg(12, 999999999, 1): 99999999.9, arg(12, -999999999, 1): -99999999.9, arg(12, 1, 6): 0.000001, arg(12, -1, 6): -0.000001,
		arg(12, 999999999, 6): 999.999999, arg(12, -999999999, 6): -999.999999,
		arg(13, 0, 0): nan, arg(13, 1, 0): inf, arg(13, 2, 0): -inf, arg(13, 3, 0): minus0,
	} {
		if x := impl.RealArg(a); !sameReal(x, want) {
			t.Errorf("RealArg(%v) is %v, not %v", a, x, want)
		}
	}
}

// Every operand that stands for no real number by itself is +0.
func TestRealArgOthers(t *testing.T) {
	for a := range okArgs() {
		if x := impl.RealArg(a); a.Kind < impl.DevDec && !sameReal(x, 0) {
			t.Errorf("RealArg(%v) is %v", a, x)
		}
	}
	for _, a := range wrongArgs() {
		if x := impl.RealArg(a); !sameReal(x, 0) {
			t.Errorf("RealArg(%v) is %v", a, x)
		}
	}
}

// P8, the first half of it.
func TestRealWholeGivesBack(t *testing.T) {
	for n := -32768; n <= 32767; n++ {
		if got, ok := impl.RealWhole(float64(n)); !ok || int(got) != n {
			t.Errorf("RealWhole(%d) is %d, %v", n, got, ok)
		}
	}
}

// checkRealWhole holds the second half of P8 at a real number, and that none is refused without need.
func checkRealWhole(t *testing.T, x float64) {
	t.Helper()
	n, ok := impl.RealWhole(x)
	if want := x > -32769 && x < 32768; ok != want {
		t.Errorf("RealWhole(%v) says %v", x, ok)
	}
	if !ok && n != 0 {
		t.Errorf("RealWhole(%v) leaves %d beside a false", x, n)
	}
	if ok && !(math.Abs(x-float64(n)) < 1 && math.Abs(float64(n)) <= math.Abs(x)) {
		t.Errorf("RealWhole(%v) is %d", x, n)
	}
	if ok && n != 0 && (n < 0) != (x < 0) {
		t.Errorf("RealWhole(%v) is %d, which has not its sign", x, n)
	}
}

func TestRealWholeCuts(t *testing.T) {
	for _, x := range manyReals() {
		checkRealWhole(t, x)
	}
	for n := -32770.0; n <= 32770; n++ {
		for _, part := range []float64{0.001, 0.25, 0.5, 0.75, 0.999} {
			checkRealWhole(t, n+part)
		}
		checkRealWhole(t, math.Nextafter(n, -inf))
		checkRealWhole(t, math.Nextafter(n, inf))
	}
}

func TestRealWholeEdges(t *testing.T) {
	for _, c := range []struct {
		x    float64
		want int16
		ok   bool
	}{
		{-32768.75, -32768, true}, {-32768, -32768, true}, {-32769, 0, false}, {math.Nextafter(-32769, 0), -32768, true},
		{32767.5, 32767, true}, {32767, 32767, true}, {32768, 0, false}, {math.Nextafter(32768, 0), 32767, true},
		{0, 0, true}, {minus0, 0, true}, {0.99999, 0, true}, {-0.99999, 0, true}, {-1.5, -1, true}, {2.5, 2, true}, {smallest, 0, true}, {-smallest, 0, true},
		{nan, 0, false}, {inf, 0, false}, {-inf, 0, false}, {greatest, 0, false}, {-greatest, 0, false}, {65536, 0, false}, {65537, 0, false},
		{1 << 32, 0, false}, {1<<32 + 1, 0, false}, {1 << 63, 0, false}, {-1 << 63, 0, false}, {1 << 64, 0, false}, {1e300, 0, false},
	} {
		if n, ok := impl.RealWhole(c.x); n != c.want || ok != c.ok {
			t.Errorf("RealWhole(%v) is %d, %v, not %d, %v", c.x, n, ok, c.want, c.ok)
		}
	}
}

// wantRealText takes a real number apart by its bits.
func wantRealText(x float64) string {
	bits := math.Float64bits(x)
	sign := ""
	if bits>>63 == 1 {
		sign = "-"
	}
	n, e := bits&(1<<52-1), int(bits>>52&2047)
	switch {
	case e == 2047 && n != 0:
		return "nan"
	case e == 2047:
		return sign + "inf"
	case e == 0 && n == 0:
		return sign + "0"
	case e == 0:
		e = -1074
	default:
		n, e = n|1<<52, e-1075
	}
	for n&1 == 0 {
		n, e = n>>1, e+1
	}
	return sign + strconv.FormatUint(n, 10) + "*2^" + strconv.Itoa(e)
}

// P6, from a number to its text and back.
func TestRealWrittenIsRead(t *testing.T) {
	writtenBy := map[string]float64{}
	for _, x := range manyReals() {
		text := impl.RealText(x)
		if want := wantRealText(x); text != want {
			t.Errorf("RealText(%v) is %q, not %q", x, text, want)
		}
		if y, ok := impl.RealRead(text); !ok || !sameReal(x, y) {
			t.Errorf("RealRead(%q) is %v, %v, not %v", text, y, ok, x)
		}
		if y, twice := writtenBy[text]; twice && !sameReal(x, y) {
			t.Errorf("%v and %v are both %q", x, y, text)
		}
		writtenBy[text] = x
	}
}

func TestRealTextEdges(t *testing.T) {
	for _, c := range []struct {
		x    float64
		text string
	}{
		{nan, "nan"}, {inf, "inf"}, {-inf, "-inf"}, {0, "0"}, {minus0, "-0"},
		{1, "1*2^0"}, {-1, "-1*2^0"}, {3, "3*2^0"}, {2.5, "5*2^-1"}, {-2.5, "-5*2^-1"}, {-8, "-1*2^3"},
		{0.1, "3602879701896397*2^-55"}, {0.3, "5404319552844595*2^-54"},
		{smallest, "1*2^-1074"}, {-smallest, "-1*2^-1074"}, {3 * smallest, "3*2^-1074"},
		{normal, "1*2^-1022"}, {math.Nextafter(normal, 0), "4503599627370495*2^-1074"}, {math.Nextafter(normal, 1), "4503599627370497*2^-1074"},
		{greatest, "9007199254740991*2^971"}, {-greatest, "-9007199254740991*2^971"}, {0x1p1023, "1*2^1023"},
		{1<<53 - 1, "9007199254740991*2^0"}, {1 << 53, "1*2^53"}, {1<<53 + 2, "4503599627370497*2^1"},
	} {
		if s := impl.RealText(c.x); s != c.text {
			t.Errorf("RealText(%v) is %q, not %q", c.x, s, c.text)
		}
		if x, ok := impl.RealRead(c.text); !ok || !sameReal(x, c.x) {
			t.Errorf("RealRead(%q) is %v, %v, not %v", c.text, x, ok, c.x)
		}
	}
}

var oddForm = regexp.MustCompile(`^-?([1-9][0-9]{0,15})\*2\^(0|-?[1-9][0-9]{0,3})$`)

// isRealText says by whole numbers alone whether a text is one of a real number.
func isRealText(text string) bool {
	switch text {
	case "nan", "inf", "-inf", "0", "-0":
		return true
	}
	f := oddForm.FindStringSubmatch(text)
	if f == nil {
		return false
	}
	n, _ := strconv.ParseUint(f[1], 10, 64)
	e, _ := strconv.Atoi(f[2])
	wide := 0
	for left := n; left > 0; left >>= 1 {
		wide++
	}
	return n%2 == 1 && wide <= 53 && e >= -1074 && e+wide <= 1024
}

// checkRealRead holds P6 at any text.
func checkRealRead(t *testing.T, text string) {
	t.Helper()
	x, ok := impl.RealRead(text)
	if ok != isRealText(text) {
		t.Errorf("RealRead(%.40q) says %v", text, ok)
	}
	if !ok && !sameReal(x, 0) {
		t.Errorf("RealRead(%.40q) leaves %v beside a false", text, x)
	}
	if ok && impl.RealText(x) != text {
		t.Errorf("RealRead(%.40q) reads %v, which is written %q", text, x, impl.RealText(x))
	}
}

// P6, at texts that are no number's.
func TestRealWrongTexts(t *testing.T) {
	for _, text := range []string{
		"", " ", "-", "+", "*", "^", "*2^", "-*2^", "*2^0", "-*2^0", "1", "-1", "1*", "1*2", "1*2^", "1*2^-", "1*2^+", "1*2^+1", "1*2^-0", "1*2^+0",
		"2*2^0", "-2*2^0", "4*2^-1", "6*2^0", "10*2^0", "0*2^0", "-0*2^0", "0*2^1", "0*2^-1074",
		"01*2^0", "+1*2^0", "--1*2^0", "1*2^00", "1*2^01", "1*2^-01", "-01*2^0", "001*2^3",
		"-nan", "+nan", "NaN", "Nan", "NAN", "+inf", "Inf", "INF", "--inf", "infinity", "Infinity", "-Infinity", "+0", "00", "-00", "0.0", "-0.0", "--0", "1.5", "0.1", "1e5", "0x1p-2",
		"1*2^1024", "1*2^1025", "3*2^1023", "-1*2^1024", "5*2^1022", "1*2^-1075", "1*2^-1076", "3*2^-1075", "-1*2^-1075", "3*2^-1076", "1*2^10240", "1*2^-10740",
		"9007199254740991*2^972", "9007199254740991*2^971 ", "9007199254740993*2^0", "9007199254740993*2^971", "9007199254740995*2^0", "9007199254740993*2^-1074", "9007199254740991*2^-1075", "18014398509481983*2^0",
		"9223372036854775807*2^0", "9223372036854775809*2^0", "-9223372036854775807*2^0", "18446744073709551615*2^0", "18446744073709551617*2^0", "18446744073709551619*2^0", "340282366920938463463374607431768211457*2^0",
		"1*2^9223372036854775807", "1*2^-9223372036854775808", "1*2^9223372036854775808", "1*2^18446744073709551616", "1*2^4294967296", "1*2^-4294967296", "1*2^18446744073709551617", "1*2^65536", "1*2^1000000000",
		" 1*2^0", "1*2^0 ", "1 *2^0", "1* 2^0", "1*2 ^0", "1*2^ 0", "1*2^0\n", "\t1*2^0", "nan ", " nan", "nan\x00", "inf0", "0 ", " 0", "-0 ", "- 0", "-inf ", "1*2^0*2^0", "1*2^0*2^", "1*2^1*2^0", "*2^1*2^0", "1*2^0.0", "1*2^1e1", "1*2^0x1", "1_1*2^0", "1*2^1_0", "0x1*2^0", "1.0*2^0",
		"1*3^0", "1*2**0", "1x2^0", "1·2^0", "1*2⁰", "−1*2^0", "１*2^0", "1*2^１", "\xff", "1\xff*2^0", "1*2^0\xff", "\x001*2^0", "1*2^\x000", "a*2^0", "1*2^a", "1a*2^0", "é", "\ufffd",
	} {
		if isRealText(text) {
			t.Fatalf("%q is no wrong text", text)
		}
		checkRealRead(t, text)
	}
	for _, unit := range []string{"0", "1", "9", "-", "*", "*2^", "1*2^", "nan", "\xff"} {
		long := strings.Repeat(unit, 100000)
		for _, text := range []string{long, "1" + long, "1*2^" + long, "1*2^-" + long, "1*2^1" + long, long + "*2^0", "-" + long + "1*2^0"} {
			checkRealRead(t, text)
		}
	}
}

// P6, at each N and E about the bounds.
func TestRealReadBounds(t *testing.T) {
	numbers := []uint64{1<<52 - 1, 1 << 52, 1<<52 + 1, 1<<53 - 2, 1<<53 - 1, 1 << 53, 1<<53 + 1, 1<<53 + 3, 1<<54 - 1, 1<<62 + 1, 1<<63 - 1, 1<<63 + 1, math.MaxUint64}
	for n := range uint64(20) {
		numbers = append(numbers, n)
	}
	for _, n := range numbers {
		for e := -1140; e <= 1100; e++ {
			text := strconv.FormatUint(n, 10) + "*2^" + strconv.Itoa(e)
			checkRealRead(t, text)
			checkRealRead(t, "-"+text)
		}
	}
}

// P6, with each byte ahead of, behind and within a text of each sort.
func TestRealOneByteMore(t *testing.T) {
	for _, text := range []string{"nan", "inf", "-inf", "0", "-0", "1*2^0", "-1*2^0", "5*2^-1", "15*2^102", "3*2^-107", "1*2^1023", "1*2^-1074", "9007199254740991*2^971", "900719925474099*2^9", ""} {
		for b := range 256 {
			for at := 0; at <= len(text); at++ {
				checkRealRead(t, text[:at]+string([]byte{byte(b)})+text[at:])
				if at < len(text) {
					checkRealRead(t, text[:at]+string([]byte{byte(b)})+text[at+1:])
					checkRealRead(t, text[:at]+text[at+1:])
				}
			}
		}
	}
}

// P6, at every text of at most three bytes out of seven, ahead of and behind the sign for a power of 2.
func TestRealShortTexts(t *testing.T) {
	var sides []string
	texts := []string{""}
	for range 4 {
		var longer []string
		for _, text := range texts {
			checkRealRead(t, text)
			sides = append(sides, text)
			for _, b := range []byte("0129-+ ") {
				longer = append(longer, text+string([]byte{b}))
			}
		}
		texts = longer
	}
	for _, ahead := range sides {
		for _, behind := range sides {
			checkRealRead(t, ahead+"*2^"+behind)
		}
	}
}
