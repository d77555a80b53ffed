package tests

import (
	"math"
	"regexp"
	"strconv"
	"strings"
	"testing"

	"loop.example/stilscan/impl"
)

// devKind is a row of the document's table of kinds, written down once more so that the program's own table is held against it.
type devKind struct {
	kind             int
	constant         int
	letter           string
	size             int
	bit, whole, real bool
}

var devKinds = []devKind{
	{1, impl.DevX, "X", 32, true, false, false},
	{2, impl.DevY, "Y", 32, true, false, false},
	{3, impl.DevM, "M", 64, true, false, false},
	{4, impl.DevS, "S", 16, true, false, false},
	{5, impl.DevE, "E", 32, false, false, false},
	{6, impl.DevG, "G", 5, true, false, false},
	{7, impl.DevT, "T", 16, true, true, false},
	{8, impl.DevC, "C", 16, true, true, false},
	{9, impl.DevD, "D", 32, false, true, false},
	{10, impl.DevR, "R", 16, false, false, true},
	{11, impl.DevInt, "", 0, false, true, false},
	{12, impl.DevDec, "", 0, false, false, true},
	{13, impl.DevWord, "", 0, false, false, true},
}

var noKinds = []int{0, 14, 15, 27, -1, -13, 256 + 1, math.MinInt, math.MaxInt}

func arg(kind, n, p int) impl.DevArg { return impl.DevArg{Kind: kind, N: n, P: p} }

// okArgs are operands that are ok, with their texts worked out without the program.
func okArgs() map[impl.DevArg]string {
	all := map[impl.DevArg]string{}
	for _, k := range devKinds {
		for n := range k.size {
			all[arg(k.kind, n, 0)] = k.letter + strconv.Itoa(n)
		}
	}
	for n := -32768; n <= 32767; n++ {
		all[arg(11, n, 0)] = strconv.Itoa(n)
	}
	for p := 1; p <= 6; p++ {
		for _, n := range decimalNumbers() {
			if p == 1 || n%10 != 0 {
				all[arg(12, n, p)] = decimalText(n, p)
			}
		}
	}
	for n, w := range []string{"nan", "inf", "-inf", "-0.0"} {
		all[arg(13, n, 0)] = w
	}
	return all
}

// decimalNumbers are the numbers round 0, round each power of 10 and at the bounds, of both signs.
func decimalNumbers() []int {
	list := []int{0, 999999999, -999999999, 999999998, 123456789, -987654321, 999999990}
	for n := 1; n <= 300; n++ {
		list = append(list, n, -n)
	}
	for ten := 1000; ten <= 100000000; ten *= 10 {
		for d := -11; d <= 11; d++ {
			list = append(list, ten+d, -ten-d)
		}
	}
	return list
}

// decimalText puts the point by reckoning the two sides of it, not by cutting digits.
func decimalText(n, p int) string {
	sign := ""
	if n < 0 {
		sign, n = "-", -n
	}
	ten := 1
	for range p {
		ten *= 10
	}
	return sign + strconv.Itoa(n/ten) + "." + strconv.Itoa(ten + n%ten)[1:]
}

// wrongArgs are operands that are not ok.
func wrongArgs() []impl.DevArg {
	var list []impl.DevArg
	for _, kind := range noKinds {
		for _, n := range []int{0, 1, -1, math.MinInt, math.MaxInt} {
			list = append(list, arg(kind, n, 0), arg(kind, n, 1))
		}
	}
	for _, k := range devKinds[:10] {
		for _, n := range []int{-1, k.size, k.size + 1, 64, 256, 1 << 32, math.MinInt, math.MaxInt} {
			list = append(list, arg(k.kind, n, 0))
		}
		list = append(list, arg(k.kind, 0, 1), arg(k.kind, k.size-1, -1), arg(k.kind, 1, math.MaxInt))
	}
	for _, n := range []int{-32769, 32768, 65536, 1 << 32, math.MinInt, math.MaxInt} {
		list = append(list, arg(11, n, 0))
	}
	list = append(list, arg(11, 5, 1), arg(11, 5, -1), arg(11, 0, math.MinInt))
	for _, n := range []int{-1000000000, 1000000000, 1000000001, -1000000001, 1<<32 + 5, math.MinInt, math.MaxInt} {
		list = append(list, arg(12, n, 1), arg(12, n, 6))
	}
	for _, p := range []int{0, 7, -1, 1<<32 + 1, math.MinInt, math.MaxInt} {
		list = append(list, arg(12, 5, p), arg(12, -5, p), arg(12, 0, p))
	}
	for p := 2; p <= 6; p++ {
		list = append(list, arg(12, 0, p), arg(12, 10, p), arg(12, -10, p), arg(12, 999999990, p), arg(12, 100, p))
	}
	for _, n := range []int{-1, 4, 5, math.MinInt, math.MaxInt} {
		list = append(list, arg(13, n, 0))
	}
	return append(list, arg(13, 0, 1), arg(13, 3, -1), arg(13, 3, 1))
}

var (
	deviceForm = regexp.MustCompile(`^([XYMSEGTCDR])(0|[1-9][0-9]{0,2})$`)
	wholeForm  = regexp.MustCompile(`^(0|-?[1-9][0-9]{0,5})$`)
	realForm   = regexp.MustCompile(`^-?(0|[1-9][0-9]*)\.([0-9]|[0-9]{1,5}[1-9])$`)
)

// isDevText says by the shape of a text alone whether it is one of an operand.
func isDevText(text string) bool {
	switch text {
	case "nan", "inf", "-inf", "-0.0":
		return true
	}
	if f := deviceForm.FindStringSubmatch(text); f != nil {
		n, _ := strconv.Atoi(f[2])
		for _, k := range devKinds {
			if k.letter == f[1] {
				return n < k.size
			}
		}
	}
	if wholeForm.MatchString(text) {
		n, _ := strconv.Atoi(text)
		return n >= -32768 && n <= 32767
	}
	if realForm.MatchString(text) {
		digits := strings.TrimLeft(strings.NewReplacer("-", "", ".", "").Replace(text), "0")
		return len(digits) <= 9
	}
	return false
}

// checkRead holds the promise of reading at any text.
func checkRead(t *testing.T, text string) {
	t.Helper()
	a, ok := impl.DevRead(text)
	if ok != isDevText(text) {
		t.Errorf("DevRead(%.40q) says %v", text, ok)
	}
	if !ok && a != (impl.DevArg{}) {
		t.Errorf("DevRead(%.40q) leaves %v beside a false", text, a)
	}
	if ok && !impl.DevOk(a) {
		t.Errorf("DevRead(%.40q) reads %v, which is not ok", text, a)
	}
	if ok && impl.DevText(a) != text {
		t.Errorf("DevRead(%.40q) reads %v, which is written %q", text, a, impl.DevText(a))
	}
}

func TestDevTable(t *testing.T) {
	for _, k := range devKinds {
		if k.constant != k.kind {
			t.Errorf("the constant of kind %d is %d", k.kind, k.constant)
		}
		if n := impl.DevSize(k.kind); n != k.size {
			t.Errorf("DevSize(%d) is %d", k.kind, n)
		}
		if s := impl.DevLetter(k.kind); s != k.letter {
			t.Errorf("DevLetter(%d) is %q", k.kind, s)
		}
	}
	for _, kind := range noKinds {
		if impl.DevSize(kind) != 0 || impl.DevLetter(kind) != "" {
			t.Errorf("%d is no kind", kind)
		}
	}
	if impl.DevMaxInt != 32767 || impl.DevMaxDec != 999999999 || impl.DevMaxP != 6 {
		t.Error("bounds")
	}
}

// P1, from an operand that is ok to its text and back.
func TestDevWrittenIsRead(t *testing.T) {
	writtenBy := map[string]impl.DevArg{}
	for a, want := range okArgs() {
		if !impl.DevOk(a) {
			t.Errorf("%v is ok", a)
		}
		text := impl.DevText(a)
		if text != want {
			t.Errorf("DevText(%v) is %q, not %q", a, text, want)
		}
		if other, twice := writtenBy[text]; twice {
			t.Errorf("%v and %v are both %q", a, other, text)
		}
		writtenBy[text] = a
		if b, ok := impl.DevRead(text); !ok || b != a {
			t.Errorf("DevRead(%q) is %v, %v, not %v", text, b, ok, a)
		}
		checkRead(t, text)
	}
}

func TestDevEdges(t *testing.T) {
	for text, a := range map[string]impl.DevArg{
		"X0": arg(1, 0, 0), "X31": arg(1, 31, 0), "M63": arg(3, 63, 0), "G4": arg(6, 4, 0),
		"0": arg(11, 0, 0), "-1": arg(11, -1, 0), "-32768": arg(11, -32768, 0), "32767": arg(11, 32767, 0),
		"0.0": arg(12, 0, 1), "1.0": arg(12, 10, 1), "-1.0": arg(12, -10, 1), "10.0": arg(12, 100, 1),
		"0.5": arg(12, 5, 1), "-0.5": arg(12, -5, 1), "0.05": arg(12, 5, 2), "-0.000001": arg(12, -1, 6),
		"99999999.9": arg(12, 999999999, 1), "-99999999.9": arg(12, -999999999, 1), "999.999999": arg(12, 999999999, 6),
		"-999.999999": arg(12, -999999999, 6), "99999999.0": arg(12, 999999990, 1),
		"nan": arg(13, 0, 0), "inf": arg(13, 1, 0), "-inf": arg(13, 2, 0), "-0.0": arg(13, 3, 0),
	} {
		if s := impl.DevText(a); s != text {
			t.Errorf("DevText(%v) is %q, not %q", a, s, text)
		}
		if b, ok := impl.DevRead(text); !ok || b != a {
			t.Errorf("DevRead(%q) is %v, %v, not %v", text, b, ok, a)
		}
	}
}

func TestDevWrongArgs(t *testing.T) {
	for _, a := range wrongArgs() {
		if impl.DevOk(a) {
			t.Errorf("%v is not ok", a)
		}
		if s := impl.DevText(a); s != "" {
			t.Errorf("DevText(%v) is %q", a, s)
		}
		if impl.DevIsBit(a) || impl.DevIsWhole(a) || impl.DevIsReal(a) {
			t.Errorf("%v is asked for something", a)
		}
	}
}

// P1, at texts that are no operand's.
func TestDevWrongTexts(t *testing.T) {
	for _, text := range []string{
		"", " ", "X", "-", ".", "-.", "x0", "Q1", "X32", "Y32", "M64", "S16", "E32", "G5", "T16", "C16", "D32", "R16",
		"X01", "X00", "X-1", "X-0", "X+1", "X 1", "X1.0", "X.1", "X0x1", "XX1", "1X", "X1X", "X1,", "X256", "X4294967296",
		"+5", "-0", "00", "01", "-01", "--1", "5-", "5-5", "32768", "-32769", "65536", "1e3", "0x10", "1_000", "5 ", " 5",
		"5.", ".5", "-.5", "-5.", "0.50", "0.00", "-0.00", "1.10", "00.5", "-00.5", "01.5", "+0.5", "1..5", "1.5.5", "1.-5", "-0.0 ", " -0.0",
		"1.1234567", "0.0000001", "1.0000000", "100000000.0", "-100000000.0", "1000.000001", "1234567890.1", "1,5",
		"NaN", "nan ", "nan0", "-nan", "+inf", "Inf", "inf.", "infinity", "--inf", "+0.0", "-0.0.",
		"18446744073709551621", "X18446744073709551616", "-18446744073709551621", "4294967301", "1844674407370955161.7",
		"\x00", "X\x00", "5\x00", "\xff", "X\xff", "5\xff", "\xc3", "X\ufffd", "\ufffd", "\uff15", "X\u0663", "\uff381", "é", "−5", "５.０", "\n", "5\n", "\t5",
	} {
		if isDevText(text) {
			t.Fatalf("%q is no wrong text", text)
		}
		checkRead(t, text)
	}
	for _, unit := range []string{"0", "9", "-", ".", "X", "X1", "nan", "\xff", "é"} {
		checkRead(t, strings.Repeat(unit, 100000))
		checkRead(t, "X"+strings.Repeat(unit, 100000))
		checkRead(t, "0."+strings.Repeat(unit, 100000))
	}
}

// P1, with each byte ahead of, behind and within a text of each sort.
func TestDevOneByteMore(t *testing.T) {
	for _, text := range []string{"X0", "X3", "M6", "G4", "C15", "R1", "D31", "0", "5", "-7", "3276", "-3276", "32767", "0.0", "0.5", "-0.5", "1.25", "0.00002", "0.000025", "9999999.9", "99999999.9", "nan", "inf", "-inf", "-0.0", ""} {
		for b := range 256 {
			for at := 0; at <= len(text); at++ {
				checkRead(t, text[:at]+string([]byte{byte(b)})+text[at:])
				if at < len(text) {
					checkRead(t, text[:at]+string([]byte{byte(b)})+text[at+1:])
				}
			}
		}
	}
}

// P1, at every text of at most four bytes out of thirteen, some of which operands are made of.
func TestDevShortTexts(t *testing.T) {
	texts := []string{""}
	for range 5 {
		var longer []string
		for _, text := range texts {
			checkRead(t, text)
			for _, b := range []byte("0159-+.XMGn \xff") {
				longer = append(longer, text+string([]byte{b}))
			}
		}
		texts = longer
	}
}

// P2: the kind alone decides what an operand that is ok is asked for.
func TestDevAskedByKind(t *testing.T) {
	for a := range okArgs() {
		k := devKinds[a.Kind-1]
		if b := impl.DevIsBit(a); b != k.bit {
			t.Errorf("DevIsBit(%v) is %v", a, b)
		}
		if b := impl.DevIsWhole(a); b != k.whole {
			t.Errorf("DevIsWhole(%v) is %v", a, b)
		}
		if b := impl.DevIsReal(a); b != k.real {
			t.Errorf("DevIsReal(%v) is %v", a, b)
		}
	}
}

// P2: how many things each kind is asked for.
func TestDevAskedHowOften(t *testing.T) {
	for _, k := range devKinds {
		a := arg(k.kind, 1, 0)
		if k.kind == impl.DevDec {
			a.P = 1
		}
		n := 0
		for _, asked := range []bool{impl.DevIsBit(a), impl.DevIsWhole(a), impl.DevIsReal(a)} {
			if asked {
				n++
			}
		}
		want := 1
		switch k.kind {
		case impl.DevT, impl.DevC:
			want = 2
		case impl.DevE:
			want = 0
		}
		if n != want {
			t.Errorf("%v is asked for %d things, not %d", a, n, want)
		}
	}
}
