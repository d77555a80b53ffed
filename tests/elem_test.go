package tests

import (
	"math"
	"reflect"
	"regexp"
	"slices"
	"strconv"
	"strings"
	"testing"

	"loop.example/stilscan/impl"
)

// elemKind is a row of the document's two tables, written down once more.
// Its forms are the sorts of its operands, `|` between two ways to fill the places.
type elemKind struct {
	op       int
	constant int
	name     string
	ahead    string
	between  string
	forms    string
}

var elemKinds = []elemKind{
	{1, impl.ElemOpen, "", "", "", "bit"},
	{2, impl.ElemShut, "", "/", "", "bit"},
	{3, impl.ElemUp, "", "+", ":", "bit E"},
	{4, impl.ElemDown, "", "-", ":", "bit E"},
	{5, impl.ElemLess, "", "", "<", "whole whole|real real"},
	{6, impl.ElemMost, "", "", "<=", "whole whole|real real"},
	{7, impl.ElemSame, "", "", "=", "whole whole|real real"},
	{8, impl.ElemOther, "", "", "<>", "whole whole|real real"},
	{9, impl.ElemLeast, "", "", ">=", "whole whole|real real"},
	{10, impl.ElemMore, "", "", ">", "whole whole|real real"},
	{21, impl.ElemOut, "out", "out:", ",", "YM"},
	{22, impl.ElemSet, "set", "set:", ",", "YMS"},
	{23, impl.ElemReset, "reset", "reset:", ",", "YMSTC"},
	{24, impl.ElemPulse, "pulse", "pulse:", ",", "YM E"},
	{25, impl.ElemStep, "step", "step:", ",", "S"},
	{26, impl.ElemTimer, "timer", "timer:", ",", "T preset"},
	{27, impl.ElemHold, "hold", "hold:", ",", "T preset"},
	{28, impl.ElemLate, "late", "late:", ",", "T preset"},
	{29, impl.ElemCount, "count", "count:", ",", "C preset"},
	{30, impl.ElemMove, "move", "move:", ",", "D whole|R real"},
	{31, impl.ElemAdd, "add", "add:", ",", "D whole whole|R real real"},
	{32, impl.ElemSub, "sub", "sub:", ",", "D whole whole|R real real"},
	{33, impl.ElemMul, "mul", "mul:", ",", "D whole whole|R real real"},
	{34, impl.ElemDiv, "div", "div:", ",", "D whole whole|R real real"},
	{35, impl.ElemRem, "rem", "rem:", ",", "D whole whole"},
	{36, impl.ElemReal, "real", "real:", ",", "R whole"},
	{37, impl.ElemWhole, "whole", "whole:", ",", "D real"},
}

var noOps = []int{0, 11, 12, 13, 14, 15, 16, 17, 18, 19, 20, 38, 39, 58, -1, -21, 256 + 1, 1<<32 + 21, math.MinInt, math.MaxInt}

func (k elemKind) contact() bool { return k.op <= 10 }

func (k elemKind) arity() int {
	first, _, _ := strings.Cut(k.forms, "|")
	return len(strings.Fields(first))
}

// sortPattern is the pattern of the texts of a sort of operands.
func sortPattern(sort string) string {
	const upTo32767 = `[1-9][0-9]{0,3}|[12][0-9]{4}|3[01][0-9]{3}|32[0-6][0-9]{2}|327[0-5][0-9]|3276[0-7]`
	switch sort {
	case "bit":
		return sortPattern("XYMSGTC")
	case "preset":
		return "0|" + upTo32767
	case "whole":
		return sortPattern("TCD") + "|0|-?(?:" + upTo32767 + ")|-32768"
	case "real":
		pattern := sortPattern("R") + `|-?inf|nan|-?(?:0|[1-9][0-9]{0,7})\.[0-9]`
		for p := 2; p <= 6; p++ {
			pattern += `|-?(?:0|[1-9][0-9]{0,` + strconv.Itoa(8-p) + `})\.[0-9]{` + strconv.Itoa(p-1) + `}[1-9]`
		}
		return pattern
	}
	var all []string
	for _, k := range devKinds {
		if k.letter != "" && strings.Contains(sort, k.letter) {
			for n := range k.size {
				all = append(all, k.letter+strconv.Itoa(n))
			}
		}
	}
	return strings.Join(all, "|")
}

// elemPatterns has for each Op the pattern of its texts: what it takes is said there without a word of the program.
var elemPatterns = func() map[int]*regexp.Regexp {
	all := map[int]*regexp.Regexp{}
	for _, k := range elemKinds {
		var forms []string
		for _, form := range strings.Split(k.forms, "|") {
			var places []string
			for _, sort := range strings.Fields(form) {
				places = append(places, "(?:"+sortPattern(sort)+")")
			}
			forms = append(forms, strings.Join(places, regexp.QuoteMeta(k.between)))
		}
		all[k.op] = regexp.MustCompile("^" + regexp.QuoteMeta(k.ahead) + "(?:" + strings.Join(forms, "|") + `)\z`)
	}
	return all
}()

func isElemText(text string) bool {
	for _, pattern := range elemPatterns {
		if pattern.MatchString(text) {
			return true
		}
	}
	return false
}

// wantElemText is the text of a contact or coil that is ok, else the empty one. Operands are written by chapter 1, which has tests of its own.
func wantElemText(e impl.Elem) string {
	for _, k := range elemKinds {
		if k.op != e.Op || k.arity() != len(e.Args) {
			continue
		}
		var texts []string
		for _, a := range e.Args {
			texts = append(texts, impl.DevText(a))
		}
		if text := k.ahead + strings.Join(texts, k.between); elemPatterns[k.op].MatchString(text) {
			return text
		}
	}
	return ""
}

func elem(op int, args ...impl.DevArg) impl.Elem { return impl.Elem{Op: op, Args: args} }

// sameElem takes the empty list and the nil list for one.
func sameElem(a, b impl.Elem) bool { return a.Op == b.Op && slices.Equal(a.Args, b.Args) }

// checkElem holds P9 and P10 at any contact or coil, ok or not.
func checkElem(t *testing.T, e impl.Elem) {
	t.Helper()
	want := wantElemText(e)
	contact, coil := impl.ElemIsContact(e), impl.ElemIsCoil(e)
	if contact && coil {
		t.Errorf("%v is both a contact and a coil", e)
	}
	if contact != (want != "" && e.Op <= 10) || coil != (want != "" && e.Op > 10) {
		t.Errorf("%v (%q): a contact %v, a coil %v", e, want, contact, coil)
	}
	if text := impl.ElemText(e); text != want {
		t.Errorf("ElemText(%v) is %q, not %q", e, text, want)
	}
	if !contact && !coil {
		return
	}
	if len(e.Args) != impl.ElemArity(e.Op) {
		t.Errorf("%v is one, but ElemArity is %d", e, impl.ElemArity(e.Op))
	}
	for _, a := range e.Args {
		if !impl.DevOk(a) {
			t.Errorf("%v is one, with %v, which is not ok", e, a)
		}
	}
	if back, ok := impl.ElemRead(want); !ok || !sameElem(back, e) {
		t.Errorf("ElemRead(%q) is %v, %v, not %v", want, back, ok, e)
	}
}

// checkElemRead holds P9 at any text.
func checkElemRead(t *testing.T, text string) {
	t.Helper()
	e, ok := impl.ElemRead(text)
	if ok != isElemText(text) {
		t.Errorf("ElemRead(%.60q) says %v", text, ok)
	}
	if !ok {
		if e.Op != 0 || len(e.Args) != 0 {
			t.Errorf("ElemRead(%.60q) leaves %v beside a false", text, e)
		}
		return
	}
	if impl.ElemIsContact(e) == impl.ElemIsCoil(e) {
		t.Errorf("ElemRead(%.60q) reads %v, which is not one of the two", text, e)
	}
	if back := impl.ElemText(e); back != text {
		t.Errorf("ElemRead(%.60q) reads %v, which is written %q", text, e, back)
	}
}

// fewArgs has of each kind the first and the last, numbers at their bounds, and operands that are not ok.
func fewArgs() []impl.DevArg {
	var list []impl.DevArg
	for _, k := range devKinds[:10] {
		list = append(list, arg(k.kind, 0, 0), arg(k.kind, k.size-1, 0), arg(k.kind, k.size, 0))
	}
	return append(list,
		arg(11, 0, 0), arg(11, 32767, 0), arg(11, -1, 0), arg(11, -32768, 0), arg(11, 32768, 0), arg(11, 5, 1),
		arg(12, 0, 1), arg(12, -999999999, 6), arg(12, 5, 0), arg(12, 50, 2),
		arg(13, 0, 0), arg(13, 2, 0), arg(13, 3, 0), arg(13, 4, 0), arg(13, -1, 0),
		arg(0, 0, 0), arg(1, -1, 0), arg(2, 1, 1), arg(14, 0, 0))
}

// oneOfEach has an operand of each kind, with both signs of whole numbers, and one that is nothing.
func oneOfEach() []impl.DevArg {
	list := []impl.DevArg{arg(0, 0, 0), arg(11, -7, 0), arg(12, 25, 2)}
	for _, k := range devKinds {
		if k.kind != impl.DevDec {
			list = append(list, arg(k.kind, 3, 0))
		}
	}
	return list
}

// allOps are those of the tables, and some that are none.
func allOps() []int {
	list := slices.Clone(noOps)
	for _, k := range elemKinds {
		list = append(list, k.op)
	}
	return list
}

// sampleArgs has for a sort of operands some of each kind that it takes.
func sampleArgs(sort string) []impl.DevArg {
	pattern := regexp.MustCompile("^(?:" + sortPattern(sort) + ")$")
	var list []impl.DevArg
	for _, a := range append(fewArgs(), arg(11, 50, 0), arg(11, -5, 0), arg(12, -5, 1), arg(12, 1230, 1), arg(13, 1, 0)) {
		if pattern.MatchString(impl.DevText(a)) {
			list = append(list, a)
		}
	}
	return list
}

// okElems are contacts and coils that are ok, of each Op, with each sort of operands that it takes.
func okElems() []impl.Elem {
	var all []impl.Elem
	for _, k := range elemKinds {
		for _, form := range strings.Split(k.forms, "|") {
			lists := [][]impl.DevArg{nil}
			for _, sort := range strings.Fields(form) {
				var longer [][]impl.DevArg
				for _, list := range lists {
					for _, a := range sampleArgs(sort) {
						longer = append(longer, append(slices.Clone(list), a))
					}
				}
				lists = longer
			}
			for _, list := range lists {
				all = append(all, elem(k.op, list...))
			}
		}
	}
	return all
}

func TestElemTable(t *testing.T) {
	for _, k := range elemKinds {
		if k.constant != k.op {
			t.Errorf("the constant of Op %d is %d", k.op, k.constant)
		}
		if n := impl.ElemArity(k.op); n != k.arity() {
			t.Errorf("ElemArity(%d) is %d", k.op, n)
		}
		if s := impl.ElemName(k.op); s != k.name {
			t.Errorf("ElemName(%d) is %q", k.op, s)
		}
		if k.op >= 5 && k.op <= 10 && k.between != impl.CmpText(k.op-4) {
			t.Errorf("the sign of Op %d is %q", k.op, k.between)
		}
	}
	for _, op := range noOps {
		if impl.ElemArity(op) != 0 || impl.ElemName(op) != "" {
			t.Errorf("%d is no Op", op)
		}
	}
}

func TestElemEdges(t *testing.T) {
	x, e, d, r := arg(1, 0, 0), arg(5, 1, 0), arg(9, 1, 0), arg(10, 2, 0)
	for text, want := range map[string]impl.Elem{
		"X0": elem(1, x), "T15": elem(1, arg(7, 15, 0)), "G4": elem(1, arg(6, 4, 0)), "/X0": elem(2, x), "/C0": elem(2, arg(8, 0, 0)),
		"+X0:E1": elem(3, x, e), "-X0:E1": elem(4, x, e), "-C3:E31": elem(4, arg(8, 3, 0), arg(5, 31, 0)),
		"D1<D2": elem(5, d, arg(9, 2, 0)), "-5<-7": elem(5, arg(11, -5, 0), arg(11, -7, 0)), "T1<=C2": elem(6, arg(7, 1, 0), arg(8, 2, 0)),
		"-0.0=0.0": elem(7, arg(13, 3, 0), arg(12, 0, 1)), "-inf<>nan": elem(8, arg(13, 2, 0), arg(13, 0, 0)), "-5<>D1": elem(8, arg(11, -5, 0), d),
		"R2>=-0.5": elem(9, r, arg(12, -5, 1)), "inf>R2": elem(10, arg(13, 1, 0), r), "0>-32768": elem(10, arg(11, 0, 0), arg(11, -32768, 0)),
		"out:M63": elem(21, arg(3, 63, 0)), "set:S0": elem(22, arg(4, 0, 0)), "reset:C15": elem(23, arg(8, 15, 0)), "pulse:Y31,E0": elem(24, arg(2, 31, 0), arg(5, 0, 0)),
		"step:S15": elem(25, arg(4, 15, 0)), "timer:T1,50": elem(26, arg(7, 1, 0), arg(11, 50, 0)), "hold:T0,0": elem(27, arg(7, 0, 0), arg(11, 0, 0)),
		"late:T0,32767": elem(28, arg(7, 0, 0), arg(11, 32767, 0)), "count:C0,0": elem(29, arg(8, 0, 0), arg(11, 0, 0)),
		"move:D1,T1": elem(30, d, arg(7, 1, 0)), "move:R2,-0.0": elem(30, r, arg(13, 3, 0)), "add:D1,-5,C0": elem(31, d, arg(11, -5, 0), arg(8, 0, 0)),
		"sub:R2,R2,-inf": elem(32, r, r, arg(13, 2, 0)), "mul:R2,1.0,nan": elem(33, r, arg(12, 10, 1), arg(13, 0, 0)), "div:D1,D1,0": elem(34, d, d, arg(11, 0, 0)),
		"rem:D1,7,-7": elem(35, d, arg(11, 7, 0), arg(11, -7, 0)), "real:R2,D1": elem(36, r, d), "whole:D1,R2": elem(37, d, r), "whole:D1,-0.5": elem(37, d, arg(12, -5, 1)),
	} {
		if s := impl.ElemText(want); s != text {
			t.Errorf("ElemText(%v) is %q, not %q", want, s, text)
		}
		if got, ok := impl.ElemRead(text); !ok || !sameElem(got, want) {
			t.Errorf("ElemRead(%q) is %v, %v, not %v", text, got, ok, want)
		}
		if impl.ElemIsContact(want) != (want.Op <= 10) || impl.ElemIsCoil(want) != (want.Op > 10) {
			t.Errorf("%q is a contact: %v, a coil: %v", text, impl.ElemIsContact(want), impl.ElemIsCoil(want))
		}
	}
}

// P9 and P10, with every kind of operand that each Op takes; unlike ones have unlike texts.
func TestElemWrittenIsRead(t *testing.T) {
	writtenBy := map[string]impl.Elem{}
	ops := map[int]bool{}
	for _, e := range okElems() {
		text := wantElemText(e)
		if text == "" {
			t.Fatalf("%v is no wrong one", e)
		}
		ops[e.Op] = true
		checkElem(t, e)
		checkElemRead(t, text)
		if other, twice := writtenBy[text]; twice {
			t.Errorf("%v and %v are both %q", e, other, text)
		}
		writtenBy[text] = e
	}
	if len(ops) != len(elemKinds) {
		t.Errorf("%d Ops are tried", len(ops))
	}
}

// P9 and P10, at each Op with each list of up to three operands, most of which it does not take.
func TestElemOperands(t *testing.T) {
	for _, op := range allOps() {
		checkElem(t, elem(op))
		for _, a := range fewArgs() {
			checkElem(t, elem(op, a))
			for _, b := range fewArgs() {
				checkElem(t, elem(op, a, b))
			}
		}
		for _, a := range oneOfEach() {
			for _, b := range oneOfEach() {
				for _, c := range oneOfEach() {
					checkElem(t, elem(op, a, b, c))
				}
			}
		}
	}
}

// P10: one operand more or fewer, twice as many, or one that is not ok in any place, and it is neither.
func TestElemWrongOperands(t *testing.T) {
	for _, e := range okElems() {
		n := len(e.Args)
		for _, a := range []impl.DevArg{{}, e.Args[n-1], arg(5, 0, 0), arg(11, 0, 0)} {
			checkElem(t, elem(e.Op, append(slices.Clone(e.Args), a)...))
			checkElem(t, elem(e.Op, append([]impl.DevArg{a}, e.Args...)...))
		}
		checkElem(t, elem(e.Op, e.Args[1:]...))
		checkElem(t, elem(e.Op, e.Args[:n-1]...))
		checkElem(t, elem(e.Op, append(slices.Clone(e.Args), e.Args...)...))
		for i := range n {
			for _, change := range []impl.DevArg{{P: 1}, {P: -1}, {N: 1 << 32}, {N: math.MinInt}, {Kind: 256}, {Kind: -14}} {
				args := slices.Clone(e.Args)
				args[i].Kind += change.Kind
				args[i].N += change.N
				args[i].P += change.P
				checkElem(t, elem(e.Op, args...))
			}
		}
	}
	for _, op := range allOps() {
		checkElem(t, elem(op, make([]impl.DevArg, 100000)...))
		checkElem(t, elem(op, []impl.DevArg{}...))
	}
}

// P10, with each device that there is, and those next to the first and the last, in each place.
func TestElemDevices(t *testing.T) {
	for _, k := range elemKinds {
		for _, form := range strings.Split(k.forms, "|") {
			var args []impl.DevArg
			for _, sort := range strings.Fields(form) {
				args = append(args, sampleArgs(sort)[0])
			}
			for place := range args {
				for _, dev := range devKinds {
					for n := -1; n <= max(dev.size, 4); n++ {
						changed := slices.Clone(args)
						changed[place] = arg(dev.kind, n, 0)
						checkElem(t, elem(k.op, changed...))
					}
				}
			}
		}
	}
}

func TestElemWrongTexts(t *testing.T) {
	for _, text := range []string{
		"", " ", ":", ",", "/", "+", "-", "<", "=", "<>", "E1", "D1", "R1", "5", "-5", "0.5", "nan", "X32", "X01", "x0",
		"/E1", "/D1", "//X0", "/", "/+X0:E1", "+X0", "+X0:", "+:E1", "+X0:X1", "+E0:E1", "+D0:E1", "+X0:E32", "+X0,E1", "+X0:E1:", "+X0:E1:E2", "++X0:E1", "+/X0:E1", "+X0::E1", "X0:E1", "-X0", "-E0:E1", "--X0:E1", "-X0:E1,", "+X0:e1",
		"D1<", "<D1", "D1<R1", "R1<D1", "D1<1.0", "1<1.0", "D1<nan", "X0<X1", "D1<X0", "E0<E1", "D1==D2", "D1=<D2", "D1=>D2", "D1><D2", "D1<<D2", "D1<<=D2", "D1<==D2", "D1<D2<D3", "D1<D2=D3", "D1<>", "D1!=D2", "D1≤D2", "D1-<D2", "D1<-D2", "D1<+5", "D1<-0", "-0<D1", "D1<--5", "D1<05", "D1<0.50", "R1<.5", "R1<5.", "5.<R1", "R1<-nan", "R1<+inf", "D1 < D2", "D1< D2", "D1 <D2", "D1:<D2", "D1<:D2", "D1<,D2", "D1<32768", "D1>-32769", "/D1<D2", "+D1<D2", "-D1<D2",
		"out", "out:", "out:X0", "out:S0", "out:T0", "out:C0", "out:G0", "out:E0", "out:D0", "out:Y0,Y1", "out:Y0,", "out:,Y0", "out::Y0", "out:Y0:", "out,Y0", "outY0", "out Y0", "out:/Y0", "Out:Y0", "OUT:Y0", "ou:Y0", "outt:Y0", "xout:Y0", ":Y0", "o:Y0", "Y0:out", "out:Y32", "out:Y00", "out: Y0", " out:Y0", "out:Y0 ", "out:Y0\n", "out:out:Y0", "out:y0", "out:Y0out:Y0",
		"set:T1", "set:C1", "set:X0", "set:E0", "set", "set:", "reset:X0", "reset:E0", "reset:G0", "reset:D0", "reset:R0", "rese:Y0", "pulse:Y0", "pulse:Y0,Y1", "pulse:S0,E0", "pulse:E0,Y0", "pulse:E0,E1", "pulse:Y0:E1", "pulse:Y0,E1,E2", "step:M1", "step:S16", "step:S0,S1", "step:",
		"timer:T1,-1", "timer:T1", "timer:T1,", "timer:,5", "timer:T1,D1", "timer:T1,T2", "timer:T1,1.0", "timer:T1,nan", "timer:C1,5", "timer:T1,32768", "timer:T1,-0", "timer:T1,+5", "timer:T1,05", "timer:T1,5,5", "timer:T1,,5", "timer:T1;5", "timer:T1:5", "timer:T1, 5", "timer:5,T1", "timer:T16,5",
		"hold:C0,1", "hold:T0,-1", "late:T0,-32768", "late:D0,1", "count:T1,5", "count:C1,C2", "count:C1,-1", "count:C1", "counter:C1,5", "count:C1,5.0",
		"move:D0,1.0", "move:R0,1", "move:D0,R0", "move:R0,D0", "move:Y0,1", "move:T0,1", "move:5,5", "move:D0", "move:D0,X0", "move:D0,E0", "move:D0,1,2", "move:R0,nan,nan", "move:R0,T0",
		"add:D1,D2", "add:D1,D2,R3", "add:D1,R2,D3", "add:R1,D2,D3", "add:D1,R2,R3", "add:R1,R2,D3", "add:R1,D2,R3", "add:D1,D2,D3,D4", "add:D1,D2,", "add:,D1,D2", "add:D1,,D2", "add:D1,1,1.0", "add:D1,X0,D2", "add:D1,D2,X0", "add:E0,1,1", "add:C0,1,1", "sub:D1,-5,--5", "mul:R1,R2,2", "div:D1,D2,0.0", "add:D1+D2", "D1+D2",
		"rem:R1,R2,R3", "rem:R1,1.0,1.0", "rem:D1,R2,R3", "rem:D1,1", "rem:R1,D2,D3", "real:R0,1.0", "real:D0,1", "real:R0,R1", "real:R0,nan", "real:R0", "real:R0,1,2", "real:D0,R0", "whole:D0,1", "whole:R0,1.0", "whole:D0,D1", "whole:R0,D1", "whole:D0", "whole:D0,T1", "whole:R0,R1", "real:R0,X0", "whole:D0,X0",
		"jump:Y0", "in:X0", "X0 ", " X0", "X0\x00", "\x00X0", "X0\xff", "\xff", "\xffX0", "/\xff", "out:\xff", "ｏut:Y0", "out：Y0", "out:Y０", "D1＜D2", "−X0:E1", "é", "/é", "out:é", "X0,X1", "X0:X1", "X0;", "X0X1", "X0=X1", "T0=T1=T2", "open:X0", "shut:X0", "less:D1,D2", "up:X0,E1",
	} {
		if isElemText(text) {
			t.Fatalf("%q is no wrong text", text)
		}
		checkElemRead(t, text)
	}
	for _, unit := range []string{":", ",", "<", "<=", ">", "=", "/", "+", "-", "X0", "X0:", "D1,", "D1<", "nan", "1", "\xff"} {
		for _, ahead := range []string{"", "+X0:", "D1<", "out:", "add:D1,"} {
			checkElemRead(t, ahead+strings.Repeat(unit, 20000))
		}
	}
}

// P9, with each byte ahead of, behind, within and in place of one of a text of each sort, and with each byte left out.
func TestElemOneByteMore(t *testing.T) {
	for _, text := range []string{
		"X3", "/T1", "+X1:E2", "-M6:E3", "D1<D2", "-5<=7", "0=T1", "-1<>-2", "R1>=-0.5", "nan>-inf", "-0.0<R1", "1.5=2.5",
		"out:M6", "set:S1", "reset:T1", "pulse:Y1,E2", "step:S1", "timer:T1,50", "hold:T0,0", "late:T1,3276", "count:C1,2",
		"move:R1,-0.0", "move:D1,-5", "add:D1,D2,5", "sub:R1,R2,-inf", "mul:D1,2,-2", "div:R1,1.5,nan", "rem:D1,T1,7", "real:R1,C1", "whole:D1,R1", "",
	} {
		if text != "" && !isElemText(text) {
			t.Fatalf("%q is no text of a contact or coil", text)
		}
		for at := 0; at <= len(text); at++ {
			if at < len(text) {
				checkElemRead(t, text[:at]+text[at+1:])
			}
			for b := range 256 {
				if b > 127 && b%16 != 0 {
					continue
				}
				more := string([]byte{byte(b)})
				checkElemRead(t, text[:at]+more+text[at:])
				if at < len(text) {
					checkElemRead(t, text[:at]+more+text[at+1:])
				}
			}
		}
	}
}

// P9, at texts put together of every beginning, operands and what may stand between.
func TestElemPutTogether(t *testing.T) {
	aheads := []string{"", "/", "+", "-", ":", ",", "<", " "}
	for _, k := range elemKinds {
		if k.name != "" {
			aheads = append(aheads, k.ahead, k.name)
		}
	}
	parts := []string{"", "X1", "Y1", "E1", "T1", "C1", "D1", "R1", "7", "-7", "0.5", "-0.0", "nan", "-inf"}
	betweens := []string{":", ",", "<", "<=", "=", "<>", ">=", ">", "==", " "}
	read := 0
	for _, ahead := range aheads {
		for _, a := range parts {
			checkElemRead(t, ahead+a)
			for _, between := range betweens {
				for _, b := range parts {
					checkElemRead(t, ahead+a+between+b)
					if _, ok := impl.ElemRead(ahead + a + between + b); ok {
						read++
					}
				}
			}
		}
	}
	if read == 0 {
		t.Error("none of them is read")
	}
}

// What a call is handed stays, also behind its end.
func TestElemHandedIn(t *testing.T) {
	for _, e := range okElems() {
		for _, n := range []int{0, 1, len(e.Args), len(e.Args) + 1} {
			room := append(slices.Clone(e.Args), arg(1, 7, 0), arg(99, 7, 7))
			before := slices.Clone(room)
			handed := impl.Elem{Op: e.Op, Args: room[:n]}
			impl.ElemIsContact(handed)
			impl.ElemIsCoil(handed)
			impl.ElemText(handed)
			if !slices.Equal(room, before) || handed.Op != e.Op || len(handed.Args) != n {
				t.Errorf("%v has become %v, %v", before, handed, room)
			}
		}
	}
}

// What a call hands back is its own: writing over it, with its spare room, changes no other answer.
func TestElemHandedBack(t *testing.T) {
	for _, text := range []string{"X0", "+X0:E1", "D1<D2", "timer:T1,50", "add:D1,D2,-5"} {
		first, _ := impl.ElemRead(text)
		second, _ := impl.ElemRead(text)
		kept := impl.Elem{Op: second.Op, Args: slices.Clone(second.Args)}
		for i, room := 0, first.Args[:cap(first.Args)]; i < len(room); i++ {
			room[i] = arg(99, 99, 99)
		}
		third, _ := impl.ElemRead(text)
		if !reflect.DeepEqual(second, kept) || !reflect.DeepEqual(third, kept) {
			t.Errorf("%q is read as %v, then as %v", text, second, third)
		}
	}
}
