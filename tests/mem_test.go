package tests

import (
	"fmt"
	"math"
	"math/big"
	"regexp"
	"slices"
	"strconv"
	"strings"
	"testing"

	"loop.example/stilscan/impl"
)

// sameMem holds two memories against each other by their fields, the real numbers by their bits.
func sameMem(a, b impl.Mem) bool {
	for n := range a.R {
		if !sameReal(a.R[n], b.R[n]) {
			return false
		}
	}
	a.R, b.R = [16]float64{}, [16]float64{}
	return a == b
}

// wantPlace counts a place round, among as many as there are of a kind.
func wantPlace(a impl.DevArg) int {
	size := roundOf(a.Kind)
	return int(new(big.Int).Mod(big.NewInt(int64(a.N)), big.NewInt(int64(size))).Int64())
}

func roundOf(kind int) int {
	if kind == impl.DevG {
		return 8
	}
	return devKinds[kind-1].size
}

// packedBit looks a bit up in the digits of a word.
func packedBit(word uint64, place int) bool { return fmt.Sprintf("%064b", word)[63-place] == '1' }

// withPackedBit writes a bit into the digits of a word.
func withPackedBit(word uint64, place int, b bool) uint64 {
	digits := []byte(fmt.Sprintf("%064b", word))
	digits[63-place] = '0'
	if b {
		digits[63-place] = '1'
	}
	word, _ = strconv.ParseUint(string(digits), 2, 64)
	return word
}

func wantBit(m impl.Mem, a impl.DevArg) bool {
	switch a.Kind {
	case impl.DevX:
		return packedBit(uint64(m.X), wantPlace(a))
	case impl.DevY:
		return packedBit(uint64(m.Y), wantPlace(a))
	case impl.DevM:
		return packedBit(m.M, wantPlace(a))
	case impl.DevS:
		return packedBit(uint64(m.S), wantPlace(a))
	case impl.DevE:
		return packedBit(uint64(m.E), wantPlace(a))
	case impl.DevG:
		return [8]bool{0: true, 2: !m.Ran, 3: m.Fault, 4: m.Time/500%2 == 1}[wantPlace(a)]
	case impl.DevT:
		return m.T[wantPlace(a)].Done
	case impl.DevC:
		return m.C[wantPlace(a)].Done
	}
	return false
}

func wantWholeOf(m impl.Mem, a impl.DevArg) int16 {
	count := 0
	switch a.Kind {
	case impl.DevT:
		count = int(m.T[wantPlace(a)].Count)
	case impl.DevC:
		count = int(m.C[wantPlace(a)].Count)
	case impl.DevD:
		return m.D[wantPlace(a)]
	case impl.DevInt:
		return countedRound(a.N)
	}
	if count > 32767 {
		return 32767
	}
	return int16(count)
}

func wantRealOf(m impl.Mem, a impl.DevArg) float64 {
	if a.Kind == impl.DevR {
		return m.R[wantPlace(a)]
	}
	return impl.RealArg(a)
}

func wantPut(m impl.Mem, a impl.DevArg, b bool) impl.Mem {
	switch a.Kind {
	case impl.DevY:
		m.Y = uint32(withPackedBit(uint64(m.Y), wantPlace(a), b))
	case impl.DevM:
		m.M = withPackedBit(m.M, wantPlace(a), b)
	case impl.DevS:
		m.S = uint16(withPackedBit(uint64(m.S), wantPlace(a), b))
	case impl.DevE:
		m.E = uint32(withPackedBit(uint64(m.E), wantPlace(a), b))
	}
	return m
}

// wantMemText writes the words in the document's order.
func wantMemText(m impl.Mem) string {
	var text strings.Builder
	for _, packed := range []struct {
		letter string
		word   uint64
	}{{"X", uint64(m.X)}, {"Y", uint64(m.Y)}, {"M", m.M}, {"S", uint64(m.S)}, {"E", uint64(m.E)}} {
		for n := range 64 {
			if packedBit(packed.word, n) {
				fmt.Fprintf(&text, " %s%d", packed.letter, n)
			}
		}
	}
	done, last := map[bool]string{true: "!"}, map[bool]string{true: "+"}
	for n, timer := range m.T {
		if timer.Done || timer.Count > 0 {
			fmt.Fprintf(&text, " T%d=%d%s", n, timer.Count, done[timer.Done])
		}
	}
	for n, counter := range m.C {
		if counter.Done || counter.Last || counter.Count > 0 {
			fmt.Fprintf(&text, " C%d=%d%s%s", n, counter.Count, done[counter.Done], last[counter.Last])
		}
	}
	for n, d := range m.D {
		if d != 0 {
			fmt.Fprintf(&text, " D%d=%d", n, d)
		}
	}
	for n, x := range m.R {
		if math.Float64bits(x) != 0 {
			fmt.Fprintf(&text, " R%d=%s", n, wantRealText(x))
		}
	}
	if m.Time > 0 {
		fmt.Fprintf(&text, " time=%d", m.Time)
	}
	if m.Ran {
		text.WriteString(" ran")
	}
	if m.Fault {
		text.WriteString(" fault")
	}
	return strings.TrimPrefix(text.String(), " ")
}

// memRanks has for each name the place of its word in the order of a text, from 1 on.
var memRanks = func() map[string]int {
	ranks := map[string]int{}
	for _, letter := range "XYMSETCDR" {
		for _, k := range devKinds {
			for n := range k.size {
				if k.letter == string(letter) {
					ranks[k.letter+strconv.Itoa(n)] = len(ranks) + 1
				}
			}
		}
	}
	for _, name := range []string{"time", "ran", "fault"} {
		ranks[name] = len(ranks) + 1
	}
	return ranks
}()

var plainNumber = regexp.MustCompile(`^(?:0|-?[1-9][0-9]{0,9})$`)

// isNumberText says whether a text is that of a whole number from low to high.
func isNumberText(text string, low, high int) bool {
	n, _ := strconv.Atoi(text)
	return plainNumber.MatchString(text) && n >= low && n <= high
}

// memWordRank is the rank of a word, and 0 of one that stands in no text.
func memWordRank(word string) int {
	name, value, valued := strings.Cut(word, "=")
	rank := memRanks[name]
	if rank == 0 {
		return 0
	}
	ok := false
	switch {
	case strings.Contains("XYMSE", name[:1]) || name == "ran" || name == "fault":
		ok = !valued
	case name == "time":
		ok = isNumberText(value, 1, 4294967295)
	case name[0] == 'T':
		ok = isNumberText(value, 1, 65535) || isNumberText(strings.TrimSuffix(value, "!"), 0, 65535) && strings.HasSuffix(value, "!")
	case name[0] == 'C':
		digits := strings.TrimRight(value, "!+")
		marks := value[len(digits):]
		ok = isNumberText(digits, 0, 65535) && slices.Contains([]string{"", "!", "+", "!+"}, marks) && value != "0"
	case name[0] == 'D':
		ok = isNumberText(value, -32768, 32767) && value != "0"
	case name[0] == 'R':
		ok = isRealText(value) && value != "0"
	}
	if !ok {
		return 0
	}
	return rank
}

// isMemText says by its words alone whether a text is one of a memory.
func isMemText(text string) bool {
	if text == "" {
		return true
	}
	last := 0
	for _, word := range strings.Split(text, " ") {
		rank := memWordRank(word)
		if rank <= last {
			return false
		}
		last = rank
	}
	return true
}

// fullMem has everything in it, each number as long as it can be written.
func fullMem() impl.Mem {
	m := impl.Mem{X: math.MaxUint32, Y: math.MaxUint32, M: math.MaxUint64, S: math.MaxUint16, E: math.MaxUint32, Time: math.MaxUint32, Ran: true, Fault: true}
	for n := range 16 {
		m.T[n] = impl.MemTimer{Done: true, Count: 65535}
		m.C[n] = impl.MemCounter{Done: true, Last: true, Count: 65535}
		m.R[n] = -(1<<53 - 1) * smallest
	}
	for n := range m.D {
		m.D[n] = -32768
	}
	return m
}

// plainMem has some of each kind on and some off.
func plainMem() impl.Mem {
	m := impl.Mem{X: 1<<31 | 5, Y: 1<<31 | 3, M: 1<<63 | 1<<32 | 6, S: 1<<15 | 1<<7 | 1, E: 1<<31 | 1<<16 | 2, Time: 1500, Ran: true}
	m.T = [16]impl.MemTimer{0: {Done: true, Count: 40000}, 1: {Done: false, Count: 7}, 2: {Done: true, Count: 0}, 15: {Done: false, Count: 32767}}
	m.C = [16]impl.MemCounter{0: {Done: true, Last: true, Count: 65535}, 1: {Done: false, Last: true, Count: 0}, 2: {Done: true, Last: false, Count: 3}, 3: {Done: false, Last: false, Count: 32768}, 15: {Done: true, Last: true, Count: 0}}
	m.D = [32]int16{0: -32768, 1: -7, 2: 5, 31: 32767}
	m.R = [16]float64{0: 2.5, 1: nan, 2: inf, 3: -inf, 4: minus0, 5: smallest, 6: -greatest, 15: 0.1}
	return m
}

// scatteredMem fills all fields by a fixed rule, and then keeps of them what is on in a pattern.
func scatteredMem(seed uint64, pattern uint64) impl.Mem {
	b := scattered(120)
	for i := range b {
		b[i] ^= seed * (2*uint64(i) + 1)
	}
	m := impl.Mem{X: uint32(b[0]) & uint32(pattern), Y: uint32(b[1]) & uint32(pattern>>3), M: b[2] & pattern, S: uint16(b[3]) & uint16(pattern>>7), E: uint32(b[4]) & uint32(pattern>>13), Time: uint32(b[5] & pattern), Ran: b[6]&pattern&8 > 0, Fault: b[6]&pattern&16 > 0}
	for n := range 16 {
		keep := pattern>>n&1 == 1
		if keep {
			m.T[n] = impl.MemTimer{Done: b[8+n]&1 > 0, Count: uint16(b[8+n] >> 8 & pattern)}
			m.C[n] = impl.MemCounter{Done: b[24+n]&1 > 0, Last: b[24+n]&2 > 0, Count: uint16(b[24+n] >> 8 & pattern)}
			m.R[n] = math.Float64frombits(b[40+n])
		}
		if pattern>>(16+n)&1 == 1 {
			m.D[n], m.D[31-n] = int16(b[56+n]), int16(b[72+n])
		}
	}
	return m
}

// fewMems are the memory with nothing in it, the one with everything, and some between.
func fewMems() []impl.Mem {
	list := []impl.Mem{{}, fullMem(), plainMem(), {Ran: true}, {Fault: true, Time: 499}}
	for i, pattern := range []uint64{math.MaxUint64, 0x0123456789abcdef, 0x8000000180018001} {
		list = append(list, scatteredMem(uint64(i)+3, pattern))
	}
	return list
}

var (
	edgeCounts = []uint16{0, 1, 9, 10, 32766, 32767, 32768, 32769, 65534, 65535}
	edgeTimes  = []uint32{0, 1, 499, 500, 501, 999, 1000, 1001, 1499, 1500, 1999, 2000, 65535, 65536, 1 << 31, 4294967294, 4294967295}
)

// nextMems are all the memories that are m with one thing put to another value: each device, and each field beside them.
func nextMems(m impl.Mem) []impl.Mem {
	list := []impl.Mem{m, m}
	list[0].Ran, list[1].Fault = !m.Ran, !m.Fault
	add := func(change func(m *impl.Mem)) {
		next := m
		change(&next)
		list = append(list, next)
	}
	for n := range 64 {
		add(func(m *impl.Mem) { m.M ^= 1 << n })
	}
	for n := range 32 {
		add(func(m *impl.Mem) { m.X ^= 1 << n })
		add(func(m *impl.Mem) { m.Y ^= 1 << n })
		add(func(m *impl.Mem) { m.E ^= 1 << n })
		for _, d := range []int16{0, 1, -1, 10, 32767, -32768, -32767} {
			add(func(m *impl.Mem) { m.D[n] = d })
		}
	}
	for n := range 16 {
		add(func(m *impl.Mem) { m.S ^= 1 << n })
		for _, count := range edgeCounts {
			for _, marks := range [][2]bool{{false, false}, {false, true}, {true, false}, {true, true}} {
				add(func(m *impl.Mem) { m.T[n] = impl.MemTimer{Done: marks[0], Count: count} })
				add(func(m *impl.Mem) { m.C[n] = impl.MemCounter{Done: marks[0], Last: marks[1], Count: count} })
			}
		}
		for _, x := range []float64{0, minus0, nan, math.Copysign(nan, -1), math.Float64frombits(0x7ff0000000000001), inf, -inf, smallest, -smallest, greatest, -greatest, normal, 1, -1, 0.1, 2.5} {
			add(func(m *impl.Mem) { m.R[n] = x })
		}
	}
	for _, time := range edgeTimes {
		add(func(m *impl.Mem) { m.Time = time })
	}
	return list
}

// manyMems are those few, what is next to them, and scattered ones of every fullness.
func manyMems() []impl.Mem {
	list := fewMems()
	for _, m := range fewMems()[:3] {
		list = append(list, nextMems(m)...)
	}
	for i, b := range scattered(400) {
		list = append(list, scatteredMem(uint64(i), b), scatteredMem(uint64(i), b&(b>>17)&(b<<11)), scatteredMem(uint64(i), b|b>>9))
	}
	for n, x := range edgeReals() {
		var m impl.Mem
		m.R[n%16] = x
		list = append(list, m)
	}
	return list
}

// farPlaces are N at the bounds of a kind, those next to them and far away, of both signs.
func farPlaces(size int) []int {
	list := []int{math.MinInt, math.MinInt + 1, math.MinInt + size - 1, math.MaxInt, math.MaxInt - 1, math.MaxInt - size, 1 << 32, 1<<32 + 1, -1 << 32, -1<<32 - 1, 1<<40 + 3, -1<<40 - 3, 1000003, -1000003, 256, -256, 65536, -65536, 32768, -32769}
	for n := -2*size - 1; n <= 2*size+1; n++ {
		list = append(list, n)
	}
	return list
}

// manyAsked are operands of every kind, ok or not, and of kinds that are none.
func manyAsked() []impl.DevArg {
	var list []impl.DevArg
	for _, k := range devKinds {
		for i, n := range farPlaces(max(k.size, 8)) {
			list = append(list, arg(k.kind, n, 0))
			if i%5 == 0 {
				list = append(list, arg(k.kind, n, 1), arg(k.kind, n, -1), arg(k.kind, n, math.MaxInt))
			}
		}
	}
	for _, kind := range noKinds {
		for _, n := range []int{0, 1, 5, -1, math.MinInt, math.MaxInt} {
			list = append(list, arg(kind, n, 0), arg(kind, n, 1))
		}
	}
	return append(list, arg(12, 5, 1), arg(12, -25, 2), arg(12, 50, 2), arg(12, 999999999, 6), arg(12, 5, 7))
}

// allDevices are all that there are of each kind.
func allDevices() []impl.DevArg {
	var list []impl.DevArg
	for _, k := range devKinds {
		for n := range k.size {
			list = append(list, arg(k.kind, n, 0))
		}
	}
	return list
}

func checkMemRead(t *testing.T, text string) {
	t.Helper()
	m, ok := impl.MemRead(text)
	if ok != isMemText(text) {
		t.Errorf("MemRead(%.80q) says %v", text, ok)
	}
	if !ok && !sameMem(m, impl.Mem{}) {
		t.Errorf("MemRead(%.80q) leaves %q beside a false", text, wantMemText(m))
	}
	if ok && (impl.MemText(m) != text || wantMemText(m) != text) {
		t.Errorf("MemRead(%.80q) reads what is written %q, and is %q", text, impl.MemText(m), wantMemText(m))
	}
}

func TestMemTextEdges(t *testing.T) {
	if impl.MemMaxText != 6000 {
		t.Error("bounds")
	}
	for text, m := range map[string]impl.Mem{
		"": {}, "X0": {X: 1}, "X31": {X: 1 << 31}, "Y0 Y31": {Y: 1<<31 | 1}, "M0 M31 M32 M63": {M: 1<<63 | 1<<32 | 1<<31 | 1}, "S0 S15": {S: 1<<15 | 1}, "E0 E31": {E: 1<<31 | 1},
		"X2 X10": {X: 1<<10 | 4}, "X1 Y0 M0 S0 E0": {X: 2, Y: 1, M: 1, S: 1, E: 1},
		"T0=1": {T: [16]impl.MemTimer{{Count: 1}}}, "T0=0!": {T: [16]impl.MemTimer{{Done: true}}}, "T15=65535!": {T: [16]impl.MemTimer{15: {Done: true, Count: 65535}}}, "T2=32768 T10=32767": {T: [16]impl.MemTimer{2: {Count: 32768}, 10: {Count: 32767}}},
		"C0=1": {C: [16]impl.MemCounter{{Count: 1}}}, "C0=0!": {C: [16]impl.MemCounter{{Done: true}}}, "C0=0+": {C: [16]impl.MemCounter{{Last: true}}}, "C0=0!+": {C: [16]impl.MemCounter{{Done: true, Last: true}}}, "C15=65535!+": {C: [16]impl.MemCounter{15: {Done: true, Last: true, Count: 65535}}}, "C1=7+ C2=7!": {C: [16]impl.MemCounter{1: {Last: true, Count: 7}, 2: {Done: true, Count: 7}}},
		"D0=-32768 D31=32767": {D: [32]int16{0: -32768, 31: 32767}}, "D1=-1": {D: [32]int16{1: -1}},
		"R0=nan": {R: [16]float64{nan}}, "R15=-0": {R: [16]float64{15: minus0}}, "R1=inf R2=-inf": {R: [16]float64{1: inf, 2: -inf}}, "R0=1*2^-1074": {R: [16]float64{smallest}}, "R0=9007199254740991*2^971": {R: [16]float64{greatest}}, "R3=-5*2^-1": {R: [16]float64{3: -2.5}},
		"time=1": {Time: 1}, "time=4294967295": {Time: 4294967295}, "ran": {Ran: true}, "fault": {Fault: true}, "ran fault": {Ran: true, Fault: true}, "time=500 fault": {Time: 500, Fault: true},
		"E31 T0=5 C0=5 D0=5 R0=5*2^0 time=5 ran fault": {E: 1 << 31, T: [16]impl.MemTimer{{Count: 5}}, C: [16]impl.MemCounter{{Count: 5}}, D: [32]int16{5}, R: [16]float64{5}, Time: 5, Ran: true, Fault: true},
	} {
		if s := impl.MemText(m); s != text {
			t.Errorf("MemText is %q, not %q", s, text)
		}
		if back, ok := impl.MemRead(text); !ok || !sameMem(back, m) {
			t.Errorf("MemRead(%q) is %q, %v", text, wantMemText(back), ok)
		}
		checkMemRead(t, text)
	}
}

// P12: each memory is read from its text, and no two have one text.
func TestMemWrittenIsRead(t *testing.T) {
	writtenBy := map[string]impl.Mem{}
	longest := 0
	for _, m := range manyMems() {
		text := impl.MemText(m)
		longest = max(longest, len(text))
		if want := wantMemText(m); text != want {
			t.Errorf("MemText is %q, not %q", text, want)
		}
		if back, ok := impl.MemRead(text); !ok || !sameMem(back, m) {
			t.Errorf("MemRead(%q) is %q, %v", text, wantMemText(back), ok)
		}
		if other, twice := writtenBy[text]; twice && !sameMem(other, m) {
			t.Errorf("two memories are %q", text)
		}
		writtenBy[text] = m
	}
	if full := len(impl.MemText(fullMem())); longest != full || full > impl.MemMaxText {
		t.Errorf("the longest text has %d bytes, that of everything %d", longest, full)
	}
}

// P13, at two memories of any sort.
func checkMemSame(t *testing.T, a, b impl.Mem) {
	t.Helper()
	want := sameMem(a, b)
	if impl.MemSame(a, b) != want || impl.MemSame(b, a) != want {
		t.Errorf("MemSame is %v and %v of %q and %q", impl.MemSame(a, b), impl.MemSame(b, a), wantMemText(a), wantMemText(b))
	}
	if want != (impl.MemText(a) == impl.MemText(b)) {
		t.Errorf("%q and %q are the same: %v", impl.MemText(a), impl.MemText(b), want)
	}
}

func TestMemSame(t *testing.T) {
	for _, a := range fewMems() {
		for _, b := range fewMems() {
			checkMemSame(t, a, b)
		}
		for _, b := range nextMems(a) {
			checkMemSame(t, a, b)
		}
	}
	many := manyMems()
	for i, a := range many {
		checkMemSame(t, a, a)
		checkMemSame(t, a, many[(i*31+7)%len(many)])
	}
}

// P13: real numbers are the same as values, each against each, at the first and the last place.
func TestMemSameReals(t *testing.T) {
	for _, x := range edgeReals() {
		for _, y := range edgeReals() {
			checkMemSame(t, impl.Mem{R: [16]float64{x}}, impl.Mem{R: [16]float64{y}})
			checkMemSame(t, impl.Mem{R: [16]float64{15: x}}, impl.Mem{R: [16]float64{15: y}})
		}
	}
	one, two := fullMem(), fullMem()
	for n := range one.R {
		one.R[n], two.R[n] = nan, math.Float64frombits(0xfff0000000000000+uint64(n)+1)
	}
	checkMemSame(t, one, two)
	two.R[7] = minus0
	checkMemSame(t, one, two)
}

func TestMemAsked(t *testing.T) {
	asked := manyAsked()
	for _, m := range fewMems() {
		for _, a := range asked {
			if b := impl.MemBit(m, a); b != wantBit(m, a) {
				t.Errorf("MemBit of %v is %v in %q", a, b, wantMemText(m))
			}
			if v := impl.MemWhole(m, a); v != wantWholeOf(m, a) {
				t.Errorf("MemWhole of %v is %v in %q", a, v, wantMemText(m))
			}
			if x := impl.MemReal(m, a); !sameReal(x, wantRealOf(m, a)) {
				t.Errorf("MemReal of %v is %v in %q", a, x, wantMemText(m))
			}
		}
	}
}

func TestMemBitEdges(t *testing.T) {
	half := map[uint32]bool{0: false, 499: false, 500: true, 999: true, 1000: false, 1499: false, 1500: true, 4294967295: false, 4294966999: true, 4294966500: true, 4294967000: false}
	for time, want := range half {
		if b := impl.MemBit(impl.Mem{Time: time}, arg(6, 4, 0)); b != want {
			t.Errorf("G4 is %v at time %d", b, time)
		}
	}
	for _, m := range []impl.Mem{{}, {Ran: true}, {Fault: true}, {Ran: true, Fault: true}, fullMem()} {
		for n, want := range []bool{true, false, !m.Ran, m.Fault, false, false, false, false} {
			for _, far := range []int{0, 8, -8, 8000, -8000, math.MinInt} {
				if b := impl.MemBit(m, arg(6, n+far, 0)); b != want {
					t.Errorf("G%d is %v, Ran %v, Fault %v", n+far, b, m.Ran, m.Fault)
				}
			}
		}
	}
	// Beyond G4 there is nothing, also where 5 would lead back to G0.
	for _, n := range []int{5, 6, 7, -1, -2, -3, 13, -11} {
		if impl.MemBit(impl.Mem{Fault: true, Time: 500}, arg(6, n, 0)) {
			t.Errorf("G%d is on", n)
		}
	}
}

func TestMemWholeEdges(t *testing.T) {
	for count, want := range map[uint16]int16{0: 0, 1: 1, 32766: 32766, 32767: 32767, 32768: 32767, 32769: 32767, 65535: 32767} {
		m := impl.Mem{T: [16]impl.MemTimer{3: {Count: count}}, C: [16]impl.MemCounter{4: {Count: count}}}
		if v, w := impl.MemWhole(m, arg(7, 3, 0)), impl.MemWhole(m, arg(8, 4, 0)); v != want || w != want {
			t.Errorf("a count of %d is %d, and %d", count, v, w)
		}
		if v, w := impl.MemWhole(m, arg(7, 4, 0)), impl.MemWhole(m, arg(8, 3, 0)); v != 0 || w != 0 {
			t.Errorf("beside a count of %d there are %d and %d", count, v, w)
		}
	}
	for n, want := range map[int]int16{0: 0, 5: 5, -5: -5, 32767: 32767, 32768: -32768, -32768: -32768, -32769: 32767, 65535: -1, 65536: 0, 65537: 1, -65536: 0, 98304: -32768, 1 << 40: 0, 1<<40 + 7: 7, math.MaxInt: -1, math.MinInt: 0} {
		if v := impl.MemWhole(fullMem(), arg(11, n, 0)); v != want {
			t.Errorf("%d is counted round to %d, not %d", n, v, want)
		}
		if v := impl.MemWhole(impl.Mem{}, arg(11, n, 3)); v != want {
			t.Errorf("%d is counted round to %d with a P, not %d", n, v, want)
		}
	}
}

func TestMemRealEdges(t *testing.T) {
	m := plainMem()
	for _, c := range []struct {
		a impl.DevArg
		x float64
	}{
		{arg(10, 0, 0), 2.5}, {arg(10, 16, 0), 2.5}, {arg(10, -16, 0), 2.5}, {arg(10, 0, 5), 2.5}, {arg(10, 1, 0), nan}, {arg(10, 2, 0), inf}, {arg(10, 3, 0), -inf}, {arg(10, 4, 0), minus0}, {arg(10, 5, 0), smallest}, {arg(10, 6, 0), -greatest}, {arg(10, 7, 0), 0}, {arg(10, -1, 0), 0.1}, {arg(10, 31, 0), 0.1},
		{arg(12, 5, 1), 0.5}, {arg(12, -25, 1), -2.5}, {arg(12, 5, 0), 0}, {arg(12, 50, 2), 0}, {arg(12, 5, 7), 0}, {arg(12, 1000000000, 1), 0},
		{arg(13, 0, 0), nan}, {arg(13, 1, 0), inf}, {arg(13, 2, 0), -inf}, {arg(13, 3, 0), minus0}, {arg(13, 4, 0), 0}, {arg(13, -1, 0), 0}, {arg(13, 1, 1), 0},
		{arg(9, 1, 0), 0}, {arg(11, 5, 0), 0}, {arg(7, 0, 0), 0}, {arg(1, 0, 0), 0}, {arg(0, 0, 0), 0}, {arg(14, 0, 0), 0}, {arg(266, 0, 0), 0}, {arg(-10, 0, 0), 0},
	} {
		if x := impl.MemReal(m, c.a); !sameReal(x, c.x) {
			t.Errorf("MemReal of %v is %v, not %v", c.a, x, c.x)
		}
	}
}

// P14: as far on as there are devices of its kind an operand asks for the same, and puts the same.
func TestMemCountedRound(t *testing.T) {
	for _, m := range fewMems() {
		for _, k := range devKinds[:10] {
			round := roundOf(k.kind)
			for n := range round {
				a := arg(k.kind, n, 0)
				for _, on := range []int{round, -round, 2 * round, 1001 * round, -1001 * round, round << 40, -round << 40, math.MinInt} {
					b := arg(k.kind, n+on, 0)
					if impl.MemBit(m, a) != impl.MemBit(m, b) || impl.MemWhole(m, a) != impl.MemWhole(m, b) || !sameReal(impl.MemReal(m, a), impl.MemReal(m, b)) {
						t.Errorf("%v and %v ask for two things in %q", a, b, wantMemText(m))
					}
					if !sameMem(impl.MemPut(m, a, true), impl.MemPut(m, b, true)) || !sameMem(impl.MemPut(m, a, false), impl.MemPut(m, b, false)) {
						t.Errorf("%v and %v are put as two bits", a, b)
					}
					if !sameMem(impl.MemPutWhole(m, a, 77), impl.MemPutWhole(m, b, 77)) || !sameMem(impl.MemPutReal(m, a, 7.5), impl.MemPutReal(m, b, 7.5)) {
						t.Errorf("%v and %v are put as two numbers", a, b)
					}
				}
			}
		}
	}
}

// checkOthers holds the second half of P11: of all devices just the one at the place of a may be asked for something else.
func checkOthers(t *testing.T, before, behind impl.Mem, a impl.DevArg) {
	t.Helper()
	for _, other := range allDevices() {
		if other.Kind == a.Kind && other.N == wantPlace(a) {
			continue
		}
		if impl.MemBit(before, other) != impl.MemBit(behind, other) || impl.MemWhole(before, other) != impl.MemWhole(behind, other) || !sameReal(impl.MemReal(before, other), impl.MemReal(behind, other)) {
			t.Errorf("%v is touched where %v is put", other, a)
		}
	}
	before.Y, before.M, before.S, before.E, before.D, before.R = behind.Y, behind.M, behind.S, behind.E, behind.D, behind.R
	if !sameMem(before, behind) {
		t.Errorf("an input, timer, counter, Time, Ran or Fault is touched where %v is put", a)
	}
}

// P11, at each bit that can be put.
func TestMemPutBits(t *testing.T) {
	for i, m := range fewMems() {
		for _, kind := range []int{impl.DevY, impl.DevM, impl.DevS, impl.DevE} {
			for _, n := range farPlaces(roundOf(kind)) {
				a := arg(kind, n, n%3)
				for _, b := range []bool{true, false} {
					behind := impl.MemPut(m, a, b)
					if impl.MemBit(behind, a) != b {
						t.Errorf("%v is put to %v, and is not", a, b)
					}
					if !sameMem(behind, wantPut(m, a, b)) {
						t.Errorf("MemPut of %v, %v makes %q of %q", a, b, wantMemText(behind), wantMemText(m))
					}
					if i < 3 && n >= -1 && n <= roundOf(kind) {
						checkOthers(t, m, behind, a)
					}
					if !sameMem(impl.MemPut(behind, a, wantBit(m, a)), m) {
						t.Errorf("%v is put and put back, and the memory is another", a)
					}
				}
			}
		}
	}
}

// P11, at each register.
func TestMemPutNumbers(t *testing.T) {
	for i, m := range fewMems() {
		for _, n := range farPlaces(32) {
			d, r := arg(9, n, n%3), arg(10, n, n%3)
			for _, v := range []int16{0, 1, -1, 32767, -32768} {
				behind, want := impl.MemPutWhole(m, d, v), m
				want.D[wantPlace(d)] = v
				if impl.MemWhole(behind, d) != v || !sameMem(behind, want) {
					t.Errorf("MemPutWhole of %v, %d makes %q of %q", d, v, wantMemText(behind), wantMemText(m))
				}
				if i < 3 && n >= -1 && n <= 32 {
					checkOthers(t, m, behind, d)
				}
			}
			for _, x := range []float64{0, minus0, nan, inf, -inf, smallest, -greatest, 2.5} {
				behind, want := impl.MemPutReal(m, r, x), m
				want.R[wantPlace(r)] = x
				if !sameReal(impl.MemReal(behind, r), x) || !sameMem(behind, want) {
					t.Errorf("MemPutReal of %v, %v makes %q of %q", r, x, wantMemText(behind), wantMemText(m))
				}
				if i < 3 && n >= -1 && n <= 16 {
					checkOthers(t, m, behind, r)
				}
			}
		}
	}
}

// P11: what a call is not for it leaves as it is, and what it is handed too.
func TestMemPutNothing(t *testing.T) {
	for _, m := range fewMems() {
		before := m
		for _, a := range manyAsked() {
			bit := a.Kind == impl.DevY || a.Kind == impl.DevM || a.Kind == impl.DevS || a.Kind == impl.DevE
			if !bit && !(sameMem(impl.MemPut(m, a, true), m) && sameMem(impl.MemPut(m, a, false), m)) {
				t.Errorf("MemPut puts %v", a)
			}
			if a.Kind != impl.DevD && !(sameMem(impl.MemPutWhole(m, a, 77), m) && sameMem(impl.MemPutWhole(m, a, 0), m)) {
				t.Errorf("MemPutWhole puts %v", a)
			}
			if a.Kind != impl.DevR && !(sameMem(impl.MemPutReal(m, a, 7.5), m) && sameMem(impl.MemPutReal(m, a, 0), m)) {
				t.Errorf("MemPutReal puts %v", a)
			}
			impl.MemPut(m, a, true)
			impl.MemPutWhole(m, a, 77)
			impl.MemPutReal(m, a, 7.5)
		}
		impl.MemText(m)
		impl.MemSame(m, before)
		if !sameMem(m, before) {
			t.Errorf("%q has become %q", wantMemText(before), wantMemText(m))
		}
	}
}

// What is put behind each other is all there, and nothing of one memory is in another.
func TestMemPutTogether(t *testing.T) {
	var m impl.Mem
	var want impl.Mem
	for i, b := range scattered(3000) {
		a := arg(1+int(b%13), int(b>>8), int(b>>5%3))
		kept := m
		switch i % 3 {
		case 0:
			m, want = impl.MemPut(m, a, b>>60&1 == 1), wantPut(want, a, b>>60&1 == 1)
		case 1:
			a.Kind = impl.DevD
			m = impl.MemPutWhole(m, a, int16(b>>40))
			want.D[wantPlace(a)] = int16(b >> 40)
		case 2:
			a.Kind = impl.DevR
			m = impl.MemPutReal(m, a, math.Float64frombits(b))
			want.R[wantPlace(a)] = math.Float64frombits(b)
		}
		if !sameMem(m, want) {
			t.Fatalf("behind %d puts it is %q, not %q", i+1, wantMemText(m), wantMemText(want))
		}
		if back, ok := impl.MemRead(impl.MemText(kept)); !ok || !sameMem(back, kept) {
			t.Fatalf("what it was ahead of put %d is changed", i+1)
		}
	}
}

func TestMemWrongTexts(t *testing.T) {
	for _, text := range []string{
		" ", "  ", "X0 ", " X0", "X0  X1", "X0\tX1", "X0\nX1", "X0,X1", "X0X1", "X0\n", "\nX0", "X0\u00a0X1", "ran  fault", "ran ", " ran", "time=5 ", " time=5", "T1=5 ", "D1=5  D2=5",
		"X1 X0", "X0 X0", "X10 X2", "Y0 X0", "M0 Y0", "S0 M0", "E0 S0", "T0=1 E0", "T1=1 T0=1", "T0=1 T0=1", "T0=1 T0=2", "T10=1 T2=1", "C0=1 T0=1", "C1=1 C0=1", "C0=1 C0=1", "D0=1 C0=1", "D1=1 D0=1", "D0=1 D0=1", "D0=1 D0=2", "R0=inf D0=1", "R1=inf R0=inf", "R0=nan R0=nan", "time=1 R0=inf", "time=1 time=1", "time=1 time=2", "ran time=1", "ran ran", "fault ran", "fault fault", "fault X0", "ran X0", "time=1 X0", "R0=nan X0", "D0=1 T0=1",
		"X32", "Y32", "M64", "S16", "E32", "T16=1", "C16=1", "D32=1", "R16=inf", "X-1", "T-1=1", "X01", "X00", "M063", "T01=5", "C00=5", "D01=5", "R01=inf", "X4294967296", "X18446744073709551616",
		"G0", "G4", "G1=1", "T1", "C1", "D1", "R1", "T1!", "C1!", "C1+", "T1=", "C1=", "D1=", "R1=", "time", "time=", "T1=!", "C1=!", "C1=+", "C1=!+", "D1=!", "=", "=5", "X0=", "X0=1", "X0=0", "X0!", "E1=1", "Y0+", "ran=", "ran=1", "ran=true", "fault=", "fault=1", "ran!", "time5", "time:5", "T1==5", "T1=5=5", "T1 =5", "T1= 5", "T1:5", "D1=5!", "D1=5+", "R1=5*2^0!", "R1=inf+", "time=5!", "time=5+",
		"T1=0", "C1=0", "D1=0", "R1=0", "time=0", "T1=00", "D1=-0", "D1=00", "R1=+0", "R1=0.0", "R1=-0.0", "time=00",
		"T1=01", "T1=05!", "C1=007", "D1=05", "D1=-05", "R1=01*2^0", "R1=1*2^00", "time=01", "time=0500", "T1=00!", "C1=00+", "C1=00!+",
		"T1=65536", "T1=65536!", "T1=131071", "C1=65536", "C1=65541+", "D1=32768", "D1=-32769", "D1=65535", "D1=65541", "time=4294967296", "time=4294967301", "time=18446744073709551617", "T1=18446744073709551617", "D1=18446744073709551617", "T1=340282366920938463463374607431768211457",
		"T1=+5", "T1=-5", "C1=+5", "C1=-5", "D1=+5", "D1=--5", "D1=5-", "time=+5", "time=-5", "R1=+5*2^0", "R1=+inf", "T1=-0!", "C1=-0+", "T1=+0!",
		"R1=5", "R1=0.5", "R1=2.5", "R1=2*2^0", "R1=4*2^-1", "R1=0*2^0", "R1=NaN", "R1=-nan", "R1=Inf", "R1=1*2^1024", "R1=1*2^-1075", "R1=9007199254740993*2^0", "R1=1*2", "R1=5*2^", "R1=1*2^0*2^0", "R1=1e3", "D1=1e3", "D1=0x5", "D1=1_0", "D1=5.0", "D1=1*2^0", "T1=5.0", "T1=5e0", "time=5.0", "time=1e3",
		"T1=5+", "T1=5!+", "T1=5+!", "T1=5!!", "T1=!5", "T1=0+", "C1=0+!", "C1=5+!", "C1=5!!", "C1=5++", "C1=5!+!", "C1=5!++", "C1=!5", "C1=+5+", "C1=5 +", "C1=5 !", "C1=5+ !",
		"x0", "m1", "t1=5", "Q1", "Q1=5", "Z", "X", "XX", "X0Y", "Ran", "RAN", "Fault", "run", "rans", "faults", "fault.", "Time=5", "TIME=5", "times=5", "tim=5", "0", "5", "-5", "0.5", "nan", "inf", "-0.0", "nothing", "empty", "X0 nothing", "nothing X0", "X0 5 Y0", "X0 nan", "X0 G0 E0", "X0 G0", "G0 T1=5",
		"\x00", "X0\x00", "X\x000", "\xff", "X0\xff", "\xffX0", "X0 \xff", "T1=\xff", "T1=5\xff", "é", "X０", "Ｘ0", "T1＝5", "D1=−5", "T1=５", "time=５", "T1=5！", "R1=∞", "\ufffd", "\ufeffX0", "X0\u200b",
	} {
		if isMemText(text) {
			t.Fatalf("%q is no wrong text", text)
		}
		checkMemRead(t, text)
	}
}

// P12, with a space or a word more at each place of a text, each word left out, twice, and changed with its neighbour.
func TestMemWordsMoved(t *testing.T) {
	for _, m := range append(fewMems(), scatteredMem(9, 0x1111111111111111)) {
		words := strings.Split(impl.MemText(m), " ")
		for i := range words {
			var moved [][]string
			for _, word := range []string{"", "X0", "E31", "T0=1", "R15=-0", "time=5", "ran", "fault", "Q", words[i]} {
				moved = append(moved, slices.Insert(slices.Clone(words), i, word))
			}
			moved = append(moved, slices.Delete(slices.Clone(words), i, i+1), append(slices.Clone(words), words[i]))
			if i > 0 {
				changed := slices.Clone(words)
				changed[i], changed[i-1] = changed[i-1], changed[i]
				moved = append(moved, changed)
			}
			for _, list := range moved {
				checkMemRead(t, strings.Join(list, " "))
			}
		}
	}
}

// P12: of two words, each with each, those in the order of the text are read.
func TestMemWordOrder(t *testing.T) {
	words := []string{"X0", "X2", "X10", "X31", "Y0", "Y31", "M0", "M9", "M10", "M63", "S0", "S15", "E0", "E31", "T0=1", "T2=0!", "T15=65535!", "C0=0+", "C3=1", "C15=0!+", "D0=1", "D2=-1", "D31=32767", "R0=nan", "R2=-0", "R15=1*2^-1074", "time=1", "ran", "fault"}
	for i, first := range words {
		checkMemRead(t, first)
		for j, second := range words {
			text := first + " " + second
			checkMemRead(t, text)
			if _, ok := impl.MemRead(text); ok != (i < j) {
				t.Errorf("MemRead(%q) says %v", text, ok)
			}
			for _, third := range words {
				checkMemRead(t, text+" "+third)
			}
		}
	}
}

// P12, at counts with all marks and at registers, round each bound and each power of 10, of both signs, and some between.
func TestMemCounts(t *testing.T) {
	list := []int{}
	for n := -99900; n <= 99900; n += 333 {
		list = append(list, n)
	}
	for _, bound := range []int{0, 10, 100, 1000, 10000, 32768, 65536, 100000} {
		for n := bound - 12; n <= bound+12; n++ {
			list = append(list, n, -n)
		}
	}
	for _, n := range list {
		digits := strconv.Itoa(n)
		for _, text := range []string{"T3=" + digits, "T3=" + digits + "!", "C4=" + digits, "C4=" + digits + "!", "C4=" + digits + "+", "C4=" + digits + "!+", "D5=" + digits} {
			checkMemRead(t, text)
		}
	}
}

// P12, with each byte ahead of, behind, within and in place of one of a text, and with each byte left out.
func TestMemOneByteMore(t *testing.T) {
	for _, text := range []string{
		"X0 X2 M63 E1 T1=40000! C2=0+ D1=-7 R0=5*2^-1 R15=-0 time=1500 ran", "Y3 S1 T0=0! T1=6553 C0=1!+ D3=3276 ran fault", "R1=nan R2=-inf time=429496729", "X1", "T1=0!", "C1=0!+", "fault", "",
	} {
		if !isMemText(text) {
			t.Fatalf("%q is no text of a memory", text)
		}
		for at := 0; at <= len(text); at++ {
			if at < len(text) {
				checkMemRead(t, text[:at]+text[at+1:])
			}
			for b := range 256 {
				more := string([]byte{byte(b)})
				checkMemRead(t, text[:at]+more+text[at:])
				if at < len(text) {
					checkMemRead(t, text[:at]+more+text[at+1:])
				}
			}
		}
	}
}

// Texts of MemMaxText bytes, one fewer, one more and many more: none is a memory's, as everything is written in fewer.
func TestMemLongTexts(t *testing.T) {
	full := impl.MemText(fullMem())
	for _, size := range []int{impl.MemMaxText - 1, impl.MemMaxText, impl.MemMaxText + 1, 100 * impl.MemMaxText} {
		for _, unit := range []string{" ", "X0", "X0 ", "ran ", "R1=1*2^-1074 ", "T1=", "0", "9", "=", "!", "+", "\xff", full + " "} {
			for _, ahead := range []string{"", "X0 ", "T1=5", "D1=", "R1=", "time=", "time=5", "ran", full, full + " "} {
				text := (ahead + strings.Repeat(unit, size/len(unit)+1))[:size]
				checkMemRead(t, text)
				if m, ok := impl.MemRead(text); ok || !sameMem(m, impl.Mem{}) {
					t.Errorf("a text of %d bytes is read", len(text))
				}
			}
		}
	}
	checkMemRead(t, full)
}
