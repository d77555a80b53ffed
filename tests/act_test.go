package tests

import (
	"math"
	"slices"
	"testing"

	"loop.example/stilscan/impl"
)

// operand is the operand at a place of a contact or coil, and nothing where there is none.
func operand(e impl.Elem, place int) impl.DevArg {
	if place < len(e.Args) {
		return e.Args[place]
	}
	return impl.DevArg{}
}

// wantKept is what an E keeps, and false of any other operand.
func wantKept(m impl.Mem, a impl.DevArg) bool { return a.Kind == impl.DevE && wantBit(m, a) }

// wantPutE puts an E alone, and wantPutNoE all but an E.
func wantPutE(m impl.Mem, a impl.DevArg, b bool) impl.Mem {
	if a.Kind != impl.DevE {
		return m
	}
	return wantPut(m, a, b)
}

func wantPutNoE(m impl.Mem, a impl.DevArg, b bool) impl.Mem {
	if a.Kind == impl.DevE {
		return m
	}
	return wantPut(m, a, b)
}

// wantCut cuts a real number, if it is one of sixteen bits then.
func wantCut(x float64) (int16, bool) {
	whole := math.Trunc(x)
	if math.IsNaN(x) || whole < -32768 || whole > 32767 {
		return 0, false
	}
	return int16(whole), true
}

func isRealKind(kind int) bool {
	return kind == impl.DevR || kind == impl.DevDec || kind == impl.DevWord
}

// wantCompared is what the test of a place in the table of tests says of two operands.
func wantCompared(m impl.Mem, test int, a, b impl.DevArg) bool {
	if !isRealKind(a.Kind) {
		return cmpSigns[test].says(int(wantWholeOf(m, a)) - int(wantWholeOf(m, b)))
	}
	x, y := wantRealOf(m, a), wantRealOf(m, b)
	if math.IsNaN(x) || math.IsNaN(y) {
		return cmpSigns[test].text == "<>"
	}
	return cmpSigns[test].says(realOrder(x, y))
}

func wantSaid(m impl.Mem, e impl.Elem) (impl.Mem, bool) {
	a, b := operand(e, 0), operand(e, 1)
	switch {
	case e.Op == 1:
		return m, wantBit(m, a)
	case e.Op == 2:
		return m, !wantBit(m, a)
	case e.Op == 3:
		return wantPutE(m, b, wantBit(m, a)), wantBit(m, a) && !wantKept(m, b)
	case e.Op == 4:
		return wantPutE(m, b, wantBit(m, a)), !wantBit(m, a) && wantKept(m, b)
	case e.Op >= 5 && e.Op <= 10:
		return m, wantCompared(m, e.Op-5, a, b)
	}
	return m, false
}

// wantTimed is a timer behind one of the three coils that are for timers.
func wantTimed(op int, timer impl.MemTimer, preset int, v bool, dt uint16) impl.MemTimer {
	gone := min(int(timer.Count)+int(dt), preset)
	ran := impl.MemTimer{Done: gone >= preset, Count: uint16(gone)}
	switch {
	case op == 26 && v, op == 27 && v:
		return ran
	case op == 27:
		return timer
	case op == 28 && v:
		return impl.MemTimer{Done: true}
	case op == 28 && timer.Done && !ran.Done:
		return impl.MemTimer{Done: true, Count: uint16(gone)}
	}
	return impl.MemTimer{}
}

func wantCounted(counter impl.MemCounter, preset int, v bool) impl.MemCounter {
	count := int(counter.Count)
	if v && !counter.Last {
		count = min(count+1, 65535)
	}
	return impl.MemCounter{Done: count >= preset, Last: v, Count: uint16(count)}
}

func wantDone(m impl.Mem, e impl.Elem, v bool, dt uint16) impl.Mem {
	a, b := operand(e, 0), operand(e, 1)
	preset := max(int(wantWholeOf(m, b)), 0)
	switch {
	case e.Op == 21:
		return wantPutNoE(m, a, v)
	case e.Op == 24:
		return wantPutE(wantPutNoE(m, a, v && !wantKept(m, b)), b, v)
	case e.Op >= 26 && e.Op <= 28:
		if a.Kind == impl.DevT {
			m.T[wantPlace(a)] = wantTimed(e.Op, m.T[wantPlace(a)], preset, v, dt)
		}
		return m
	case e.Op == 29:
		if a.Kind == impl.DevC {
			m.C[wantPlace(a)] = wantCounted(m.C[wantPlace(a)], preset, v)
		}
		return m
	case v:
		return wantDriven(m, e, a, b)
	}
	return m
}

// wantDriven is the memory behind a coil that acts with current alone.
func wantDriven(m impl.Mem, e impl.Elem, a, b impl.DevArg) impl.Mem {
	switch {
	case e.Op == 22:
		return wantPutNoE(m, a, true)
	case e.Op == 23 && a.Kind == impl.DevT:
		m.T[wantPlace(a)] = impl.MemTimer{}
	case e.Op == 23 && a.Kind == impl.DevC:
		m.C[wantPlace(a)].Done, m.C[wantPlace(a)].Count = false, 0
	case e.Op == 23:
		return wantPutNoE(m, a, false)
	case e.Op == 25 && a.Kind == impl.DevS && wantPlace(a) < 8:
		m.S = m.S&0xff00 | 1<<wantPlace(a)
	case e.Op == 25 && a.Kind == impl.DevS:
		m.S = m.S&0x00ff | 1<<wantPlace(a)
	case e.Op == 30:
		return wantNumber(m, a, wantWholeOf(m, b), true, wantRealOf(m, b))
	case e.Op >= 31 && e.Op <= 35 && a.Kind == impl.DevR:
		return wantNumber(m, a, 0, true, wantReal(e.Op-30, wantRealOf(m, b), wantRealOf(m, operand(e, 2))))
	case e.Op >= 31 && e.Op <= 35:
		n, ok := wantWhole(e.Op-30, int(wantWholeOf(m, b)), int(wantWholeOf(m, operand(e, 2))))
		return wantNumber(m, a, n, ok, 0)
	case e.Op == 36 && a.Kind == impl.DevR:
		m.R[wantPlace(a)] = float64(wantWholeOf(m, b))
	case e.Op == 37:
		n, ok := wantCut(wantRealOf(m, b))
		if !ok || a.Kind == impl.DevD {
			return wantNumber(m, a, n, ok, 0)
		}
	}
	return m
}

// wantNumber puts a D to the whole number, or faults if that is none, and an R to the real one.
func wantNumber(m impl.Mem, a impl.DevArg, n int16, ok bool, x float64) impl.Mem {
	switch {
	case !ok:
		m.Fault = true
	case a.Kind == impl.DevD:
		m.D[wantPlace(a)] = n
	case a.Kind == impl.DevR:
		m.R[wantPlace(a)] = x
	}
	return m
}

// checkSaid holds ActTest at any contact, ok or not, against the rules above.
func checkSaid(t *testing.T, m impl.Mem, e impl.Elem) {
	t.Helper()
	behind, b := impl.ActTest(m, e)
	if want, wantB := wantSaid(m, e); b != wantB || !sameMem(behind, want) {
		t.Errorf("ActTest of %v says %v and makes %q of %q, not %v and %q", e, b, wantMemText(behind), wantMemText(m), wantB, wantMemText(want))
	}
}

// checkDone holds ActDo at any coil, ok or not, against the rules above.
func checkDone(t *testing.T, m impl.Mem, e impl.Elem, v bool, dt uint16) {
	t.Helper()
	behind := impl.ActDo(m, e, v, dt)
	if want := wantDone(m, e, v, dt); !sameMem(behind, want) {
		t.Errorf("ActDo of %v, %v, %d makes %q of %q, not %q", e, v, dt, wantMemText(behind), wantMemText(m), wantMemText(want))
	}
}

var bothWays = []bool{false, true}

var edgeTicks = []uint16{0, 1, 2, 9, 10, 11, 32766, 32767, 32768, 65534, 65535}

func TestActStart(t *testing.T) {
	samples := []impl.ActSample{
		{}, {X: 5, Dt: 2, In: [4]float64{1.5, -2.5, 0.1, 7}}, {X: math.MaxUint32, Dt: 65535, In: [4]float64{nan, minus0, inf, -inf}},
		{X: 1 << 31, Dt: 1, In: [4]float64{minus0, nan, smallest, -smallest}}, {Dt: 32768, In: [4]float64{greatest, -greatest, normal, minus0}}, {X: 0xf0f0f0f0, Dt: 500, In: [4]float64{3: nan}},
	}
	mems := fewMems()
	for _, time := range edgeTimes {
		mems = append(mems, impl.Mem{Time: time, Fault: time%2 == 1, X: time, R: [16]float64{0: 3, 11: 4, 12: 5, 15: 6}})
	}
	for _, m := range mems {
		for _, s := range samples {
			before, given := m, s
			want := m
			want.X, want.Fault = s.X, false
			want.Time = uint32((uint64(m.Time) + uint64(s.Dt)) % 4294967296)
			want.R[12], want.R[13], want.R[14], want.R[15] = s.In[0], s.In[1], s.In[2], s.In[3]
			if behind := impl.ActStart(m, s); !sameMem(behind, want) {
				t.Errorf("ActStart makes %q of %q, not %q", wantMemText(behind), wantMemText(m), wantMemText(want))
			}
			if !sameMem(m, before) || s.X != given.X || s.Dt != given.Dt || !slices.EqualFunc(s.In[:], given.In[:], sameReal) {
				t.Error("ActStart changes what it is handed")
			}
		}
	}
}

func TestActStartTexts(t *testing.T) {
	for _, c := range []struct {
		mem    string
		sample impl.ActSample
		want   string
	}{
		{"", impl.ActSample{}, ""},
		{"X3 X31", impl.ActSample{X: 1}, "X0"},
		{"time=4294967295", impl.ActSample{Dt: 1}, ""},
		{"time=4294967295", impl.ActSample{Dt: 65535}, "time=65534"},
		{"time=4294901760", impl.ActSample{Dt: 65535}, "time=4294967295"},
		{"time=4294901761", impl.ActSample{Dt: 65535}, ""},
		{"time=65535", impl.ActSample{Dt: 65535}, "time=131070"},
		{"time=7", impl.ActSample{}, "time=7"},
		{"time=7 ran fault", impl.ActSample{}, "time=7 ran"},
		{"fault", impl.ActSample{}, ""},
		{"R11=1*2^0 R12=1*2^0 R13=1*2^0 R14=1*2^0 R15=1*2^0", impl.ActSample{}, "R11=1*2^0"},
		{"", impl.ActSample{In: [4]float64{nan, minus0, 3, -0.5}}, "R12=nan R13=-0 R14=3*2^0 R15=-1*2^-1"},
		{"Y1 M2 S3 E4 T5=6! C7=8!+ D9=10 R0=nan", impl.ActSample{X: 2, Dt: 5, In: [4]float64{inf, 0, 0, nan}}, "X1 Y1 M2 S3 E4 T5=6! C7=8!+ D9=10 R0=nan R12=inf R15=nan time=5"},
	} {
		m, ok := impl.MemRead(c.mem)
		if got := impl.MemText(impl.ActStart(m, c.sample)); !ok || got != c.want {
			t.Errorf("ActStart makes %q of %q, not %q", got, c.mem, c.want)
		}
	}
}

func TestActEnd(t *testing.T) {
	for _, m := range manyMems() {
		before, want := m, m
		want.Ran = true
		if behind := impl.ActEnd(m); !sameMem(behind, want) || !sameMem(m, before) {
			t.Errorf("ActEnd makes %q of %q", wantMemText(behind), wantMemText(m))
		}
	}
}

// TestActContactEdges has the document's words for contacts, one by one.
func TestActContactEdges(t *testing.T) {
	for _, c := range []struct {
		mem, contact string
		says         bool
		want         string
	}{
		{"X0", "X0", true, "X0"}, {"X0", "X1", false, "X0"}, {"X31", "X31", true, "X31"}, {"Y5", "Y5", true, "Y5"}, {"M63", "M63", true, "M63"}, {"S15", "S15", true, "S15"}, {"T1=0!", "T1", true, "T1=0!"}, {"T1=5", "T1", false, "T1=5"}, {"C1=5+", "C1", false, "C1=5+"}, {"C1=0!", "C1", true, "C1=0!"},
		{"X0", "/X0", false, "X0"}, {"", "/X0", true, ""}, {"", "/T3", true, ""}, {"", "G0", true, ""}, {"", "/G0", false, ""}, {"", "G1", false, ""}, {"", "G2", true, ""}, {"ran", "G2", false, "ran"}, {"ran", "/G2", true, "ran"}, {"fault", "G3", true, "fault"}, {"time=500", "G4", true, "time=500"}, {"time=499", "/G4", true, "time=499"},
		{"X0", "+X0:E0", true, "X0 E0"}, {"X0 E0", "+X0:E0", false, "X0 E0"}, {"E0", "+X0:E0", false, ""}, {"", "+X0:E0", false, ""}, {"X0 E1", "+X0:E0", true, "X0 E0 E1"}, {"", "+G0:E31", true, "E31"}, {"C1=0!", "+C1:E2", true, "E2 C1=0!"},
		{"X0", "-X0:E0", false, "X0 E0"}, {"X0 E0", "-X0:E0", false, "X0 E0"}, {"E0", "-X0:E0", true, ""}, {"", "-X0:E0", false, ""}, {"E0 E1", "-X0:E1", true, "E0"}, {"E31", "-G1:E31", true, ""}, {"E2 T1=7", "-T1:E2", true, "T1=7"},
		{"D1=-3", "D1<-2", true, "D1=-3"}, {"D1=-32768", "D1<32767", true, "D1=-32768"}, {"", "32767<-32768", false, ""}, {"", "5<5", false, ""}, {"", "5<=5", true, ""}, {"", "5=5", true, ""}, {"", "5<>5", false, ""}, {"", "5>=5", true, ""}, {"", "5>5", false, ""}, {"", "6>5", true, ""}, {"", "-6<>6", true, ""}, {"", "4>=5", false, ""}, {"", "6<=5", false, ""}, {"", "4=5", false, ""},
		{"T1=40000", "T1=32767", true, "T1=40000"}, {"T1=40000 C1=65535", "T1<C1", false, "T1=40000 C1=65535"}, {"C1=7 D1=8", "C1<D1", true, "C1=7 D1=8"},
		{"R1=nan", "R1=R1", false, "R1=nan"}, {"R1=nan", "R1<>R1", true, "R1=nan"}, {"R1=nan", "R1<R1", false, "R1=nan"}, {"R1=nan", "R1<=R1", false, "R1=nan"}, {"R1=nan", "R1>=R1", false, "R1=nan"}, {"R1=nan", "R1>R1", false, "R1=nan"}, {"", "nan<>1.0", true, ""}, {"", "nan=nan", false, ""},
		{"", "-0.0=0.0", true, ""}, {"", "-0.0<0.0", false, ""}, {"R1=-0", "R1>=R2", true, "R1=-0"}, {"R1=-0", "R1<>0.0", false, "R1=-0"}, {"", "-inf<inf", true, ""}, {"", "inf<=inf", true, ""}, {"", "inf>inf", false, ""}, {"", "0.1<0.2", true, ""}, {"", "0.5=0.5", true, ""}, {"R1=1*2^-1074", "R1>0.0", true, "R1=1*2^-1074"}, {"R1=9007199254740991*2^971", "R1<inf", true, "R1=9007199254740991*2^971"}, {"R1=-9007199254740991*2^971", "R1>-inf", true, "R1=-9007199254740991*2^971"},
	} {
		m, okM := impl.MemRead(c.mem)
		e, okE := impl.ElemRead(c.contact)
		behind, b := impl.ActTest(m, e)
		if got := impl.MemText(behind); !okM || !okE || b != c.says || got != c.want {
			t.Errorf("%s at %q says %v and leaves %q, not %v and %q", c.contact, c.mem, b, got, c.says, c.want)
		}
		checkSaid(t, m, e)
	}
}

type coilCase struct {
	mem, coil string
	v         bool
	dt        uint16
	want      string
}

func checkCoilCases(t *testing.T, cases []coilCase) {
	t.Helper()
	for _, c := range cases {
		m, okM := impl.MemRead(c.mem)
		e, okE := impl.ElemRead(c.coil)
		if got := impl.MemText(impl.ActDo(m, e, c.v, c.dt)); !okM || !okE || got != c.want {
			t.Errorf("%s at %q with %v and %d ticks leaves %q, not %q", c.coil, c.mem, c.v, c.dt, got, c.want)
		}
		checkDone(t, m, e, c.v, c.dt)
	}
}

func TestActBitCoilEdges(t *testing.T) {
	checkCoilCases(t, []coilCase{
		{"", "out:Y0", true, 5, "Y0"}, {"Y0", "out:Y0", true, 5, "Y0"}, {"Y0 Y1", "out:Y0", false, 5, "Y1"}, {"", "out:Y0", false, 5, ""}, {"", "out:M63", true, 0, "M63"}, {"M63", "out:M63", false, 0, ""}, {"Y31", "out:M31", false, 0, "Y31"},
		{"", "set:Y31", true, 0, "Y31"}, {"", "set:M0", true, 0, "M0"}, {"S1", "set:S3", true, 0, "S1 S3"}, {"", "set:Y31", false, 0, ""}, {"Y31", "set:Y31", false, 0, "Y31"},
		{"Y1", "reset:Y1", true, 0, ""}, {"M1 M2", "reset:M1", true, 0, "M2"}, {"S1 S2", "reset:S2", true, 0, "S1"}, {"Y1", "reset:Y1", false, 0, "Y1"},
		{"T1=7!", "reset:T1", true, 9, ""}, {"T1=65535 T2=1!", "reset:T1", true, 9, "T2=1!"}, {"T1=7!", "reset:T1", false, 9, "T1=7!"},
		{"C1=7!+", "reset:C1", true, 9, "C1=0+"}, {"C1=7!", "reset:C1", true, 9, ""}, {"C1=65535+", "reset:C1", true, 9, "C1=0+"}, {"C1=0+", "reset:C1", true, 9, "C1=0+"}, {"C1=7!+", "reset:C1", false, 9, "C1=7!+"}, {"C0=1! C1=7! C2=1!", "reset:C1", true, 9, "C0=1! C2=1!"},
		{"", "pulse:Y1,E0", true, 0, "Y1 E0"}, {"Y1 E0", "pulse:Y1,E0", true, 0, "E0"}, {"E0", "pulse:Y1,E0", true, 0, "E0"}, {"Y1 E0", "pulse:Y1,E0", false, 0, ""}, {"Y1", "pulse:Y1,E0", false, 0, ""}, {"E0", "pulse:M1,E31", true, 0, "M1 E0 E31"}, {"M1", "pulse:M1,E31", true, 0, "M1 E31"},
		{"S0 S1 S7 S8 S15", "step:S0", true, 0, "S0 S8 S15"}, {"S0 S1 S7 S8 S15", "step:S7", true, 0, "S7 S8 S15"}, {"S0 S1 S7 S8 S15", "step:S8", true, 0, "S0 S1 S7 S8"}, {"S0 S1 S7 S8 S15", "step:S15", true, 0, "S0 S1 S7 S15"}, {"", "step:S3", true, 0, "S3"}, {"S0 S15", "step:S3", false, 0, "S0 S15"}, {"S3", "step:S3", true, 0, "S3"},
	})
}

func TestActTimerEdges(t *testing.T) {
	checkCoilCases(t, []coilCase{
		{"", "timer:T0,10", true, 3, "T0=3"}, {"T0=3", "timer:T0,10", true, 6, "T0=9"}, {"T0=3", "timer:T0,10", true, 7, "T0=10!"}, {"T0=3", "timer:T0,10", true, 8, "T0=10!"}, {"T0=3", "timer:T0,10", true, 65535, "T0=10!"}, {"T0=3", "timer:T0,10", true, 0, "T0=3"}, {"T0=10!", "timer:T0,10", true, 0, "T0=10!"}, {"T0=10", "timer:T0,10", true, 0, "T0=10!"},
		{"T0=11", "timer:T0,10", true, 0, "T0=10!"}, {"T0=65535", "timer:T0,10", true, 65535, "T0=10!"}, {"T0=65535", "timer:T0,32767", true, 1, "T0=32767!"}, {"T0=3!", "timer:T0,10", true, 1, "T0=4"}, {"T0=65535", "timer:T0,10", true, 5, "T0=10!"},
		{"T0=9!", "timer:T0,10", false, 5, ""}, {"T0=65535", "timer:T0,10", false, 5, ""}, {"", "timer:T0,0", false, 0, ""}, {"", "timer:T0,0", true, 0, "T0=0!"}, {"T0=5", "timer:T0,0", true, 65535, "T0=0!"},
		{"", "timer:T15,32767", true, 32766, "T15=32766"}, {"", "timer:T15,32767", true, 32767, "T15=32767!"}, {"", "timer:T15,32767", true, 65535, "T15=32767!"}, {"T15=1", "timer:T15,32767", true, 65535, "T15=32767!"}, {"T14=1", "timer:T15,5", true, 1, "T14=1 T15=1"},
		{"T0=3", "hold:T0,10", true, 6, "T0=9"}, {"T0=3", "hold:T0,10", true, 7, "T0=10!"}, {"T0=9!", "hold:T0,10", false, 7, "T0=9!"}, {"T0=11", "hold:T0,10", false, 7, "T0=11"}, {"T0=11", "hold:T0,10", true, 0, "T0=10!"}, {"T0=65535!", "hold:T0,10", true, 65535, "T0=10!"}, {"", "hold:T0,0", true, 0, "T0=0!"}, {"", "hold:T0,0", false, 0, ""}, {"T0=5!", "hold:T0,0", false, 9, "T0=5!"}, {"T0=3!", "hold:T0,10", true, 0, "T0=3"},
		{"", "late:T0,10", true, 9, "T0=0!"}, {"T0=5", "late:T0,10", true, 9, "T0=0!"}, {"T0=5!", "late:T0,10", true, 9, "T0=0!"}, {"T0=0!", "late:T0,10", false, 9, "T0=9!"}, {"T0=0!", "late:T0,10", false, 10, ""}, {"T0=9!", "late:T0,10", false, 0, "T0=9!"}, {"T0=9!", "late:T0,10", false, 1, ""}, {"T0=10!", "late:T0,10", false, 0, ""}, {"T0=11!", "late:T0,10", false, 0, ""}, {"T0=65535!", "late:T0,10", false, 65535, ""}, {"T0=65535!", "late:T0,32767", false, 1, ""},
		{"T0=5", "late:T0,10", false, 9, ""}, {"T0=5", "late:T0,10", false, 0, ""}, {"", "late:T0,10", false, 65535, ""}, {"T0=0!", "late:T0,0", false, 0, ""}, {"", "late:T0,0", true, 0, "T0=0!"}, {"T0=0!", "late:T0,32767", false, 32766, "T0=32766!"}, {"T0=0!", "late:T0,32767", false, 32767, ""},
	})
}

func TestActCounterEdges(t *testing.T) {
	checkCoilCases(t, []coilCase{
		{"", "count:C0,2", true, 9, "C0=1+"}, {"C0=1+", "count:C0,2", true, 9, "C0=1+"}, {"C0=1+", "count:C0,2", false, 9, "C0=1"}, {"C0=1", "count:C0,2", true, 9, "C0=2!+"}, {"C0=2!+", "count:C0,2", false, 9, "C0=2!"}, {"C0=2!", "count:C0,2", true, 9, "C0=3!+"}, {"C0=1", "count:C0,2", false, 9, "C0=1"}, {"", "count:C0,2", false, 9, ""},
		{"", "count:C0,0", false, 0, "C0=0!"}, {"", "count:C0,0", true, 0, "C0=1!+"}, {"C0=0!", "count:C0,1", false, 0, ""}, {"C0=5!", "count:C0,6", false, 0, "C0=5"}, {"C0=5", "count:C0,5", false, 0, "C0=5!"}, {"C0=9", "count:C0,5", true, 0, "C0=10!+"},
		{"C0=65535", "count:C0,5", true, 0, "C0=65535!+"}, {"C0=65535+", "count:C0,5", true, 0, "C0=65535!+"}, {"C0=65535+", "count:C0,5", false, 0, "C0=65535!"}, {"C0=65534", "count:C0,5", true, 0, "C0=65535!+"}, {"C0=65535!", "count:C0,32767", true, 0, "C0=65535!+"},
		{"C15=32766", "count:C15,32767", true, 0, "C15=32767!+"}, {"C15=32765", "count:C15,32767", true, 0, "C15=32766+"}, {"C15=32767", "count:C15,32767", true, 0, "C15=32768!+"}, {"C14=1+", "count:C15,1", true, 0, "C14=1+ C15=1!+"}, {"C0=0+", "count:C0,1", true, 0, "C0=0+"},
	})
}

func TestActNumberEdges(t *testing.T) {
	checkCoilCases(t, []coilCase{
		{"", "move:D0,-32768", true, 0, "D0=-32768"}, {"D0=5", "move:D0,D1", true, 0, ""}, {"D0=5", "move:D0,7", false, 0, "D0=5"}, {"T1=40000", "move:D31,T1", true, 0, "T1=40000 D31=32767"}, {"C1=3", "move:D1,C1", true, 0, "C1=3 D1=3"}, {"", "move:R1,-0.0", true, 0, "R1=-0"}, {"R1=nan", "move:R0,R1", true, 0, "R0=nan R1=nan"}, {"R1=5*2^0", "move:R1,0.0", true, 0, ""}, {"", "move:R15,0.5", true, 0, "R15=1*2^-1"}, {"R0=1*2^-1074", "move:R1,R0", true, 0, "R0=1*2^-1074 R1=1*2^-1074"}, {"R1=1*2^0", "move:R1,2.0", false, 0, "R1=1*2^0"},
		{"D1=32767", "add:D1,D1,1", true, 0, "D1=-32768"}, {"D1=-32768", "sub:D1,D1,1", true, 0, "D1=32767"}, {"D1=300", "mul:D2,D1,D1", true, 0, "D1=300 D2=24464"}, {"D1=-32768", "div:D1,D1,-1", true, 0, "D1=-32768"}, {"D1=-32768", "rem:D1,D1,-1", true, 0, ""}, {"D1=-7", "div:D2,D1,2", true, 0, "D1=-7 D2=-3"}, {"D1=-7", "rem:D2,D1,2", true, 0, "D1=-7 D2=-1"}, {"D1=7", "rem:D2,D1,-2", true, 0, "D1=7 D2=1"}, {"", "add:D0,5,6", false, 0, ""}, {"D1=2", "sub:D1,5,D1", true, 0, "D1=3"}, {"", "div:D3,0,5", true, 0, ""}, {"T1=65535 C1=2", "sub:D1,T1,C1", true, 0, "T1=65535 C1=2 D1=32765"},
		{"D1=5", "div:D1,D1,0", true, 0, "D1=5 fault"}, {"D1=5", "rem:D1,D1,0", true, 0, "D1=5 fault"}, {"D1=5", "div:D2,D1,D3", true, 0, "D1=5 fault"}, {"D1=5", "div:D1,D1,0", false, 0, "D1=5"}, {"D1=5", "rem:D1,D1,0", false, 0, "D1=5"}, {"D1=5 fault", "div:D1,D1,5", true, 0, "D1=1 fault"}, {"D1=5 fault", "rem:D1,D1,0", true, 0, "D1=5 fault"}, {"D1=-32768", "div:D1,0,0", true, 0, "D1=-32768 fault"}, {"D1=5", "rem:D1,7,T0", true, 0, "D1=5 fault"},
		{"X1 Y1 M1 S1 E1 T1=5! C1=5!+ D1=5 R1=5*2^0 time=5 ran", "div:D1,1,0", true, 0, "X1 Y1 M1 S1 E1 T1=5! C1=5!+ D1=5 R1=5*2^0 time=5 ran fault"},
		{"R1=1*2^0", "add:R1,R1,0.5", true, 0, "R1=3*2^-1"}, {"", "sub:R1,0.5,2.0", true, 0, "R1=-3*2^-1"}, {"R0=9007199254740991*2^971", "mul:R1,R0,2.0", true, 0, "R0=9007199254740991*2^971 R1=inf"}, {"R0=9007199254740991*2^971", "add:R0,R0,R0", true, 0, "R0=inf"}, {"R0=1*2^-1074", "div:R1,R0,2.0", true, 0, "R0=1*2^-1074"}, {"R0=-1*2^-1074", "div:R1,R0,2.0", true, 0, "R0=-1*2^-1074 R1=-0"}, {"R0=1*2^-1074", "mul:R0,R0,1.5", true, 0, "R0=1*2^-1073"},
		{"", "div:R1,1.0,0.0", true, 0, "R1=inf"}, {"", "div:R1,1.0,-0.0", true, 0, "R1=-inf"}, {"", "div:R1,0.0,0.0", true, 0, "R1=nan"}, {"", "sub:R1,inf,inf", true, 0, "R1=nan"}, {"", "mul:R1,inf,0.0", true, 0, "R1=nan"}, {"", "add:R1,0.1,0.2", true, 0, "R1=1351079888211149*2^-52"}, {"R1=1*2^0", "div:R1,1.0,0.0", false, 0, "R1=1*2^0"}, {"", "add:R1,-0.0,-0.0", true, 0, "R1=-0"},
		{"D1=-32768", "real:R1,D1", true, 0, "D1=-32768 R1=-1*2^15"}, {"R1=5*2^0", "real:R1,0", true, 0, ""}, {"T1=65535", "real:R1,T1", true, 0, "T1=65535 R1=32767*2^0"}, {"R1=nan", "real:R1,3", false, 0, "R1=nan"}, {"R1=nan", "real:R1,3", true, 0, "R1=3*2^0"},
		{"", "whole:D1,32767.5", true, 0, "D1=32767"}, {"", "whole:D1,32768.0", true, 0, "fault"}, {"", "whole:D1,-32768.75", true, 0, "D1=-32768"}, {"", "whole:D1,-32769.0", true, 0, "fault"}, {"D1=5", "whole:D1,nan", true, 0, "D1=5 fault"}, {"D1=5", "whole:D1,inf", true, 0, "D1=5 fault"}, {"D1=5", "whole:D1,-inf", true, 0, "D1=5 fault"}, {"D1=5", "whole:D1,-0.0", true, 0, ""}, {"D1=5", "whole:D1,nan", false, 0, "D1=5"}, {"D1=5 fault", "whole:D1,2.5", true, 0, "D1=2 fault"}, {"R1=1*2^-1074", "whole:D1,R1", true, 0, "R1=1*2^-1074"}, {"D1=5 R1=9007199254740991*2^971", "whole:D1,R1", true, 0, "D1=5 R1=9007199254740991*2^971 fault"}, {"R1=-1*2^-1", "whole:D1,R1", true, 0, "R1=-1*2^-1"},
	})
}

// wrongCase is a part that is not ok; places are not looked at by chapter 5, Kinds are.
type wrongCase struct {
	mem  string
	e    impl.Elem
	v    bool
	want string
}

func TestActWrongCoils(t *testing.T) {
	e1, y1, m1, s1 := arg(5, 1, 0), arg(2, 1, 0), arg(3, 1, 0), arg(4, 1, 0)
	t1, c1, d1, r1 := arg(7, 1, 0), arg(8, 1, 0), arg(9, 1, 0), arg(10, 1, 0)
	five, none := arg(11, 5, 0), arg(0, 0, 0)
	full := "X1 Y1 M1 S1 E1 T1=3 C1=3 D1=3 R1=3*2^0"
	for _, c := range []wrongCase{
		{full, elem(21), true, full}, {full, elem(21, none), false, full}, {full, elem(21, e1), false, full}, {full, elem(21, arg(1, 1, 0)), false, full}, {"", elem(21, e1), true, ""}, {"", elem(21, arg(1, 1, 0)), true, ""}, {"", elem(21, s1), true, "S1"}, {"S1", elem(21, s1), false, ""}, {full, elem(21, t1), false, full}, {full, elem(21, d1), true, full}, {"", elem(21, arg(2, 33, 7)), true, "Y1"}, {"", elem(21, arg(3, -1, 0)), true, "M63"}, {"", elem(21, y1, m1), true, "Y1"},
		{"", elem(22, e1), true, ""}, {"", elem(22, arg(1, 1, 0)), true, ""}, {"", elem(22, t1), true, ""}, {"", elem(22, c1), true, ""}, {full, elem(22), true, full}, {"", elem(22, arg(4, 17, 0)), true, "S1"},
		{"E1", elem(23, e1), true, "E1"}, {"X1", elem(23, arg(1, 1, 0)), true, "X1"}, {full, elem(23, d1), true, full}, {full, elem(23, r1), true, full}, {full, elem(23), true, full}, {"T1=3!", elem(23, arg(7, 17, 0)), true, ""}, {"C1=3!+", elem(23, arg(8, -15, 3)), true, "C1=0+"},
		{"", elem(24, y1), true, "Y1"}, {"Y1", elem(24, y1), true, "Y1"}, {"Y1", elem(24, y1), false, ""}, {"", elem(24, y1, m1), true, "Y1"}, {"M1", elem(24, y1, m1), true, "Y1 M1"}, {"X1", elem(24, y1, arg(1, 1, 0)), true, "X1 Y1"}, {"", elem(24, e1, arg(5, 2, 0)), true, "E2"}, {"E1", elem(24, e1, arg(5, 2, 0)), false, "E1"}, {"", elem(24, e1, e1), true, "E1"}, {"E1", elem(24, e1, e1), true, "E1"}, {"E1", elem(24, e1, e1), false, ""}, {"", elem(24, e1), true, ""}, {"E1", elem(24, e1), false, "E1"}, {"", elem(24, s1, e1), true, "S1 E1"}, {"", elem(24, none, e1), true, "E1"}, {"", elem(24), true, ""}, {"", elem(24, t1, e1), true, "E1"}, {"E1", elem(24, arg(1, 1, 0), arg(5, 33, 0)), false, ""},
		{full, elem(25), true, full}, {"S2", elem(25, y1), true, "S2"}, {"S2", elem(25, m1), true, "S2"}, {"S2", elem(25, e1), true, "S2"}, {"S2 S9", elem(25, arg(4, 16, 0)), true, "S0 S9"}, {"S2 S9", elem(25, arg(4, -1, 0)), true, "S2 S15"}, {"S2", elem(25, d1), true, "S2"},
		{full, elem(26), true, full}, {full, elem(26, c1, five), true, full}, {full, elem(26, y1, five), false, full}, {"T1=3", elem(26, t1), true, "T1=0!"}, {"T1=3", elem(26, t1), false, ""}, {"T1=3", elem(26, t1, arg(11, -5, 0)), true, "T1=0!"}, {"T1=3 D1=4", elem(26, t1, d1), true, "T1=4! D1=4"}, {"T1=3", elem(26, t1, t1), true, "T1=3!"}, {"T1=65535", elem(26, t1, t1), true, "T1=32767!"}, {"T1=3", elem(26, t1, arg(11, 65541, 0)), true, "T1=5!"}, {"T1=3", elem(26, t1, arg(12, 5, 1)), true, "T1=0!"}, {"T1=3", elem(26, arg(7, 17, 9), five), true, "T1=5!"},
		{full, elem(27), true, full}, {full, elem(27, d1, five), true, full}, {"T1=3", elem(27, t1), true, "T1=0!"}, {"T1=3", elem(27, t1), false, "T1=3"}, {"T1=3", elem(27, t1, arg(11, -32768, 0)), true, "T1=0!"}, {"T1=3", elem(27, t1, arg(11, 32768, 0)), true, "T1=0!"},
		{full, elem(28), true, full}, {full, elem(28, c1, five), true, full}, {"T1=3!", elem(28, t1), false, ""}, {"", elem(28, t1), true, "T1=0!"}, {"T1=3!", elem(28, t1, arg(11, -1, 0)), false, ""}, {"T1=3!", elem(28, t1, r1), false, ""},
		{full, elem(29), true, full}, {full, elem(29, t1, five), true, full}, {full, elem(29, e1, five), false, full}, {"C1=3", elem(29, c1), true, "C1=4!+"}, {"C1=3+", elem(29, c1), false, "C1=3!"}, {"C1=3", elem(29, c1, arg(11, -5, 0)), false, "C1=3!"}, {"C1=3", elem(29, c1, c1), true, "C1=4!+"}, {"C1=65535", elem(29, c1, c1), false, "C1=65535!"}, {"C1=3 D1=4", elem(29, c1, d1), true, "C1=4!+ D1=4"}, {"C1=3 D1=5", elem(29, arg(8, 17, 0), d1), true, "C1=4+ D1=5"},
		{full, elem(30), true, full}, {full, elem(30, y1, five), true, full}, {full, elem(30, e1, five), true, full}, {"D1=3", elem(30, d1), true, ""}, {"R1=3*2^0", elem(30, r1), true, ""}, {"D1=3 R1=5*2^0", elem(30, d1, r1), true, "R1=5*2^0"}, {"D1=3 R1=5*2^0", elem(30, r1, d1), true, "D1=3"}, {"T1=3", elem(30, t1, five), true, "T1=3"}, {"", elem(30, arg(9, 33, 0), arg(11, 65535, 0)), true, "D1=-1"}, {"", elem(30, arg(10, -15, 0), arg(13, 4, 0)), true, ""}, {"", elem(30, five, five), true, ""},
		{full, elem(31), true, full}, {full, elem(34), true, full + " fault"}, {full, elem(35), true, full + " fault"}, {full, elem(34), false, full}, {full, elem(34, y1, five), true, full + " fault"}, {full, elem(35, e1, five, none), true, full + " fault"}, {full, elem(34, t1, five, five), true, full}, {"D1=3", elem(31, d1), true, ""}, {"D1=3", elem(31, d1, five), true, "D1=5"}, {"D1=3", elem(34, d1, five), true, "D1=3 fault"}, {"D1=3", elem(34, d1), true, "D1=3 fault"},
		{"R1=3*2^0", elem(35, r1, arg(12, 5, 0), arg(12, 2, 0)), true, "R1=nan"}, {"R1=3*2^0", elem(35, r1), true, "R1=nan"}, {"R1=3*2^0", elem(34, r1), true, "R1=nan"}, {"R1=3*2^0", elem(34, r1, r1), true, "R1=inf"}, {"R1=3*2^0", elem(31, r1, r1, five), true, "R1=3*2^0"}, {"D1=3 R1=3*2^0", elem(31, d1, r1, r1), true, "R1=3*2^0"}, {"R1=3*2^0", elem(35, r1), false, "R1=3*2^0"}, {"R1=3*2^0", elem(33, d1, r1, five), true, "R1=3*2^0"},
		{"D1=3", elem(36, d1, five), true, "D1=3"}, {"R1=3*2^0", elem(36, r1), true, ""}, {"R1=nan", elem(36, r1, r1), true, ""}, {full, elem(36), true, full}, {"", elem(36, arg(10, 17, 0), arg(11, 65535, 0)), true, "R1=-1*2^0"},
		{"R1=3*2^0", elem(37, r1, r1), true, "R1=3*2^0"}, {"D1=3", elem(37, d1), true, ""}, {"D1=3", elem(37, d1, d1), true, ""}, {full, elem(37), true, full}, {full, elem(37, y1, arg(13, 0, 0)), true, full + " fault"}, {"R1=nan", elem(37, r1, r1), true, "R1=nan fault"}, {"", elem(37, none, arg(13, 1, 0)), true, "fault"}, {"", elem(37, none, arg(13, 1, 0)), false, ""}, {"D1=3", elem(37, arg(9, -31, 0), arg(12, 25, 1)), true, "D1=2"},
	} {
		m, ok := impl.MemRead(c.mem)
		if got := impl.MemText(impl.ActDo(m, c.e, c.v, 5)); !ok || got != c.want {
			t.Errorf("%v at %q with %v leaves %q, not %q", c.e, c.mem, c.v, got, c.want)
		}
		checkDone(t, m, c.e, c.v, 5)
	}
}

func TestActWrongContacts(t *testing.T) {
	x1, e1, d1, r1, five := arg(1, 1, 0), arg(5, 1, 0), arg(9, 1, 0), arg(10, 1, 0), arg(11, 5, 0)
	for _, c := range []struct {
		mem  string
		e    impl.Elem
		says bool
		want string
	}{
		{"X1", elem(1), false, "X1"}, {"X1", elem(2), true, "X1"}, {"E1", elem(1, e1), true, "E1"}, {"E1", elem(2, e1), false, "E1"}, {"D1=1", elem(1, d1), false, "D1=1"}, {"", elem(2, five), true, ""}, {"X1", elem(1, arg(1, 33, 5)), true, "X1"}, {"", elem(1, arg(6, 8, 0)), true, ""}, {"", elem(1, arg(6, 5, 0)), false, ""}, {"X1", elem(1, x1, five, five, five), true, "X1"},
		{"X1", elem(3, x1), true, "X1"}, {"", elem(3, x1), false, ""}, {"X1", elem(4, x1), false, "X1"}, {"", elem(4, x1), false, ""}, {"X1 M1", elem(3, x1, arg(3, 1, 0)), true, "X1 M1"}, {"M1", elem(4, x1, arg(3, 1, 0)), false, "M1"}, {"X1 Y1", elem(3, x1, arg(2, 2, 0)), true, "X1 Y1"}, {"X1", elem(3, x1, x1), true, "X1"}, {"E1", elem(3, e1, e1), false, "E1"}, {"E1", elem(4, e1, e1), false, "E1"}, {"E1", elem(3, e1, arg(5, 2, 0)), true, "E1 E2"}, {"E2", elem(4, e1, arg(5, 2, 0)), true, ""}, {"E1", elem(3, arg(0, 0, 0), e1), false, ""}, {"E1", elem(4, arg(0, 0, 0), e1), true, ""}, {"X1", elem(3, x1, arg(5, 33, 9)), true, "X1 E1"}, {"X1 E31", elem(3, x1, arg(5, -1, 0)), false, "X1 E31"}, {"", elem(3), false, ""}, {"", elem(4), false, ""}, {"X1", elem(3, x1, e1, arg(5, 2, 0)), true, "X1 E1"},
		{"", elem(5), false, ""}, {"", elem(6), true, ""}, {"", elem(7), true, ""}, {"", elem(8), false, ""}, {"", elem(9), true, ""}, {"", elem(10), false, ""}, {"D1=5", elem(7, d1), false, "D1=5"}, {"D1=5", elem(10, d1), true, "D1=5"}, {"R1=5*2^0", elem(10, r1), true, "R1=5*2^0"}, {"R1=-0", elem(7, r1), true, "R1=-0"},
		{"D1=5 R1=7*2^0", elem(10, r1, d1), true, "D1=5 R1=7*2^0"}, {"D1=5 R1=7*2^0", elem(10, d1, r1), true, "D1=5 R1=7*2^0"}, {"D1=-5 R1=nan", elem(5, d1, r1), true, "D1=-5 R1=nan"}, {"R1=nan", elem(8, r1, d1), true, "R1=nan"}, {"R1=nan", elem(7, five, r1), false, "R1=nan"}, {"", elem(7, arg(12, 50, 2), arg(13, 4, 0)), true, ""}, {"", elem(10, arg(12, 5, 1), five), true, ""}, {"", elem(10, five, arg(12, 5, 1)), true, ""}, {"", elem(8, arg(13, 0, 0), five), true, ""}, {"X1 E1", elem(7, x1, e1), true, "X1 E1"}, {"", elem(7, arg(11, 65541, 0), five), true, ""},
	} {
		m, ok := impl.MemRead(c.mem)
		behind, b := impl.ActTest(m, c.e)
		if got := impl.MemText(behind); !ok || b != c.says || got != c.want {
			t.Errorf("%v at %q says %v and leaves %q, not %v and %q", c.e, c.mem, b, got, c.says, c.want)
		}
		checkSaid(t, m, c.e)
	}
}

// An Op that is none says false and does nothing, and so does a coil that is asked and a contact that current comes to.
func TestActNoOps(t *testing.T) {
	lists := [][]impl.DevArg{nil, {}, {arg(2, 1, 0)}, {arg(1, 0, 0), arg(5, 0, 0)}, {arg(7, 1, 0), arg(11, 5, 0)}, {arg(9, 1, 0), arg(11, 5, 0), arg(11, 0, 0)}, {arg(10, 1, 0), arg(13, 0, 0), arg(13, 0, 0)}}
	for _, op := range allOps() {
		contact, coil := op >= 1 && op <= 10, op >= 21 && op <= 37
		for _, list := range lists {
			for _, m := range fewMems() {
				if behind, b := impl.ActTest(m, elem(op, list...)); !contact && (b || !sameMem(behind, m)) {
					t.Errorf("ActTest of Op %d says %v and leaves %q of %q", op, b, wantMemText(behind), wantMemText(m))
				}
				for _, v := range bothWays {
					if behind := impl.ActDo(m, elem(op, list...), v, 5); !coil && !sameMem(behind, m) {
						t.Errorf("ActDo of Op %d leaves %q of %q", op, wantMemText(behind), wantMemText(m))
					}
				}
			}
		}
	}
}

// Each Op with operands of every Kind, ok or not, that it is for or not, at the first two places.
func TestActKindsOfOperands(t *testing.T) {
	args := fewArgs()
	mems := []impl.Mem{plainMem(), scatteredMem(3, math.MaxUint64), {}}
	for i, a := range args {
		for j, b := range args {
			m := mems[(i+j)%len(mems)]
			for _, op := range allOps() {
				e := elem(op, a, b, args[(i*7+j*3+op&7)%len(args)])
				checkSaid(t, m, e)
				for _, v := range bothWays {
					checkDone(t, m, e, v, edgeTicks[(i+j)%len(edgeTicks)])
				}
			}
		}
	}
}

// What reckons, with every Kind at all three places, and A, B and C the same device too.
func TestActKindsOfThree(t *testing.T) {
	args := append(oneOfEach(), arg(9, 2, 0), arg(10, 1, 0), arg(11, 0, 0), arg(12, 0, 1), arg(13, 0, 0), arg(13, 1, 0))
	m := plainMem()
	m.D[3], m.R[3] = -7, 2.5
	for _, a := range args {
		for _, b := range args {
			for _, c := range args {
				for op := 29; op <= 38; op++ {
					checkDone(t, m, elem(op, a, b, c), true, 3)
					checkDone(t, m, elem(op, a, b, c), false, 3)
				}
			}
		}
	}
}

// Too few operands are asked as if there were nothing there, too many are not looked at.
func TestActHowManyOperands(t *testing.T) {
	rest := []impl.DevArg{arg(5, 7, 0), arg(9, 3, 0), arg(11, 5, 0)}
	for _, e := range okElems() {
		for _, m := range []impl.Mem{{}, plainMem()} {
			more := elem(e.Op, append(slices.Clone(e.Args), rest...)...)
			behind, b := impl.ActTest(m, e)
			longBehind, longB := impl.ActTest(m, more)
			if b != longB || !sameMem(behind, longBehind) {
				t.Errorf("%v says something else with more operands", e)
			}
			for _, v := range bothWays {
				if !sameMem(impl.ActDo(m, e, v, 4), impl.ActDo(m, more, v, 4)) {
					t.Errorf("%v does something else with more operands", e)
				}
				for n := range e.Args {
					fewer := elem(e.Op, e.Args[:n]...)
					checkSaid(t, m, fewer)
					checkDone(t, m, fewer, v, 4)
				}
			}
		}
	}
}

// Places far beyond the last of a kind, at each operand.
func TestActFarPlaces(t *testing.T) {
	m := plainMem()
	for i, far := range manyAsked() {
		near := arg(5, i, 0)
		for _, k := range elemKinds {
			for _, e := range []impl.Elem{elem(k.op, far, near), elem(k.op, arg(2, i, 0), far), elem(k.op, far, far, far), elem(k.op, arg(9, i, 0), arg(11, 77, 0), far), elem(k.op, arg(10, i, 0), arg(12, 75, 1), far)} {
				checkSaid(t, m, e)
				checkDone(t, m, e, i%3 > 0, 5)
			}
		}
	}
}

// P15: shut says the opposite of open, of each operand.
func TestActShutIsOpposite(t *testing.T) {
	for _, m := range fewMems() {
		for _, a := range manyAsked() {
			_, open := impl.ActTest(m, elem(impl.ElemOpen, a))
			_, shut := impl.ActTest(m, elem(impl.ElemShut, a))
			if open == shut || open != wantBit(m, a) {
				t.Errorf("%v is %v open and %v shut in %q", a, open, shut, wantMemText(m))
			}
		}
	}
}

// P15: what a contact may change is the E of ElemUp and ElemDown alone.
func TestActContactsLeaveMemory(t *testing.T) {
	for _, e := range okElems() {
		for _, m := range fewMems() {
			behind, _ := impl.ActTest(m, e)
			if e.Op == impl.ElemUp || e.Op == impl.ElemDown {
				mask := uint32(1) << e.Args[1].N
				if (behind.E^m.E)&^mask != 0 || behind.E&mask > 0 != wantBit(m, e.Args[0]) {
					t.Errorf("%s leaves E %b of %b", impl.ElemText(e), behind.E, m.E)
				}
				behind.E = m.E
			}
			if !sameMem(behind, m) {
				t.Errorf("%s leaves %q of %q", impl.ElemText(e), wantMemText(behind), wantMemText(m))
			}
			checkSaid(t, m, e)
		}
	}
}

// P16: two contacts with an E each, asked of one bit that goes on and off; what they say is told by the bits alone.
func TestActUpAndDown(t *testing.T) {
	for i, b := range scattered(60) {
		e := i % 31
		bit := arg(2, i%32, 0)
		up, down := elem(impl.ElemUp, bit, arg(5, e, 0)), elem(impl.ElemDown, bit, arg(5, e+1, 0))
		m := impl.MemPut(impl.MemPut(scatteredMem(uint64(i), b), up.Args[1], false), down.Args[1], false)
		last := false
		for n := range 64 {
			now := b>>n&1 == 1
			m = impl.MemPut(m, bit, now)
			var rose, fell bool
			m, rose = impl.ActTest(m, up)
			m, fell = impl.ActTest(m, down)
			if rose != (now && !last) || fell != (last && !now) {
				t.Fatalf("behind %v the bit is %v: up says %v, down %v", last, now, rose, fell)
			}
			// Asked once more the bit is as it was.
			if i%2 == 1 {
				m, rose = impl.ActTest(m, up)
				m, fell = impl.ActTest(m, down)
				if rose || fell {
					t.Fatalf("asked again up says %v, down %v", rose, fell)
				}
			}
			last = now
		}
	}
}

// P16, where one is asked only now and then: what the bit was between is not seen.
func TestActUpNowAndThen(t *testing.T) {
	bits, asked := scattered(200), scattered(400)[200:]
	for _, first := range bothWays {
		m, last := impl.MemPut(impl.Mem{}, arg(5, 9, 0), first), first
		for i := range bits {
			now := bits[i]>>7&1 == 1
			m = impl.MemPut(m, arg(3, 40, 0), now)
			if asked[i]>>9&3 > 0 {
				continue
			}
			op, want := impl.ElemUp, now && !last
			if asked[i]>>20&1 == 1 {
				op, want = impl.ElemDown, last && !now
			}
			var says bool
			m, says = impl.ActTest(m, elem(op, arg(3, 40, 0), arg(5, 9, 0)))
			if says != want {
				t.Fatalf("Op %d says %v where the bit was %v and is %v", op, says, last, now)
			}
			last = now
		}
	}
}

// scanTicks and scanCurrent are of one scan, by a fixed rule: at times current stays for long, at times it goes and comes.
func scanTicks(b uint64) uint16 {
	switch b & 7 {
	case 0:
		return 0
	case 1:
		return uint16(b >> 20)
	}
	return uint16(b >> 20 % 40)
}

func scanCurrent(b uint64, i int) bool { return i/40%3 > 0 && b>>50&7 > 0 || b>>50&7 == 7 }

var presets = []int{0, 1, 2, 7, 10, 39, 40, 100, 1000, 32766, 32767}

// P17: what a timer is, by the ticks of the scans since current was away last.
func TestActTimerByHistory(t *testing.T) {
	for _, preset := range presets {
		e := elem(impl.ElemTimer, arg(7, preset%16, 0), arg(11, preset, 0))
		m, ticks := impl.Mem{}, 0
		for i, b := range scattered(3000) {
			v, dt := scanCurrent(b, i), scanTicks(b)
			ticks += int(dt)
			if !v {
				ticks = 0
			}
			m = impl.ActDo(m, e, v, dt)
			want := impl.MemTimer{Done: v && ticks >= preset, Count: uint16(min(ticks, preset))}
			if m.T[preset%16] != want {
				t.Fatalf("preset %d: behind %d ticks with current it is %v", preset, ticks, m.T[preset%16])
			}
		}
	}
}

// P17, of the two others: hold counts all ticks with current, late those without it since it came last.
func TestActHoldAndLateByHistory(t *testing.T) {
	for _, preset := range presets {
		hold, late := elem(impl.ElemHold, arg(7, 3, 0), arg(11, preset, 0)), elem(impl.ElemLate, arg(7, 4, 0), arg(11, preset, 0))
		m, with, without, came, acted := impl.Mem{}, 0, 0, false, false
		for i, b := range scattered(3000) {
			v, dt := scanCurrent(b, i), scanTicks(b)
			m = impl.ActDo(impl.ActDo(m, hold, v, dt), late, v, dt)
			if v {
				with, without, came, acted = with+int(dt), 0, true, true
			} else {
				without += int(dt)
			}
			came = came && (v || without < preset)
			wantHold := impl.MemTimer{Done: acted && with >= preset, Count: uint16(min(with, preset))}
			wantLate := impl.MemTimer{Done: came}
			if came {
				wantLate.Count = uint16(without)
			}
			if m.T[3] != wantHold || m.T[4] != wantLate {
				t.Fatalf("preset %d: behind %d ticks with and %d without current they are %v and %v", preset, with, without, m.T[3], m.T[4])
			}
			if b>>33&63 == 0 {
				m = impl.ActDo(m, elem(impl.ElemReset, arg(7, 3, 0)), true, dt)
				with, acted = 0, false
			}
		}
	}
}

// All three timers at each count, tick and preset of the edges.
func TestActTimerStates(t *testing.T) {
	args := []impl.DevArg{arg(0, 0, 0), arg(11, -1, 0), arg(11, -32768, 0), arg(11, 32768, 0), arg(9, 0, 0), arg(9, 31, 0), arg(7, 5, 0), arg(8, 5, 0), arg(12, 5, 1)}
	for _, preset := range presets {
		args = append(args, arg(11, preset, 0))
	}
	m := plainMem()
	for _, count := range append(edgeCounts, 6, 7, 8, 39, 40, 41, 99, 100, 101) {
		for _, done := range bothWays {
			m.T[5] = impl.MemTimer{Done: done, Count: count}
			for _, dt := range edgeTicks {
				for _, a := range args {
					for op := impl.ElemTimer; op <= impl.ElemLate; op++ {
						checkDone(t, m, elem(op, arg(7, 5, 0), a), true, dt)
						checkDone(t, m, elem(op, arg(7, 5, 0), a), false, dt)
					}
				}
			}
		}
	}
}

// P18: what a counter is, by how often current came; a reset begins anew, but does not let current come again.
func TestActCounterByHistory(t *testing.T) {
	for _, preset := range presets {
		e := elem(impl.ElemCount, arg(8, preset%16, 0), arg(11, preset, 0))
		m, came, last := impl.Mem{}, 0, false
		for i, b := range scattered(3000) {
			v := scanCurrent(b, i)
			if v && !last {
				came++
			}
			last = v
			m = impl.ActDo(m, e, v, scanTicks(b))
			want := impl.MemCounter{Done: came >= preset, Last: v, Count: uint16(came)}
			if m.C[preset%16] != want {
				t.Fatalf("preset %d: behind %d comings it is %v", preset, came, m.C[preset%16])
			}
			if b>>33&255 == 0 {
				m, came = impl.ActDo(m, elem(impl.ElemReset, e.Args[0]), true, 1), 0
			}
		}
	}
}

// P18, to the greatest count and beyond.
func TestActCounterToTheEnd(t *testing.T) {
	e := elem(impl.ElemCount, arg(8, 0, 0), arg(11, 32767, 0))
	m := impl.Mem{}
	for came := 1; came <= 65540; came++ {
		m = impl.ActDo(impl.ActDo(m, e, true, 0), e, false, 0)
		if want := (impl.MemCounter{Done: came >= 32767, Count: uint16(min(came, 65535))}); m.C[0] != want {
			t.Fatalf("behind %d comings it is %v", came, m.C[0])
		}
	}
}

func TestActCounterStates(t *testing.T) {
	args := []impl.DevArg{arg(0, 0, 0), arg(11, -1, 0), arg(11, -32768, 0), arg(11, 32768, 0), arg(9, 0, 0), arg(9, 31, 0), arg(7, 5, 0), arg(8, 5, 0), arg(13, 1, 0)}
	for _, preset := range presets {
		args = append(args, arg(11, preset, 0), arg(11, preset+1, 0))
	}
	m := plainMem()
	for _, count := range append(edgeCounts, 6, 7, 8, 39, 40, 41, 99, 100, 101) {
		for marks := range 4 {
			m.C[5] = impl.MemCounter{Done: marks&1 > 0, Last: marks&2 > 0, Count: count}
			for _, a := range args {
				checkDone(t, m, elem(impl.ElemCount, arg(8, 5, 0), a), true, 7)
				checkDone(t, m, elem(impl.ElemCount, arg(8, 5, 0), a), false, 7)
			}
			checkDone(t, m, elem(impl.ElemReset, arg(8, 5, 0)), true, 7)
			checkDone(t, m, elem(impl.ElemReset, arg(8, 5, 0)), false, 7)
		}
	}
}

// withoutDevice is m with a device put back to what it is in another memory, whatever holds it.
func withoutDevice(m, other impl.Mem, a impl.DevArg) impl.Mem {
	switch a.Kind {
	case impl.DevT:
		m.T[a.N] = other.T[a.N]
	case impl.DevC:
		m.C[a.N] = other.C[a.N]
	case impl.DevD:
		m.D[a.N] = other.D[a.N]
	case impl.DevR:
		m.R[a.N] = other.R[a.N]
	default:
		m = wantPut(m, a, wantBit(other, a))
	}
	return m
}

// P19: what a coil that is ok may change, and which change nothing without current.
func TestActCoilsLeaveMemory(t *testing.T) {
	for _, e := range okElems() {
		if e.Op < impl.ElemOut {
			continue
		}
		for _, m := range fewMems()[:6] {
			for _, v := range bothWays {
				behind := impl.ActDo(m, e, v, 5)
				checkDone(t, m, e, v, 5)
				driven := e.Op == impl.ElemSet || e.Op == impl.ElemReset || e.Op == impl.ElemStep || e.Op == impl.ElemHold || e.Op >= impl.ElemMove
				if driven && !v && !sameMem(behind, m) {
					t.Errorf("%s leaves %q of %q without current", impl.ElemText(e), wantMemText(behind), wantMemText(m))
				}
				if m.Fault && !behind.Fault {
					t.Errorf("%s takes Fault away", impl.ElemText(e))
				}
				rest := withoutDevice(behind, m, e.Args[0])
				switch {
				case e.Op == impl.ElemPulse:
					rest = withoutDevice(rest, m, e.Args[1])
				case e.Op == impl.ElemStep:
					group := uint16(0xff) << (e.Args[0].N / 8 * 8)
					rest.S = rest.S&^group | m.S&group
				case e.Op == impl.ElemDiv || e.Op == impl.ElemRem || e.Op == impl.ElemWhole:
					rest.Fault = m.Fault
				}
				if !sameMem(rest, m) {
					t.Errorf("%s leaves %q of %q", impl.ElemText(e), wantMemText(behind), wantMemText(m))
				}
			}
		}
	}
}

// P19: a fault is where there is no number, and nowhere else; the register is as it was then.
func TestActFaultLeavesRegister(t *testing.T) {
	for _, a := range edgeWholes() {
		for _, b := range []int16{0, 1, -1, 7, -32768, 32767} {
			m := impl.Mem{D: [32]int16{1: a, 2: b, 3: 1234}}
			for op := impl.ElemAdd; op <= impl.ElemRem; op++ {
				behind := impl.ActDo(m, elem(op, arg(9, 3, 0), arg(9, 1, 0), arg(9, 2, 0)), true, 0)
				none := b == 0 && (op == impl.ElemDiv || op == impl.ElemRem)
				if behind.Fault != none || none && behind.D != m.D {
					t.Errorf("Op %d of %d and %d: Fault %v, D3 %d", op, a, b, behind.Fault, behind.D[3])
				}
				for place := range 3 {
					checkDone(t, m, elem(op, arg(9, 1+place, 0), arg(9, 1, 0), arg(9, 2, 0)), true, 0)
				}
			}
		}
	}
	for _, x := range edgeReals() {
		m := impl.Mem{D: [32]int16{3: 1234}, R: [16]float64{5: x}}
		behind := impl.ActDo(m, elem(impl.ElemWhole, arg(9, 3, 0), arg(10, 5, 0)), true, 0)
		n, ok := wantCut(x)
		if !ok {
			n = 1234
		}
		if behind.Fault == ok || behind.D[3] != n || !sameReal(behind.R[5], x) {
			t.Errorf("%v made whole: Fault %v, D3 %d", x, behind.Fault, behind.D[3])
		}
	}
}

// What is reckoned of real numbers at all edges, each with each, never faults.
func TestActRealsReckoned(t *testing.T) {
	for _, x := range edgeReals() {
		for _, y := range edgeReals() {
			m := impl.Mem{R: [16]float64{0: x, 1: y, 2: 7.5}}
			for op := impl.ElemAdd; op <= impl.ElemRem; op++ {
				behind, want := impl.ActDo(m, elem(op, arg(10, 2, 0), arg(10, 0, 0), arg(10, 1, 0)), true, 0), m
				want.R[2] = wantReal(op-30, x, y)
				if !sameMem(behind, want) {
					t.Errorf("Op %d of %v and %v is %v, Fault %v", op, x, y, behind.R[2], behind.Fault)
				}
			}
			for op := impl.ElemLess; op <= impl.ElemMore; op++ {
				checkSaid(t, m, elem(op, arg(10, 0, 0), arg(10, 1, 0)))
			}
		}
	}
}

// P20: behind a step just it is on of its eight, from whatever steps were on; the other eight are as they were.
func TestActStepIsTheOne(t *testing.T) {
	for steps := 0; steps < 65536; steps += 37 {
		for n := range 16 {
			m := impl.Mem{S: uint16(steps), Y: 0xf0, Ran: true}
			behind := impl.ActDo(m, elem(impl.ElemStep, arg(4, n, 0)), true, 0)
			for other := range 16 {
				on := steps>>other&1 == 1
				if other/8 == n/8 {
					on = other == n
				}
				if impl.MemBit(behind, arg(4, other, 0)) != on {
					t.Fatalf("step S%d at %b leaves %b", n, steps, behind.S)
				}
			}
			behind.S = m.S
			if !sameMem(behind, m) || !sameMem(impl.ActDo(m, elem(impl.ElemStep, arg(4, n, 0)), false, 0), m) {
				t.Fatalf("step S%d at %b changes something else", n, steps)
			}
		}
	}
}

// Contacts and coils behind each other, on one memory that goes on.
func TestActTogether(t *testing.T) {
	args := append(fewArgs(), arg(9, 1, 0), arg(9, 2, 0), arg(10, 1, 0), arg(10, 2, 0), arg(11, 3, 0), arg(7, 1, 0), arg(8, 1, 0))
	ok := okElems()
	m, want := impl.Mem{}, impl.Mem{}
	for i, b := range scattered(20000) {
		e := ok[b>>8%uint64(len(ok))]
		if b&3 == 0 {
			e = elem(int(b>>2%40), args[b>>10%uint64(len(args))], args[b>>20%uint64(len(args))], args[b>>30%uint64(len(args))])
		}
		v, dt := b>>60&1 == 1, scanTicks(b>>7)
		switch {
		case i%50 == 49:
			s := impl.ActSample{X: uint32(b), Dt: dt, In: [4]float64{float64(int16(b)), nan, minus0, math.Float64frombits(b)}}
			m = impl.ActStart(impl.ActEnd(m), s)
			want.X, want.Ran, want.Fault, want.Time = s.X, true, false, want.Time+uint32(dt)
			copy(want.R[12:], s.In[:])
		case e.Op < impl.ElemOut:
			var says, wantSays bool
			m, says = impl.ActTest(m, e)
			want, wantSays = wantSaid(want, e)
			if says != wantSays {
				t.Fatalf("behind %d parts %v says %v", i, e, says)
			}
		default:
			m, want = impl.ActDo(m, e, v, dt), wantDone(want, e, v, dt)
		}
		if !sameMem(m, want) {
			t.Fatalf("behind %d parts, the last %v, it is %q, not %q", i+1, e, wantMemText(m), wantMemText(want))
		}
	}
}

// What a call is handed is as it was behind it: the memory, the operands, and the room behind their end.
func TestActHandedIn(t *testing.T) {
	for _, e := range okElems() {
		spare := arg(7, 77, 7)
		room := append(slices.Clone(e.Args), spare, spare, spare)
		given := impl.Elem{Op: e.Op, Args: room[:len(e.Args)]}
		m := plainMem()
		before := m
		impl.ActTest(m, given)
		impl.ActDo(m, given, true, 5)
		impl.ActDo(m, given, false, 5)
		impl.ActEnd(m)
		if !sameMem(m, before) {
			t.Errorf("%v: %q has become %q", e, wantMemText(before), wantMemText(m))
		}
		if !slices.Equal(room, append(slices.Clone(e.Args), spare, spare, spare)) {
			t.Errorf("%v: its operands have become %v", e, room)
		}
	}
	// The room behind the operands is not asked either.
	room := []impl.DevArg{arg(9, 1, 0), arg(11, 6, 0), arg(11, 3, 0)}
	behind := impl.ActDo(impl.Mem{D: [32]int16{1: 5}}, impl.Elem{Op: impl.ElemDiv, Args: room[:2]}, true, 0)
	if !behind.Fault || behind.D[1] != 5 {
		t.Errorf("an operand behind the end is taken: D1 is %d", behind.D[1])
	}
}
