package tests

import (
	"fmt"
	"math"
	"reflect"
	"runtime"
	"slices"
	"strings"
	"sync"
	"testing"
	"time"

	"loop.example/stilscan/impl"
)

// askedContacts are the contacts that a net asks, in order, whatever they say.
func askedContacts(n impl.Net) []impl.Elem {
	var list []impl.Elem
	todo := []impl.Net{n}
	for len(todo) > 0 {
		n, todo = todo[0], todo[1:]
		switch n.Kind {
		case 1:
			list = append(list, n.One)
		case 2, 3:
			todo = slices.Concat(n.Kids, todo)
		case 4:
			todo = slices.Concat(n.Kids[:min(1, len(n.Kids))], todo)
		}
	}
	return list
}

// wantThrough is what a net makes of what its contacts have said, and what is left of that behind it.
func wantThrough(n impl.Net, said []bool) (bool, []bool) {
	kids := n.Kids
	switch n.Kind {
	case 1:
		return said[0], said[1:]
	case 2, 3:
	case 4:
		if len(kids) == 0 {
			return false, said
		}
		on, rest := wantThrough(kids[0], said)
		return !on, rest
	default:
		return true, said
	}
	var lets []bool
	for _, kid := range kids {
		var on bool
		on, said = wantThrough(kid, said)
		lets = append(lets, on)
	}
	if n.Kind == 2 {
		return !slices.Contains(lets, false), said
	}
	return slices.Contains(lets, true), said
}

// wantAsked asks all contacts of a net first, and only then looks what that comes to.
func wantAsked(m impl.Mem, n impl.Net) (impl.Mem, bool) {
	var said []bool
	for _, e := range askedContacts(n) {
		var on bool
		m, on = wantSaid(m, e)
		said = append(said, on)
	}
	on, rest := wantThrough(n, said)
	if len(rest) > 0 {
		panic("contacts are asked that no net has")
	}
	return m, on
}

// armWithCurrent is an arm that is still to come, and whether current comes to it.
type armWithCurrent struct {
	arm impl.Arm
	v   bool
}

func wantArm(m impl.Mem, a impl.Arm, v bool, dt uint16) impl.Mem {
	todo := []armWithCurrent{{a, v}}
	for len(todo) > 0 {
		next := todo[0]
		behind, on := wantAsked(m, next.arm.Net)
		b := on && next.v
		m = behind
		for _, coil := range next.arm.Coils {
			m = wantDone(m, coil, b, dt)
		}
		var kids []armWithCurrent
		for _, kid := range next.arm.Kids {
			kids = append(kids, armWithCurrent{kid, b})
		}
		todo = append(kids, todo[1:]...)
	}
	return m
}

func wantRun(rungs []impl.Arm, m impl.Mem, samples []impl.ActSample) impl.Mem {
	if wantFault(rungs) != (impl.TreeFault{}) || len(samples) > 100 {
		return m
	}
	for _, s := range samples {
		m.X, m.Fault, m.Time = s.X, false, m.Time+uint32(s.Dt)
		m.R[12], m.R[13], m.R[14], m.R[15] = s.In[0], s.In[1], s.In[2], s.In[3]
		for _, rung := range rungs {
			m = wantArm(m, rung, true, s.Dt)
		}
		m.Ran = true
	}
	return m
}

// memOf is the memory of a text.
func memOf(text string) impl.Mem {
	m, ok := impl.MemRead(text)
	if !ok {
		panic("no memory: " + text)
	}
	return m
}

// checkNet holds EvalNet at any net, right or wrong, against the rules above.
func checkNet(t *testing.T, m impl.Mem, n impl.Net) {
	t.Helper()
	behind, on := impl.EvalNet(m, n)
	if want, wantOn := wantAsked(m, n); on != wantOn || !sameMem(behind, want) {
		t.Errorf("EvalNet is %v and %q at %q, not %v and %q: %.300s", on, wantMemText(behind), wantMemText(m), wantOn, wantMemText(want), fmt.Sprint(n))
	}
}

// checkArm holds EvalArm at any arm, right or wrong, with current and without.
func checkArm(t *testing.T, m impl.Mem, a impl.Arm, dt uint16) {
	t.Helper()
	for _, v := range bothWays {
		if behind, want := impl.EvalArm(m, a, v, dt), wantArm(m, a, v, dt); !sameMem(behind, want) {
			t.Errorf("EvalArm with %v, %d is %q at %q, not %q: %.300s", v, dt, wantMemText(behind), wantMemText(m), wantMemText(want), fmt.Sprint(a))
		}
	}
}

// checkRun holds EvalRun, and EvalScan scan by scan, at any ladder and at any number of samples.
func checkRun(t *testing.T, rungs []impl.Arm, m impl.Mem, samples []impl.ActSample) {
	t.Helper()
	if behind, want := impl.EvalRun(rungs, m, samples), wantRun(rungs, m, samples); !sameMem(behind, want) {
		t.Errorf("EvalRun of %d samples is %q at %q, not %q: %.300s", len(samples), wantMemText(behind), wantMemText(m), wantMemText(want), ladderText(rungs))
	}
	for i := range samples[:min(len(samples), 10)] {
		behind, want := impl.EvalScan(rungs, m, samples[i]), wantRun(rungs, m, samples[i:i+1])
		if !sameMem(behind, want) {
			t.Errorf("EvalScan %d is %q at %q, not %q: %.300s", i, wantMemText(behind), wantMemText(m), wantMemText(want), ladderText(rungs))
		}
		m = behind
	}
}

// newCloseMaker makes ladders of a few devices, so that what one part does another one asks for.
func newCloseMaker(seed int, wrong int) *maker {
	m := &maker{dice: dice{uint64(seed)}, wrong: wrong}
	for _, text := range strings.Fields(`X0 X1 /X0 M0 /M0 M1 Y0 /Y1 S0 /S3 S8 T0 /T0 C0 /C0 G0 G1 G2 G3 G4 +X0:E0 -X0:E0 +X1:E0 -X1:E1 +M0:E1 -M0:E1 +M0:E0 +G0:E2 -T0:E2 +C0:E1 +Y0:E2
		D0<D1 D0>=3 C0>=2 T0<5 D1<>0 C0=D0 R0<R1 R0>=0.5 R12>R0 R1<>R1`) {
		m.contacts = append(m.contacts, part(text))
	}
	for _, text := range strings.Fields(`out:Y0 out:M0 out:M1 set:M0 reset:M0 set:Y1 reset:Y1 pulse:M0,E0 pulse:Y0,E1 pulse:M1,E2 step:S0 step:S3 step:S8 set:S1 reset:S3
		timer:T0,5 hold:T0,9 late:T0,7 timer:T0,0 reset:T0 count:C0,2 count:C0,0 reset:C0 move:D0,D1 move:D1,3 add:D0,D0,1 sub:D1,D0,D1 mul:D1,D1,3 div:D0,D0,D1 rem:D1,D0,D1 move:D0,C0 move:D1,T0
		move:R0,R12 add:R0,R0,0.5 mul:R1,R0,R13 div:R1,R0,R1 real:R0,C0 whole:D0,R0 whole:D1,R12 real:R1,D0`) {
		m.coils = append(m.coils, part(text))
	}
	return m
}

// samplesOf are n samples by a fixed rule, most of them with few bits and few ticks.
func samplesOf(seed int, n int) []impl.ActSample {
	d := dice{uint64(seed)}
	reals := []float64{0, minus0, 0.5, 1, -2.5, 7, 40000, inf, nan}
	var list []impl.ActSample
	for range n {
		s := impl.ActSample{X: uint32(d.roll(4)), Dt: uint16(d.roll(6))}
		if d.roll(10) == 0 {
			s.X, s.Dt = uint32(d.roll(1<<31))*2+1, uint16(d.roll(65536))
		}
		for place := range s.In {
			s.In[place] = reals[d.roll(len(reals))]
		}
		list = append(list, s)
	}
	return list
}

// evalMems are memories of every sort.
func evalMems() []impl.Mem {
	list := fewMems()
	for i, b := range scattered(12) {
		list = append(list, scatteredMem(uint64(i)+50, b|b>>3))
	}
	return append(list, memOf("X0 X1 Y0 M0 E0 E1 T0=3 C0=1+ D0=2"), memOf("E0 E1 E2 T0=5! C0=2! D1=3 time=4294967290 ran fault"), memOf("Y1 M1 S0 S3 S8 D0=-32768 D1=-1 R0=-0 R1=nan time=499"))
}

func TestEvalTable(t *testing.T) {
	if impl.EvalMaxScans != 100 {
		t.Error("the bound is not that of the document")
	}
}

// The document's example, scan by scan; its normal form, and a form with more parts, mean the same.
func TestEvalExample(t *testing.T) {
	wants := []string{
		"X0 Y0 time=2 ran", "X0 X1 Y0 E0 C0=1+ time=4 ran", "X0 Y0 C0=1 time=6 ran", "X0 X1 Y0 M0 E0 T0=2 C0=2!+ R0=1*2^1 time=8 ran",
		"X0 X1 M0 E0 T0=4 C0=2! R0=1*2^1 time=10 ran", "X0 X1 E0 T0=5! R0=1*2^1 time=12 ran", "X0 X1 Y0 E0 R0=1*2^1 time=14 ran",
	}
	var samples []impl.ActSample
	for _, x := range []uint32{1, 3, 1, 3, 3, 3, 3} {
		samples = append(samples, impl.ActSample{X: x, Dt: 2})
	}
	more := exampleLadder()
	more[0] = arm(contact("X0"), "", arm(or(contact("/M0")), "", arm(impl.Net{}, "out:Y0", more[0].Kids...)))
	more[1] = arm(and(or(contact("M0"))), "timer:T0,5", arm(impl.Net{}, "real:R0,C0"))
	for _, rungs := range [][]impl.Arm{exampleLadder(), impl.NormMake(exampleLadder()), more} {
		m := impl.Mem{}
		for i, want := range wants {
			m = impl.EvalScan(rungs, m, samples[i])
			if text := impl.MemText(m); text != want {
				t.Errorf("behind scan %d it is %q, not %q", i+1, text, want)
			}
			if text := impl.MemText(impl.EvalRun(rungs, impl.Mem{}, samples[:i+1])); text != want {
				t.Errorf("behind a run of %d it is %q, not %q", i+1, text, want)
			}
		}
		checkRun(t, rungs, impl.Mem{}, samples)
	}
}

type netCase struct {
	mem  string
	n    impl.Net
	on   bool
	want string
}

func checkNetCases(t *testing.T, cases []netCase) {
	t.Helper()
	for i, c := range cases {
		behind, on := impl.EvalNet(memOf(c.mem), c.n)
		if text := impl.MemText(behind); on != c.on || text != c.want {
			t.Errorf("case %d: %v and %q at %q, not %v and %q: %v", i, on, text, c.mem, c.on, c.want, c.n)
		}
		for _, m := range append(fewMems(), memOf(c.mem)) {
			checkNet(t, m, c.n)
			checkArm(t, m, impl.Arm{Net: c.n, Coils: []impl.Elem{part("out:Y0"), part("timer:T0,5")}}, 3)
		}
	}
}

func TestEvalNetEdges(t *testing.T) {
	x0, x1, on, off, none := contact("X0"), contact("X1"), contact("G0"), contact("G1"), impl.Net{}
	up, down := contact("+X0:E0"), contact("-X0:E0")
	checkNetCases(t, []netCase{
		{"X0", x0, true, "X0"}, {"X0", x1, false, "X0"}, {"X0", contact("/X0"), false, "X0"}, {"D1=5", contact("D1>=5"), true, "D1=5"}, {"R1=nan", contact("R1=R1"), false, "R1=nan"},
		{"X0", up, true, "X0 E0"}, {"X0 E0", up, false, "X0 E0"}, {"E0", up, false, ""}, {"E0", down, true, ""}, {"X0", down, false, "X0 E0"},
		{"X0", and(x0), true, "X0"}, {"X0", and(x0, x1), false, "X0"}, {"X0", and(x1, x0), false, "X0"}, {"X0 X1", and(x0, x1), true, "X0 X1"}, {"X0 X1", and(x0, x1, off), false, "X0 X1"},
		{"X0", or(x0), true, "X0"}, {"X0", or(x0, x1), true, "X0"}, {"X0", or(x1, x0), true, "X0"}, {"", or(x0, x1), false, ""}, {"X0 X1", or(x0, x1), true, "X0 X1"}, {"", or(x0, x1, on), true, ""},
		{"X0", not(x0), false, "X0"}, {"X0", not(x1), true, "X0"}, {"X0", not(not(x0)), true, "X0"}, {"X0", not(not(not(x0))), false, "X0"}, {"X0", not(and(x0, x1)), true, "X0"}, {"X0", not(or(x0, x1)), false, "X0"},
		// Of no kids.
		{"X0", and(), true, "X0"}, {"X0", or(), false, "X0"}, {"X0", not(), false, "X0"}, {"X0", none, true, "X0"},
		{"", joint(impl.NetAnd, []impl.Net{}...), true, ""}, {"", impl.Net{Kind: impl.NetOr, Kids: []impl.Net{}}, false, ""}, {"", impl.Net{Kind: impl.NetNot, Kids: []impl.Net{}}, false, ""},
		{"", not(and()), false, ""}, {"", not(or()), true, ""}, {"", not(not()), true, ""}, {"", not(none), false, ""},
		{"", and(and()), true, ""}, {"", and(or()), false, ""}, {"", and(not()), false, ""}, {"", and(none), true, ""}, {"", and(none, and(), on), true, ""}, {"", and(on, or()), false, ""},
		{"", or(and()), true, ""}, {"", or(or()), false, ""}, {"", or(not()), false, ""}, {"", or(none), true, ""}, {"", or(or(), not(), off), false, ""}, {"", or(off, and()), true, ""},
		// A NetNot of two asks the first alone.
		{"X0", not(x0, x1), false, "X0"}, {"X0", not(x1, x0), true, "X0"}, {"X0", not(x1, x1, x0), true, "X0"}, {"X0", not(x0, none), false, "X0"},
		{"X0", not(x1, up), true, "X0"}, {"X0", not(x0, up), false, "X0"}, {"X0", not(up, contact("+X0:E1")), false, "X0 E0"}, {"X0 E0", not(up, contact("+X0:E1"), contact("+X0:E2")), true, "X0 E0"},
		{"X0", and(x0, not(x1, up), contact("+X0:E1")), true, "X0 E1"}, {"X0", or(not(x0, up), off), false, "X0"},
		// Each contact has the memory as those ahead have left it.
		{"X0", and(up, up), false, "X0 E0"}, {"X0", or(up, up), true, "X0 E0"}, {"X0", and(up, not(up)), true, "X0 E0"}, {"X0", and(not(up), up), false, "X0 E0"}, {"X0", or(not(up), up), false, "X0 E0"},
		{"E0", and(down, down), false, ""}, {"E0", or(down, down), true, ""}, {"E0", and(down, not(down)), true, ""}, {"X0", and(up, down), false, "X0 E0"}, {"X0", or(down, up), false, "X0 E0"},
		{"X0", and(up, contact("+X1:E0")), false, "X0"}, {"X0", and(contact("+X1:E0"), up), false, "X0 E0"}, {"X0", or(contact("-X1:E0"), up), true, "X0 E0"}, {"X0", or(up, contact("-X1:E0")), true, "X0"}, {"X0", and(up, contact("-X1:E0")), true, "X0"},
		{"X0", and(and(up), or(up)), false, "X0 E0"}, {"X0", and(or(up, up), not(or(up, up))), true, "X0 E0"}, {"X0", not(and(not(up), up)), true, "X0 E0"},
	})
}

// One is looked at for a NetContact alone, Kids for the three others alone.
func TestEvalNetWrong(t *testing.T) {
	x0, x1, up, more := contact("X0"), contact("X1"), contact("+X0:E0"), contact("+X0:E1")
	cases := []netCase{
		{"X0", impl.Net{Kind: impl.NetContact, One: part("X0"), Kids: []impl.Net{more, or()}}, true, "X0"},
		{"X0", impl.Net{Kind: impl.NetContact, One: part("X1"), Kids: []impl.Net{x0}}, false, "X0"},
		{"X0", impl.Net{Kind: impl.NetContact, One: part("+X0:E0"), Kids: []impl.Net{more}}, true, "X0 E0"},
		{"X0", impl.Net{Kind: impl.NetContact, Kids: []impl.Net{x0}}, false, "X0"},
		{"X0", impl.Net{Kind: impl.NetAnd, One: part("+X0:E0"), Kids: []impl.Net{x0}}, true, "X0"},
		{"X0", impl.Net{Kind: impl.NetAnd, One: part("X1"), Kids: []impl.Net{more}}, true, "X0 E1"},
		{"X0", impl.Net{Kind: impl.NetAnd, One: part("+X0:E0")}, true, "X0"},
		{"X0", impl.Net{Kind: impl.NetOr, One: part("X0"), Kids: []impl.Net{x1}}, false, "X0"},
		{"X0", impl.Net{Kind: impl.NetOr, One: part("+X0:E0"), Kids: []impl.Net{more}}, true, "X0 E1"},
		{"X0", impl.Net{Kind: impl.NetOr, One: part("X0")}, false, "X0"},
		{"X0", impl.Net{Kind: impl.NetNot, One: part("+X0:E0"), Kids: []impl.Net{x1}}, true, "X0"},
		{"X0", impl.Net{Kind: impl.NetNot, One: part("X1")}, false, "X0"},
		{"X0", and(x0, joint(7, up), more), true, "X0 E1"},
		{"X0", and(x1, joint(-1, up), more), false, "X0 E1"},
		{"X0", and(up, not(), more), false, "X0 E0 E1"},
		{"X0", or(x0, not(), joint(9, up), or(), more), true, "X0 E1"},
		{"X0", not(joint(5, up)), false, "X0"},
		{"X0", not(impl.Net{Kind: impl.NetContact, One: part("+X0:E0"), Kids: []impl.Net{more}}), false, "X0 E0"},
		// Contacts that are not ok say what chapter 5 says of them.
		{"X0", impl.Net{Kind: impl.NetContact}, false, "X0"},
		{"X0", impl.Net{Kind: impl.NetContact, One: part("out:Y0")}, false, "X0"},
		{"X0", impl.Net{Kind: impl.NetContact, One: part("set:Y0")}, false, "X0"},
		{"X0", impl.Net{Kind: impl.NetContact, One: elem(1)}, false, "X0"},
		{"X0", impl.Net{Kind: impl.NetContact, One: elem(2)}, true, "X0"},
		{"X0", impl.Net{Kind: impl.NetContact, One: elem(3, arg(1, 0, 0))}, true, "X0"},
		{"X0", impl.Net{Kind: impl.NetContact, One: elem(3, arg(1, 32, 0), arg(5, -32, 0))}, true, "X0 E0"},
		{"X0", impl.Net{Kind: impl.NetContact, One: elem(1, arg(1, -32, 9), arg(1, 1, 0))}, true, "X0"},
		{"X0", and(x0, impl.Net{Kind: impl.NetContact, One: elem(11, arg(1, 0, 0))}, up), false, "X0 E0"},
		{"X0", or(impl.Net{Kind: impl.NetContact, One: elem(77, arg(1, 0, 0))}, not(impl.Net{Kind: impl.NetContact})), true, "X0"},
	}
	for _, kind := range []int{impl.NetNone, -1, -2, -4, 5, 6, 100, 256 + 1, 256 + 3, 1<<32 + 1, 1<<32 + 4, math.MinInt, math.MaxInt} {
		cases = append(cases,
			netCase{"X0", impl.Net{Kind: kind}, true, "X0"},
			netCase{"X0", impl.Net{Kind: kind, One: part("X1")}, true, "X0"},
			netCase{"X0", impl.Net{Kind: kind, One: part("+X0:E0"), Kids: []impl.Net{more, or(), x1}}, true, "X0"},
			netCase{"X0", not(impl.Net{Kind: kind, One: part("+X0:E0"), Kids: []impl.Net{more}}), false, "X0"},
			netCase{"X0", or(x1, joint(kind, x1), more), true, "X0 E1"},
			netCase{"X0", and(x0, joint(kind, x1), more), true, "X0 E1"})
	}
	checkNetCases(t, cases)
}

// P27 in cases written out: edges behind what lets nothing through, and beside what lets current through.
func TestEvalAskedEdges(t *testing.T) {
	on, off := contact("G0"), contact("G1")
	up, down := contact("+X0:E0"), contact("-X1:E1")
	checkNetCases(t, []netCase{
		{"X0", and(off, up), false, "X0 E0"}, {"E1", and(off, down), false, ""}, {"X0 E1", and(off, up, down), false, "X0 E0"}, {"X0 E1", and(up, off, down), false, "X0 E0"},
		{"X0", or(on, up), true, "X0 E0"}, {"E1", or(on, down), true, ""}, {"X0 E1", or(on, up, down), true, "X0 E0"}, {"X0 E1", or(up, on, down), true, "X0 E0"},
		{"X0", and(or(), up), false, "X0 E0"}, {"X0", and(not(), up), false, "X0 E0"}, {"X0", or(and(), up), true, "X0 E0"}, {"X0", or(impl.Net{}, up), true, "X0 E0"},
		{"X0", and(off, and(off, up)), false, "X0 E0"}, {"X0", and(off, or(on, up)), false, "X0 E0"}, {"X0", or(on, and(off, up)), true, "X0 E0"}, {"X0", or(on, or(on, up)), true, "X0 E0"}, {"X0", and(off, not(up)), false, "X0 E0"}, {"X0", or(on, not(up)), true, "X0 E0"},
		{"X0", not(and(off, up)), true, "X0 E0"}, {"X0", not(or(on, up)), false, "X0 E0"}, {"X0", not(not(and(off, up))), false, "X0 E0"},
		{"X0 E1", and(and(off, up), or(on, down)), false, "X0 E0"}, {"X0 E1", or(or(on, up), and(off, down)), true, "X0 E0"}, {"X0 E1", or(and(off, up), not(or(on, down))), false, "X0 E0"},
		{"X0", and(off, off, off, up), false, "X0 E0"}, {"X0", or(on, on, on, up), true, "X0 E0"}, {"X0", and(up, up, up, contact("+X0:E3")), false, "X0 E0 E3"},
	})
}

// P27: what stands ahead changes what a net says, and never what it leaves behind, wherever in other nets both stand.
func TestEvalEachAsked(t *testing.T) {
	firsts := []impl.Net{contact("G0"), contact("G1"), contact("X0"), contact("/X0"), and(), or(), not(), {}, not(contact("M0")), and(contact("X0"), contact("G1")), or(contact("X1"), contact("D0<D1"))}
	changing := []impl.Net{contact("+X0:E0"), contact("-X0:E0"), and(contact("G1"), contact("+X1:E1")), or(contact("G0"), contact("-M0:E2")), not(contact("+X0:E2"))}
	for seed := range 150 {
		d := newCloseMaker(300+seed, seed%3*8)
		second, m := d.net(seed%5), evalMems()[seed%len(evalMems())]
		m.X, m.E = uint32(d.roll(4)), uint32(d.roll(8))
		for i, first := range append(slices.Clone(firsts), changing...) {
			between, firstOn := impl.EvalNet(m, first)
			if i < len(firsts) {
				between = m
			}
			alone, on := impl.EvalNet(between, second)
			for _, c := range []struct {
				n  impl.Net
				on bool
			}{
				{and(first, second), firstOn && on}, {or(first, second), firstOn || on},
				{and(first, and(second)), firstOn && on}, {or(first, or(second)), firstOn || on},
				{and(first, not(second)), firstOn && !on}, {or(not(first), not(second)), !firstOn || !on},
				{not(and(or(first), second)), !(firstOn && on)}, {not(or(and(first), second)), !(firstOn || on)},
			} {
				if behind, lets := impl.EvalNet(m, c.n); lets != c.on || !sameMem(behind, alone) {
					t.Errorf("EvalNet is %v and %q at %q, not %v and %q: %v", lets, wantMemText(behind), wantMemText(m), c.on, wantMemText(alone), c.n)
				}
			}
			// An arm without coils leaves what its nets leave, with current or without.
			for _, v := range bothWays {
				for _, a := range []impl.Arm{arm(and(first, second), ""), arm(first, "", arm(second, "")), arm(impl.Net{}, "", arm(or(first), ""), arm(impl.Net{}, "", arm(second, "")))} {
					if behind := impl.EvalArm(m, a, v, 3); !sameMem(behind, alone) {
						t.Errorf("EvalArm with %v is %q at %q, not %q: %v", v, wantMemText(behind), wantMemText(m), wantMemText(alone), a)
					}
				}
			}
		}
	}
}

type armCase struct {
	mem  string
	a    impl.Arm
	v    bool
	dt   uint16
	want string
}

func checkArmCases(t *testing.T, cases []armCase) {
	t.Helper()
	for i, c := range cases {
		if text := impl.MemText(impl.EvalArm(memOf(c.mem), c.a, c.v, c.dt)); text != c.want {
			t.Errorf("case %d: %q at %q with %v and %d ticks, not %q: %v", i, text, c.mem, c.v, c.dt, c.want, c.a)
		}
		for _, m := range append(fewMems(), memOf(c.mem)) {
			checkArm(t, m, c.a, c.dt)
			checkArm(t, m, c.a, 65535)
		}
	}
}

func TestEvalArmEdges(t *testing.T) {
	x0, on, off, none := contact("X0"), contact("G0"), contact("G1"), impl.Net{}
	checkArmCases(t, []armCase{
		{"X0 Y1", impl.Arm{}, true, 5, "X0 Y1"}, {"X0 Y1", impl.Arm{}, false, 5, "X0 Y1"},
		{"", arm(none, "out:Y0"), true, 5, "Y0"}, {"Y0", arm(none, "out:Y0"), false, 5, ""},
		{"X0", arm(x0, "out:Y0"), true, 0, "X0 Y0"}, {"X0 Y0", arm(x0, "out:Y0"), false, 0, "X0"}, {"Y0", arm(x0, "out:Y0"), true, 0, ""}, {"Y0", arm(x0, "out:Y0"), false, 0, ""},
		{"Y0", arm(or(), "out:Y0"), true, 0, ""}, {"", arm(and(), "out:Y0"), true, 0, "Y0"}, {"Y0", arm(and(), "out:Y0"), false, 0, ""},
		// The net is asked also where no current comes.
		{"X1 Y0", arm(and(off, contact("+X1:E0")), "out:Y0"), false, 0, "X1 E0"}, {"X1 Y0", arm(and(off, contact("+X1:E0")), "out:Y0"), true, 0, "X1 E0"},
		{"X1", arm(contact("+X1:E0"), "set:Y0"), false, 0, "X1 E0"}, {"X1", arm(contact("+X1:E0"), "set:Y0"), true, 0, "X1 Y0 E0"}, {"E0", arm(contact("-X1:E0"), "set:Y0"), false, 0, ""},
		{"X0 X1 Y0", arm(off, "", arm(contact("+X0:E0"), "", arm(contact("+X1:E1"), "out:Y0"))), true, 0, "X0 X1 E0 E1"},
		{"X0 X1 Y0", arm(on, "", arm(contact("+X0:E0"), "", arm(contact("+X1:E1"), "out:Y0"))), false, 0, "X0 X1 E0 E1"},
		{"X0 X1", arm(on, "", arm(contact("+X0:E0"), "", arm(contact("+X1:E1"), "out:Y0"))), true, 0, "X0 X1 Y0 E0 E1"},
		// What came behind the net stays, whatever the coils have changed.
		{"", arm(contact("/M0"), "out:M0 set:Y0", arm(none, "set:Y1"), arm(contact("M0"), "set:Y2"), arm(contact("/M0"), "set:Y3")), true, 0, "Y0 Y1 Y2 M0"},
		{"M0", arm(contact("M0"), "reset:M0 set:Y0", arm(none, "set:Y1"), arm(contact("M0"), "set:Y2"), arm(contact("/M0"), "set:Y3")), true, 0, "Y0 Y1 Y3"},
		{"Y0 Y1 M1", arm(contact("M0"), "out:M1 out:Y0", arm(none, "out:Y1", arm(contact("/M1"), "set:M2"))), true, 0, ""},
		{"", arm(contact("D0=0"), "add:D0,D0,1 add:D0,D0,1", arm(none, "add:D0,D0,1", arm(contact("D0=3"), "set:M0")), arm(contact("D0<3"), "set:M1")), true, 0, "M0 D0=3"},
		{"X0", arm(contact("+X0:E0"), "set:Y0", arm(contact("+X0:E0"), "set:Y1"), arm(contact("X0"), "set:Y2")), true, 0, "X0 Y0 Y2 E0"},
		{"", arm(contact("/T0"), "timer:T0,0 set:Y0", arm(contact("T0"), "set:Y1")), true, 0, "Y0 Y1 T0=0!"},
		{"", arm(contact("/S3"), "step:S3 set:S0", arm(contact("S3"), "step:S8", arm(contact("S0"), "step:S1"))), true, 0, "S1 S8"},
		// Also where a kid changes it, ahead of the next one; and each kid has the memory as the one ahead has left it.
		{"", arm(contact("/M0"), "", arm(none, "set:M0"), arm(none, "set:M1"), arm(contact("M0"), "set:M2")), true, 0, "M0 M1 M2"},
		{"", arm(on, "", arm(contact("M0"), "set:M2"), arm(none, "set:M0")), true, 0, "M0"},
		{"", arm(on, "", arm(on, "move:D0,1", arm(on, "move:D0,2")), arm(contact("D0=2"), "set:M0")), true, 0, "M0 D0=2"},
		{"", arm(on, "", arm(on, "move:D0,1", arm(contact("D0=1"), "move:D0,2"), arm(contact("D0=2"), "move:D0,3")), arm(contact("D0=3"), "move:D0,4")), true, 0, "D0=4"},
		{"", arm(on, "move:D0,1", arm(contact("D0=1"), "move:D0,2 set:M0")), true, 0, "M0 D0=2"},
		{"X0", arm(on, "", arm(contact("+X0:E0"), "set:Y0"), arm(contact("+X0:E0"), "set:Y1"), arm(contact("+X0:E1"), "set:Y2")), true, 0, "X0 Y0 Y2 E0 E1"},
		// To a kid comes what came to the one ahead, and not what came behind that.
		{"Y0", arm(on, "", arm(off, "out:Y0"), arm(none, "out:Y1"), arm(on, "out:Y2")), true, 0, "Y1 Y2"},
		{"Y0 Y1", arm(off, "", arm(on, "out:Y0"), arm(none, "out:Y1")), true, 0, ""},
		{"Y0", arm(on, "", arm(on, "out:Y1", arm(off, "out:Y0", arm(on, "out:Y0"))), arm(on, "out:Y2")), true, 0, "Y1 Y2"},
		// Coils act in order, with current and without, and the ticks come to those of kids too.
		{"", arm(on, "move:D0,1 move:D0,2"), true, 0, "D0=2"}, {"", arm(on, "set:M0 reset:M0"), true, 0, ""}, {"", arm(on, "reset:M0 set:M0"), true, 0, "M0"}, {"", arm(on, "pulse:Y0,E0 pulse:Y1,E0"), true, 0, "Y0 E0"},
		{"", arm(on, "timer:T0,10 hold:T1,10", arm(on, "timer:T2,10 late:T3,5", arm(on, "hold:T4,3"))), true, 4, "T0=4 T1=4 T2=4 T3=0! T4=3!"},
		{"T0=4 T1=4 T2=4 T3=0! T4=3!", arm(on, "timer:T0,10 hold:T1,10", arm(on, "timer:T2,10 late:T3,5", arm(on, "hold:T4,3"))), false, 3, "T1=4 T3=3! T4=3!"},
		{"", arm(on, "timer:T0,10 timer:T0,10"), true, 4, "T0=8"}, {"C0=1+", arm(off, "", arm(on, "count:C0,2")), true, 0, "C0=1"}, {"C0=1", arm(on, "count:C0,2", arm(contact("C0"), "reset:C0")), true, 0, "C0=0+"},
		{"", arm(on, "div:D0,D0,D1 set:M1", arm(contact("G3"), "set:M0")), true, 0, "M0 M1 fault"}, {"", arm(off, "div:D0,D0,D1", arm(contact("G3"), "set:M0")), true, 0, ""}, {"fault", arm(on, "move:D0,7"), true, 0, "D0=7 fault"},
	})
}

// Arms that no ladder may have, and coils that are not ok.
func TestEvalArmWrong(t *testing.T) {
	on := contact("G0")
	coils := func(list ...impl.Elem) impl.Arm { return impl.Arm{Net: on, Coils: list} }
	many := arm(on, strings.TrimSpace(strings.Repeat("add:D0,D0,1 ", 500)))
	many.Kids = slices.Repeat([]impl.Arm{arm(on, "add:D1,D1,1")}, 500)
	checkArmCases(t, []armCase{
		{"X0", coils(impl.Elem{}), true, 0, "X0"},
		{"X0", coils(part("+X0:E0"), part("X0"), part("-X0:E1")), true, 0, "X0"}, // a contact among coils is not asked
		{"X0", coils(elem(impl.ElemOut), elem(impl.ElemSet), part("out:Y1")), true, 0, "X0 Y1"},
		{"X0", coils(elem(impl.ElemSet, arg(2, 32, 0))), true, 0, "X0 Y0"},
		{"X0", coils(elem(impl.ElemOut, arg(5, 0, 0)), elem(impl.ElemOut, arg(1, 3, 0)), elem(impl.ElemTimer, arg(8, 0, 0), arg(11, 5, 0))), true, 3, "X0"},
		{"X0", coils(elem(20, arg(2, 0, 0)), elem(38, arg(2, 0, 0)), elem(-21, arg(2, 0, 0))), true, 0, "X0"},
		{"", coils(elem(impl.ElemDiv, arg(2, 0, 0), arg(11, 5, 0))), true, 0, "fault"},
		{"", coils(elem(impl.ElemTimer, arg(7, 16, 0), arg(11, 70000, 0))), true, 3, "T0=3"},
		{"X0", impl.Arm{Net: joint(9, contact("+X0:E0")), Coils: []impl.Elem{part("out:Y0")}}, true, 0, "X0 Y0"},
		{"X0", impl.Arm{Net: impl.Net{One: part("X1")}, Coils: []impl.Elem{part("out:Y0")}, Kids: make([]impl.Arm, 3)}, true, 0, "X0 Y0"},
		{"X0", impl.Arm{Net: not(contact("X1"), contact("+X0:E0")), Kids: []impl.Arm{{}, {Net: or(), Coils: []impl.Elem{part("out:Y1")}}, {Coils: []impl.Elem{part("out:Y0")}}}}, true, 0, "X0 Y0"},
		{"", many, true, 0, "D0=500 D1=500"},
		{"", many, false, 0, ""},
	})
}

// Scattered nets and arms, right ones and wrong ones, on memories of every sort.
func TestEvalScatteredParts(t *testing.T) {
	mems := evalMems()
	for _, wrong := range []int{0, 3, 10, 25} {
		near, far := newCloseMaker(4000+wrong, wrong), newMaker(4100+wrong, wrong)
		for i := range 1200 {
			d := near
			if i%3 == 0 {
				d = far
			}
			m := mems[d.roll(len(mems))]
			checkNet(t, m, d.net(i%6))
			checkArm(t, m, d.nestedArm(i%4, false), uint16(d.roll(20)))
			checkArm(t, m, d.arm(2, true), uint16(d.roll(65536)))
		}
	}
}

// scanned are ladders with rungs that ask for what others do.
func scanned() [][]impl.Arm {
	list := [][]impl.Arm{
		nil, exampleLadder(), nestedLadder(), normalLadder(),
		ladder(arm(contact("G0"), "add:D0,D0,1")),
		ladder(arm(contact("/M0"), "out:M0"), arm(contact("M0"), "count:C0,3"), arm(contact("C0"), "reset:C0 add:D0,D0,1")),
		ladder(arm(contact("G2"), "step:S0 step:S8"), arm(and(contact("S0"), contact("+X0:E0")), "step:S1"), arm(and(contact("S1"), contact("+X0:E0")), "step:S0"), arm(contact("S1"), "timer:T0,7 late:T1,9 hold:T2,20")),
		ladder(arm(contact("R12>R0"), "move:R0,R12 whole:D1,R0", arm(contact("G3"), "out:Y0")), arm(contact("G4"), "pulse:Y1,E5 div:D2,D1,D3"), arm(or(contact("G3"), contact("-X1:E6")), "add:R1,R13,R14 rem:D4,D1,7")),
	}
	near := newCloseMaker(71, 0)
	for range 60 {
		list = append(list, near.nestedLadder())
	}
	return list
}

// Scans by texts: what a sample brings, what the rungs make of it in order, and that it has run.
func TestEvalScanEdges(t *testing.T) {
	on := contact("G0")
	for i, c := range []struct {
		rungs  []impl.Arm
		mem    string
		sample impl.ActSample
		want   string
	}{
		{nil, "", impl.ActSample{}, "ran"},
		{nil, "X3 Y1 R12=1*2^0 time=4294967295 fault", impl.ActSample{X: 5, Dt: 3, In: [4]float64{0, 2, minus0, nan}}, "X0 X2 Y1 R13=1*2^1 R14=-0 R15=nan time=2 ran"},
		{ladder(), "ran", impl.ActSample{Dt: 1}, "time=1 ran"},
		{ladder(arm(contact("G2"), "out:Y0")), "", impl.ActSample{}, "Y0 ran"}, // it has not run before the scan ends
		{ladder(arm(contact("G2"), "out:Y0")), "Y0 ran", impl.ActSample{}, "ran"},
		{ladder(arm(contact("G3"), "out:Y0")), "fault", impl.ActSample{}, "ran"}, // and what faulted before is past
		{ladder(arm(contact("X0"), "out:Y0")), "", impl.ActSample{X: 1}, "X0 Y0 ran"},
		{ladder(arm(contact("X0"), "out:Y0")), "X0 Y0", impl.ActSample{}, "ran"},
		{ladder(arm(contact("G4"), "out:Y0")), "time=499", impl.ActSample{Dt: 1}, "Y0 time=500 ran"},
		{ladder(arm(contact("R12>=0.5"), "move:R12,2.5 move:R0,R12")), "", impl.ActSample{In: [4]float64{0.5}}, "R0=5*2^-1 R12=5*2^-1 ran"},
		{ladder(arm(on, "timer:T0,10"), arm(on, "", arm(contact("G1"), "late:T1,9"), arm(on, "hold:T2,3"))), "T1=1!", impl.ActSample{Dt: 4}, "T0=4 T1=5! T2=3! time=4 ran"},
		{ladder(arm(on, "set:M0"), arm(contact("M0"), "set:M1"), arm(contact("M1"), "set:M2")), "", impl.ActSample{}, "M0 M1 M2 ran"},
		{ladder(arm(contact("M1"), "set:M2"), arm(contact("M0"), "set:M1"), arm(on, "set:M0")), "", impl.ActSample{}, "M0 ran"},
		{ladder(arm(contact("+X0:E0"), "set:M0"), arm(contact("+X0:E0"), "set:M1")), "", impl.ActSample{X: 1}, "X0 M0 E0 ran"},
		{ladder(arm(contact("G1"), "out:Y0"), arm(on, "out:Y1")), "Y0", impl.ActSample{}, "Y1 ran"}, // current comes to each rung anew
		{ladder(arm(on, "div:D0,D0,D1"), arm(contact("G3"), "out:Y0")), "", impl.ActSample{}, "Y0 ran fault"},
	} {
		if text := impl.MemText(impl.EvalScan(c.rungs, memOf(c.mem), c.sample)); text != c.want {
			t.Errorf("case %d: EvalScan is %q, not %q", i, text, c.want)
		}
		if text := impl.MemText(impl.EvalRun(c.rungs, memOf(c.mem), []impl.ActSample{c.sample})); text != c.want {
			t.Errorf("case %d: EvalRun is %q, not %q", i, text, c.want)
		}
		for _, m := range append(fewMems(), memOf(c.mem)) {
			checkRun(t, c.rungs, m, append(samplesOf(i, 4), c.sample, c.sample))
		}
	}
}

// P28: a scan is ActStart, the rungs in order, and ActEnd.
func TestEvalScanIsItsStages(t *testing.T) {
	mems := evalMems()
	for i, rungs := range scanned() {
		for place, s := range samplesOf(500+i, 6) {
			m := mems[(i+7*place)%len(mems)]
			want := impl.ActStart(m, s)
			for _, rung := range rungs {
				want = impl.EvalArm(want, rung, true, s.Dt)
			}
			want = impl.ActEnd(want)
			if behind := impl.EvalScan(rungs, m, s); !sameMem(behind, want) || !impl.MemSame(behind, want) {
				t.Errorf("EvalScan is %q at %q, not %q: %v", wantMemText(behind), wantMemText(m), wantMemText(want), rungs)
			}
		}
	}
}

// P28: samples that are parted anywhere are those of both.
func TestEvalRunParted(t *testing.T) {
	for i, rungs := range scanned() {
		m, samples := evalMems()[i%len(evalMems())], samplesOf(900+i, []int{100, 7, 1, 30}[i%4])
		whole := impl.EvalRun(rungs, m, samples)
		one := m
		for place := 0; place <= len(samples); place++ {
			first := impl.EvalRun(rungs, m, samples[:place])
			if both := impl.EvalRun(rungs, first, samples[place:]); !sameMem(first, one) || !sameMem(both, whole) {
				t.Fatalf("parted behind %d of %d it is %q and %q, not %q and %q: %v", place, len(samples), wantMemText(first), wantMemText(both), wantMemText(one), wantMemText(whole), rungs)
			}
			if place < len(samples) {
				one = impl.EvalScan(rungs, one, samples[place])
			}
		}
		checkRun(t, rungs, m, samples)
	}
}

// The limit of samples may be met exactly; one more, and nothing is done, where the two parts alone would be.
func TestEvalRunLimit(t *testing.T) {
	counting := ladder(arm(contact("G0"), "add:D0,D0,1"), arm(contact("G2"), "set:M0"))
	for _, n := range []int{0, 1, 2, 3, 50, 98, 99, 100, 101, 102, 150, 200, 256, 1000, 65536} {
		samples := slices.Repeat([]impl.ActSample{{X: 6, Dt: 7, In: [4]float64{1, 2, 3, 4}}}, n)
		for _, m := range fewMems() {
			for _, rungs := range [][]impl.Arm{nil, counting, exampleLadder()} {
				behind := impl.EvalRun(rungs, m, samples)
				if (n == 0 || n > 100) && !sameMem(behind, m) {
					t.Errorf("%d samples make %q of %q", n, wantMemText(behind), wantMemText(m))
				}
				if n > 0 && n <= 100 && (!behind.Ran || behind.X != 6 || behind.Time != m.Time+uint32(7*n) || behind.R[15] != 4) {
					t.Errorf("%d samples make %q of %q", n, wantMemText(behind), wantMemText(m))
				}
			}
			if behind := impl.EvalRun(counting, m, samples); n <= 100 && behind.D[0] != m.D[0]+int16(n) {
				t.Errorf("behind %d scans D0 is %d, from %d", n, behind.D[0], m.D[0])
			}
			checkRun(t, counting, m, samples)
		}
		if n > 100 && n <= 200 {
			first := impl.EvalRun(counting, impl.Mem{}, samples[:100])
			if both := impl.EvalRun(counting, first, samples[100:]); int(both.D[0]) != n {
				t.Errorf("100 and %d more scans come to %d", n-100, both.D[0])
			}
		}
	}
	if behind := impl.EvalRun(counting, plainMem(), nil); !sameMem(behind, plainMem()) {
		t.Errorf("no samples make %q", wantMemText(behind))
	}
	if behind := impl.EvalRun(counting, plainMem(), make([]impl.ActSample, 0, 5)); !sameMem(behind, plainMem()) {
		t.Errorf("an empty list of samples makes %q", wantMemText(behind))
	}
}

// A ladder that is not accepted leaves the memory as it is, by whatever code, also where all its rungs but the last are right.
func TestEvalWrongLadders(t *testing.T) {
	x, none, y := contact("G0"), impl.Net{}, "out:Y0 add:D0,D0,1"
	right := arm(x, y)
	var list [][]impl.Arm
	for _, bad := range []impl.Arm{
		{}, arm(none, y), arm(none, "", right, right), // TreeNoNet
		arm(and(), y), arm(or(), y), arm(not(), y), arm(not(x, x), y), arm(and(x, none), y), arm(impl.Net{One: part("X0")}, y), arm(joint(5, x), y), arm(impl.Net{Kind: impl.NetContact, One: part("X0"), Kids: []impl.Net{x}}, y), arm(impl.Net{Kind: impl.NetOr, One: part("X0"), Kids: []impl.Net{x}}, y), // TreeBadNet
		arm(impl.Net{Kind: impl.NetContact}, y), arm(and(x, impl.Net{Kind: impl.NetContact, One: part("out:Y0")}), y), {Net: x, Coils: []impl.Elem{part("out:Y0"), part("X0")}}, {Net: x, Coils: []impl.Elem{{}}}, // TreeBadElem
		arm(x, ""), arm(x, y, arm(x, "")), arm(x, "", arm(none, "")), // TreeNoCoil
		arm(x, strings.Repeat("out:Y0 ", 399)), arm(deepNet(399), y), deepArm(200), // TreeMany
	} {
		list = append(list, ladder(bad), ladder(right, right, bad), ladder(bad, right))
		if !isNothingNet(bad.Net) {
			list = append(list, ladder(right, arm(x, y, arm(x, y), bad)))
		}
	}
	list = append(list, slices.Repeat(ladder(right), 41), make([]impl.Arm, 41), wrongLadder())
	codes := map[int]int{}
	for i, rungs := range list {
		code := impl.TreeCheck(rungs).Code
		if code == 0 {
			t.Errorf("case %d is accepted: %.300s", i, ladderText(rungs))
		}
		codes[code]++
		for _, m := range fewMems() {
			for _, s := range append(samplesOf(i, 2), impl.ActSample{}) {
				if behind := impl.EvalScan(rungs, m, s); !sameMem(behind, m) {
					t.Errorf("case %d: EvalScan makes %q of %q", i, wantMemText(behind), wantMemText(m))
				}
			}
			for _, n := range []int{0, 1, 2, 100, 101} {
				if behind := impl.EvalRun(rungs, m, samplesOf(i, n)); !sameMem(behind, m) {
					t.Errorf("case %d: EvalRun of %d makes %q of %q", i, n, wantMemText(behind), wantMemText(m))
				}
			}
		}
	}
	for code := impl.TreeMany; code <= impl.TreeNoCoil; code++ {
		if codes[code] < 3 {
			t.Errorf("code %d comes %d times", code, codes[code])
		}
	}
}

// Ladders at the limits of rungs and parts are scanned, and those beyond are not.
func TestEvalLadderLimits(t *testing.T) {
	for sort := range sizedSorts {
		for _, rungs := range []int{1, 39, 40, 41} {
			for _, size := range []int{3 * rungs, 399, 400, 401} {
				list := sizedLadder(rungs, size, sort)
				if behind := impl.EvalScan(list, impl.Mem{}, impl.ActSample{X: 1, Dt: 1}); behind.Ran != (rungs <= 40 && size <= 400) {
					t.Errorf("%d rungs with %d parts of sort %d make %q", rungs, size, sort, wantMemText(behind))
				}
				checkRun(t, list, plainMem(), samplesOf(size, 3))
			}
		}
	}
	for _, arms := range []int{1, 2, 198, 199, 200} {
		checkRun(t, ladder(deepArm(arms)), impl.Mem{}, samplesOf(arms, 5))
	}
}

// wantSameMeaning holds P26 at a ladder that is accepted, behind each scan.
func wantSameMeaning(t *testing.T, rungs []impl.Arm, m impl.Mem, samples []impl.ActSample) {
	t.Helper()
	normal := impl.NormMake(rungs)
	one, other := m, m
	for i, s := range samples {
		one, other = impl.EvalScan(rungs, one, s), impl.EvalScan(normal, other, s)
		if !sameMem(one, other) || !impl.MemSame(one, other) || impl.MemText(one) != impl.MemText(other) {
			t.Errorf("behind scan %d from %q it is %q, and by the normal form %q: %.300s", i+1, wantMemText(m), wantMemText(one), wantMemText(other), ladderText(rungs))
			return
		}
		if !one.Ran {
			t.Errorf("it has not run: %.300s", ladderText(rungs))
		}
	}
	if a, b := impl.EvalRun(rungs, m, samples), impl.EvalRun(normal, m, samples); !sameMem(a, b) || !sameMem(a, one) {
		t.Errorf("behind a run it is %q, and by the normal form %q, not %q: %.300s", wantMemText(a), wantMemText(b), wantMemText(one), ladderText(rungs))
	}
}

// P26 at ladders written out, from memories of every sort.
func TestEvalNormalForm(t *testing.T) {
	mems := evalMems()
	for i, rungs := range append(scanned(), append(exampleLadder(), nestedLadder()...), ladder(deepArm(199)), ladder(arm(deepNet(398), "out:Y0"))) {
		for place, m := range mems {
			wantSameMeaning(t, rungs, m, samplesOf(100*i+place, 6))
		}
	}
	// The one normal form that is written out.
	for place, m := range mems {
		samples := samplesOf(7000+place, 20)
		if a, b := impl.EvalRun(nestedLadder(), m, samples), impl.EvalRun(normalLadder(), m, samples); !sameMem(a, b) {
			t.Errorf("from %q it is %q, and by the normal form %q", wantMemText(m), wantMemText(a), wantMemText(b))
		}
	}
}

// P26 at each ladder that is one step away from a normal form.
func TestEvalUndone(t *testing.T) {
	mems := evalMems()
	near := newCloseMaker(91, 0)
	steps := 0
	for i := range 25 {
		base := impl.NormMake(near.nestedLadder())
		if i == 0 {
			base = exampleLadder()
		}
		for place, rung := range base {
			for _, undone := range undoneArms(rung, true) {
				rungs := slices.Clone(base)
				rungs[place] = undone
				m, samples := mems[steps%len(mems)], samplesOf(steps, 6)
				steps++
				if a, b := impl.EvalRun(rungs, m, samples), impl.EvalRun(base, m, samples); !sameMem(a, b) {
					t.Errorf("from %q it is %q, and by the normal form %q: %v", wantMemText(m), wantMemText(a), wantMemText(b), rungs)
				}
			}
		}
	}
	if steps < 500 {
		t.Errorf("only %d ladders", steps)
	}
}

// P26 and the rules above at scattered ladders, some of them wrong.
func TestEvalScattered(t *testing.T) {
	mems := evalMems()
	accepted, changed := 0, 0
	for _, wrong := range []int{0, 2} {
		near, far := newCloseMaker(5000+wrong, wrong), newMaker(5100+wrong, wrong)
		for i := range 700 {
			d := near
			if i%4 == 0 {
				d = far
			}
			rungs := d.nestedLadder()
			if i%5 == 0 {
				rungs = d.ladder()
			}
			m, samples := mems[d.roll(len(mems))], samplesOf(i, 1+d.roll(9))
			checkRun(t, rungs, m, samples)
			if impl.TreeCheck(rungs) == (impl.TreeFault{}) {
				accepted++
				wantSameMeaning(t, rungs, m, samples)
				if !impl.NormIs(rungs) {
					changed++
				}
			}
		}
	}
	if accepted < 700 || changed < 400 {
		t.Errorf("of %d accepted ladders %d are changed", accepted, changed)
	}
}

// checkUnnamed holds P29 at a ladder, behind a scan and behind a run.
func checkUnnamed(t *testing.T, rungs []impl.Arm, m impl.Mem, samples []impl.ActSample) int {
	t.Helper()
	named, kept := namedTimes(rungs), 0
	scan, run := impl.EvalScan(rungs, m, samples[0]), impl.EvalRun(rungs, m, samples)
	for _, a := range allDevices() {
		switch a.Kind {
		case impl.DevY, impl.DevM, impl.DevT, impl.DevC, impl.DevD:
		case impl.DevR:
			if a.N >= 12 {
				continue
			}
		default:
			continue
		}
		if named[a] > 0 {
			continue
		}
		kept++
		for _, behind := range []impl.Mem{scan, run} {
			if !sameMem(withoutDevice(behind, m, a), behind) {
				t.Errorf("%s is another one: %q from %q: %.300s", impl.DevText(a), wantMemText(behind), wantMemText(m), ladderText(rungs))
			}
		}
	}
	return kept
}

// P29 at ladders of all sorts, and at each contact and each coil alone, with current and without.
func TestEvalUnnamedDevices(t *testing.T) {
	mems := evalMems()
	all := 32 + 64 + 16 + 16 + 32 + 12
	for i, rungs := range scanned() {
		for place := range 5 {
			kept := checkUnnamed(t, rungs, mems[(i+place)%len(mems)], samplesOf(i+place, 20))
			if len(rungs) == 0 && kept != all || kept < all/2 {
				t.Errorf("only %d of %d devices: %v", kept, all, rungs)
			}
		}
	}
	for i, e := range okElems() {
		m, samples := mems[i%len(mems)], samplesOf(i, 2)
		if e.Op <= 10 {
			checkUnnamed(t, ladder(arm(impl.Net{Kind: impl.NetContact, One: e}, "out:Y0")), m, samples)
			continue
		}
		for _, net := range []string{"G0", "G1", "G4"} {
			checkUnnamed(t, ladder(impl.Arm{Net: contact(net), Coils: []impl.Elem{e}}), m, samples)
		}
	}
}

// What is very great is answered, where it need not be accepted, and else refused, also where it has no end.
func TestEvalVeryGreat(t *testing.T) {
	for _, nets := range []int{100000, 100001, 100002, 100003} {
		for x := range uint32(2) {
			on := x == 1
			for i := 1; i < nets; i++ {
				// Of those around a net each third is a NetNot.
				on = on != (i%3 == 2)
			}
			behind, lets := impl.EvalNet(impl.Mem{X: x}, deepNet(nets))
			if lets != on || !sameMem(behind, impl.Mem{X: x}) {
				t.Errorf("%d nets within each other: %v at %d", nets, lets, x)
			}
		}
	}
	deep := arm(deepNet(100000), "out:Y1", deepArm(100000))
	if text := impl.MemText(impl.EvalArm(memOf("X0"), deepArm(100000), true, 0)); text != "X0 Y0" {
		t.Errorf("arms within each other: %q", text)
	}
	wide := and(slices.Repeat([]impl.Net{contact("X0"), contact("+X0:E0"), or(contact("X1"), contact("X0"))}, 30000)...)
	if behind, on := impl.EvalNet(memOf("X0"), wide); on || impl.MemText(behind) != "X0 E0" {
		t.Errorf("nets beside each other: %v and %q", on, impl.MemText(behind))
	}
	nets, arms := make([]impl.Net, 1), make([]impl.Arm, 1)
	nets[0] = not(nets...)
	arms[0] = arm(contact("X0"), "out:Y0", arms...)
	for i, rungs := range [][]impl.Arm{ladder(deep), ladder(deepArm(100000)), ladder(arm(wide, "out:Y0")), make([]impl.Arm, 100000), ladder(arm(nets[0], "out:Y0")), arms, ladder(arm(contact("X0"), "out:Y0"), arm(contact("X0"), "out:Y0", arms...))} {
		m := plainMem()
		if a, b := impl.EvalScan(rungs, m, impl.ActSample{X: 1}), impl.EvalRun(rungs, m, make([]impl.ActSample, 3)); !sameMem(a, m) || !sameMem(b, m) {
			t.Errorf("case %d: %q and %q", i, wantMemText(a), wantMemText(b))
		}
	}
}

// What a call is handed is as it was behind it, to the end of the room of each list, and what stands there is not looked at.
func TestEvalHandedIn(t *testing.T) {
	for i, rungs := range handedIn() {
		given := rungs
		if i%3 > 0 {
			given = remade(rungs, 1+i%3)
		}
		samples := samplesOf(i, 8)
		// Marks that would be seen: a ladder that runs on into them takes in other bits, and more ticks.
		for place := 5; place < 8; place++ {
			samples[place] = impl.ActSample{X: math.MaxUint32, Dt: 1000, In: [4]float64{1, 2, 3, 4}}
		}
		list := samples[:5]
		value := reflect.ValueOf(&given).Elem()
		before, samplesBefore := roomText(value), fmt.Sprint(samples)
		m := evalMems()[i%len(evalMems())]
		kept := m
		scan, run := impl.EvalScan(given, m, list[0]), impl.EvalRun(given, m, list)
		var parts []impl.Mem
		for _, a := range allArms(given) {
			behind, _ := impl.EvalNet(m, a.Net)
			parts = append(parts, behind, impl.EvalArm(m, a, true, 3), impl.EvalArm(m, a, false, 3))
		}
		if roomText(value) != before {
			t.Fatalf("it has become %s, from %s", roomText(value), before)
		}
		if fmt.Sprint(samples) != samplesBefore {
			t.Fatalf("the samples have become %v", samples)
		}
		if !sameMem(m, kept) {
			t.Errorf("the memory has become %q, from %q", wantMemText(m), wantMemText(kept))
		}
		if !sameMem(scan, wantRun(rungs, m, list[:1])) || !sameMem(run, wantRun(rungs, m, list)) {
			t.Errorf("with room behind its lists it means something else: %v", rungs)
		}
		for place, a := range allArms(rungs) {
			behind, _ := wantAsked(m, a.Net)
			if !sameMem(parts[3*place], behind) || !sameMem(parts[3*place+1], wantArm(m, a, true, 3)) || !sameMem(parts[3*place+2], wantArm(m, a, false, 3)) {
				t.Errorf("with room behind its lists it means something else: %v", a)
			}
		}
	}
}

// holdsMemory says whether a value of this type can lead to memory that another one has too.
func holdsMemory(kind reflect.Type) bool {
	switch kind.Kind() {
	case reflect.Struct:
		for i := range kind.NumField() {
			if holdsMemory(kind.Field(i).Type) {
				return true
			}
		}
		return false
	case reflect.Array:
		return holdsMemory(kind.Elem())
	}
	return kind.Kind() > reflect.Complex128
}

// What a call answers owns its memory: there is nothing in it that could be shared, and what is changed in the arguments later is not seen.
func TestEvalOwnMemory(t *testing.T) {
	if holdsMemory(reflect.TypeOf(impl.Mem{})) || !holdsMemory(reflect.TypeOf(impl.Elem{})) {
		t.Error("a memory holds what others may hold too")
	}
	rungs, samples := remade(exampleLadder(), 0), samplesOf(3, 9)
	behind := impl.EvalRun(rungs, plainMem(), samples)
	want := behind
	clear(samples)
	for _, a := range allArms(rungs) {
		clear(a.Coils)
	}
	clear(rungs)
	if !sameMem(behind, want) || !sameMem(behind, wantRun(exampleLadder(), plainMem(), samplesOf(3, 9))) {
		t.Errorf("it has become %q", wantMemText(behind))
	}
}

// Calls at the same time answer as alone, on one ladder too, and none leaves anything running.
func TestEvalAtTheSameTime(t *testing.T) {
	before := runtime.NumGoroutine()
	list, samples := scanned(), samplesOf(77, 20)
	got := make([]impl.Mem, 8*len(list))
	var all sync.WaitGroup
	for i := range got {
		all.Go(func() { got[i] = impl.EvalRun(list[i%len(list)], plainMem(), samples) })
	}
	all.Wait()
	for i, behind := range got {
		if want := wantRun(list[i%len(list)], plainMem(), samples); !sameMem(behind, want) {
			t.Errorf("at the same time it is %q, not %q", wantMemText(behind), wantMemText(want))
		}
	}
	// One that has just been joined may still be on its way out.
	for range 500 {
		if runtime.NumGoroutine() <= before {
			return
		}
		time.Sleep(10 * time.Millisecond)
	}
	t.Errorf("of %d goroutines there are %d", before, runtime.NumGoroutine())
}
