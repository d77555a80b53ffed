package tests

import (
	"fmt"
	"math"
	"reflect"
	"slices"
	"strings"
	"testing"

	"loop.example/stilscan/impl"
)

// part is the contact or coil of a text.
func part(text string) impl.Elem {
	e, ok := impl.ElemRead(text)
	if !ok {
		panic("no contact or coil: " + text)
	}
	return e
}

func contact(text string) impl.Net { return impl.Net{Kind: impl.NetContact, One: part(text)} }

func joint(kind int, kids ...impl.Net) impl.Net { return impl.Net{Kind: kind, Kids: kids} }

func and(kids ...impl.Net) impl.Net { return joint(impl.NetAnd, kids...) }

func or(kids ...impl.Net) impl.Net { return joint(impl.NetOr, kids...) }

func not(kids ...impl.Net) impl.Net { return joint(impl.NetNot, kids...) }

// arm has the coils of a text, with blanks between them.
func arm(n impl.Net, coils string, kids ...impl.Arm) impl.Arm {
	a := impl.Arm{Net: n, Kids: kids}
	for _, text := range strings.Fields(coils) {
		a.Coils = append(a.Coils, part(text))
	}
	return a
}

func ladder(rungs ...impl.Arm) []impl.Arm { return rungs }

// exampleLadder is that of the document's chapter 8.
func exampleLadder() []impl.Arm {
	return ladder(
		arm(and(contact("X0"), contact("/M0")), "out:Y0", arm(contact("+X1:E0"), "count:C0,2"), arm(contact("C0"), "set:M0")),
		arm(contact("M0"), "timer:T0,5 real:R0,C0"),
		arm(contact("T0"), "reset:M0 reset:C0"),
	)
}

// nestedLadder has nets within nets of each Kind, kids of kids, kids without a net, and arms without coils.
func nestedLadder() []impl.Arm {
	return ladder(
		arm(or(and(contact("X0"), not(or(contact("M1"), contact("D1<D2")))), not(not(contact("-X0:E3"))), and(contact("R1>=0.5"))), "out:Y1 add:D1,D1,D1",
			arm(impl.Net{}, "step:S3", arm(impl.Net{}, "move:D1,-7"), arm(not(contact("X0")), "pulse:M1,E4 set:M1")),
			arm(or(contact("G1")), "", arm(contact("X0"), "", arm(impl.Net{}, "out:Y1")))),
		arm(not(and(contact("X0"), contact("/X0"), contact("D1=D1"))), "late:T1,100"),
		arm(contact("S3"), "", arm(contact("X1"), "whole:D1,R1"), arm(contact("X0"), "mul:R1,R1,2.5")),
	)
}

// deepNet has that many nets, each within the one ahead.
func deepNet(nets int) impl.Net {
	n := contact("X0")
	for i := 1; i < nets; i++ {
		n = joint(impl.NetAnd+i%3, n)
	}
	return n
}

// deepArm has that many arms, each the kid of the one ahead; those but the last have no coils.
func deepArm(arms int) impl.Arm {
	a := arm(contact("X0"), "out:Y0")
	for i := 1; i < arms; i++ {
		a = arm(contact("X0"), "", a)
	}
	return a
}

// sizedLadder is accepted, if it is small enough, and has that many parts (3 a rung at least), in a way that hangs on the sort.
func sizedLadder(rungs int, size int, sort int) []impl.Arm {
	var list []impl.Arm
	for range rungs {
		list = append(list, arm(contact("X0"), "out:Y0"))
	}
	more, last := size-3*rungs, &list[rungs-1]
	switch sort {
	case 0: // coils
		last.Coils = slices.Repeat(last.Coils, more+1)
	case 1: // nets beside each other
		if more > 0 {
			last.Net = or(slices.Repeat([]impl.Net{contact("X0")}, more)...)
		}
	case 2: // nets within each other
		last.Net = deepNet(more + 1)
	case 3: // kids with nothing but a coil, the last of them with two of these, if they are odd
		last.Kids = slices.Repeat([]impl.Arm{arm(impl.Net{}, "out:Y0")}, more/2)
		last.Coils = slices.Repeat(last.Coils, more%2+1)
	case 4: // kids of kids
		for range more / 2 {
			last.Kids = []impl.Arm{arm(impl.Net{}, "out:Y0", last.Kids...)}
		}
		list[0].Coils = slices.Repeat(list[0].Coils, more%2+1)
	}
	return list
}

const sizedSorts = 5

// isNothingNet is written down part by part, as the document counts these nets apart.
func isNothingNet(n impl.Net) bool {
	return n.Kind == 0 && n.One.Op == 0 && len(n.One.Args) == 0 && len(n.Kids) == 0
}

// allArms are the arms with all kids, in no order that the document names.
func allArms(arms []impl.Arm) []impl.Arm {
	list := slices.Clone(arms)
	for i := 0; i < len(list); i++ {
		list = append(list, list[i].Kids...)
	}
	return list
}

// allNets are a net and those within it, or none at all, where there is no net; in no order that the document names.
func allNets(n impl.Net) []impl.Net {
	if isNothingNet(n) {
		return nil
	}
	list := []impl.Net{n}
	for i := 0; i < len(list); i++ {
		list = append(list, list[i].Kids...)
	}
	return list
}

func wantSize(rungs []impl.Arm) int {
	size := 0
	for _, a := range allArms(rungs) {
		size += 1 + len(a.Coils) + len(allNets(a.Net))
	}
	return size
}

func wantUses(rungs []impl.Arm, a impl.DevArg) int {
	uses := 0
	for _, one := range allArms(rungs) {
		elems := slices.Clone(one.Coils)
		for _, n := range allNets(one.Net) {
			elems = append(elems, n.One)
		}
		for _, e := range elems {
			for _, operand := range e.Args {
				if operand == a {
					uses++
				}
			}
		}
	}
	return uses
}

// wrongPlace is something wrong, at a place; of places the one that comes first in the order of words is the first by the document.
type wrongPlace struct {
	place []int
	code  int
}

// at is a place within another one, in memory of its own.
func at(place []int, more ...int) []int { return append(slices.Clone(place), more...) }

func netWrongs(n impl.Net, place []int) []wrongPlace {
	var list []wrongPlace
	contact := n.Kind == 1
	isJoint := n.Kind == 2 || n.Kind == 3 || n.Kind == 4
	switch {
	case contact && len(n.Kids) > 0,
		!contact && !isJoint,
		isJoint && (n.One.Op != 0 || len(n.One.Args) != 0),
		isJoint && len(n.Kids) == 0,
		n.Kind == 4 && len(n.Kids) > 1:
		list = append(list, wrongPlace{place, 2})
	case contact && (n.One.Op > 10 || wantElemText(n.One) == ""):
		list = append(list, wrongPlace{place, 3})
	}
	for i, kid := range n.Kids {
		list = append(list, netWrongs(kid, at(place, i))...)
	}
	return list
}

// armWrongs are all that is wrong with an arm and its kids: what is wrong with it comes ahead of what is wrong with these.
func armWrongs(a impl.Arm, place []int, rung bool) []wrongPlace {
	var list []wrongPlace
	for i, kid := range a.Kids {
		list = append(list, armWrongs(kid, at(place, 1+i), false)...)
	}
	if len(a.Coils) == 0 && len(a.Kids) == 0 {
		list = append(list, wrongPlace{at(place, 0, 3), 5})
	}
	for i, coil := range a.Coils {
		if coil.Op <= 10 || wantElemText(coil) == "" {
			list = append(list, wrongPlace{at(place, 0, 2, i), 3})
		}
	}
	if !isNothingNet(a.Net) {
		list = append(list, netWrongs(a.Net, at(place, 0, 1))...)
	} else if rung {
		list = append(list, wrongPlace{at(place, 0, 0), 4})
	}
	return list
}

func wantFault(rungs []impl.Arm) impl.TreeFault {
	if len(rungs) > 40 || wantSize(rungs) > 400 {
		return impl.TreeFault{Code: 1}
	}
	var list []wrongPlace
	for i, rung := range rungs {
		list = append(list, armWrongs(rung, []int{i}, true)...)
	}
	if len(list) == 0 {
		return impl.TreeFault{}
	}
	first := slices.MinFunc(list, func(a, b wrongPlace) int { return slices.Compare(a.place, b.place) })
	return impl.TreeFault{Code: first.code, Rung: first.place[0]}
}

// ladderText has all parts of a ladder; the empty list and the nil list are written alike.
func ladderText(rungs []impl.Arm) string { return fmt.Sprint(rungs) }

// ladderArgs are the operands that a ladder names, some of them several times.
func ladderArgs(rungs []impl.Arm) []impl.DevArg {
	var list []impl.DevArg
	eachValue(reflect.ValueOf(&rungs).Elem(), func(v reflect.Value) {
		if args, ok := v.Interface().([]impl.DevArg); ok {
			list = append(list, args...)
		}
	})
	return list
}

// checkLadder holds what is said of a ladder, right or wrong, against rules that are written apart from the program, and P21.
func checkLadder(t *testing.T, rungs []impl.Arm) {
	t.Helper()
	size, fault := impl.TreeSize(rungs), impl.TreeCheck(rungs)
	if want := wantSize(rungs); size != want {
		t.Errorf("TreeSize is %d, not %d: %.300s", size, want, ladderText(rungs))
	}
	if want := wantFault(rungs); fault != want {
		t.Errorf("TreeCheck is %v, not %v: %.300s", fault, want, ladderText(rungs))
	}
	if !impl.TreeSame(rungs, rungs) {
		t.Errorf("it is not the same as itself: %.300s", ladderText(rungs))
	}
	together := 0
	for i, rung := range rungs {
		together += impl.TreeSize([]impl.Arm{rung})
		if fault.Code != 0 {
			continue
		}
		if alone := impl.TreeCheck([]impl.Arm{rung}); alone != (impl.TreeFault{}) {
			t.Errorf("rung %d alone is not accepted: %v", i, alone)
		}
		if begun := impl.TreeCheck(rungs[:i]); begun != (impl.TreeFault{}) {
			t.Errorf("the first %d rungs are not accepted: %v", i, begun)
		}
	}
	if size != together {
		t.Errorf("TreeSize is %d, that of its rungs together %d", size, together)
	}
}

// checkUses holds TreeUses at each operand that is named, and at some that are not.
func checkUses(t *testing.T, rungs []impl.Arm) {
	t.Helper()
	args := append(ladderArgs(rungs), arg(0, 0, 0), arg(1, 0, 0), arg(1, 0, 1), arg(1, 31, 0), arg(2, 0, 0), arg(11, 5, 0))
	for _, a := range args {
		for _, near := range []impl.DevArg{a, arg(a.Kind+1, a.N, a.P), arg(a.Kind, a.N+1, a.P), arg(a.Kind, a.N, a.P+1)} {
			if n, want := impl.TreeUses(rungs, near), wantUses(rungs, near); n != want {
				t.Errorf("%v stands %d times, not %d: %.300s", near, n, want, ladderText(rungs))
			}
		}
	}
}

// checkSame holds P22 at two ladders, both ways.
func checkSame(t *testing.T, a, b []impl.Arm) {
	t.Helper()
	want := ladderText(a) == ladderText(b)
	if impl.TreeSame(a, b) != want || impl.TreeSame(b, a) != want {
		t.Errorf("TreeSame is %v, and the other way %v: %.300s and %.300s", impl.TreeSame(a, b), impl.TreeSame(b, a), ladderText(a), ladderText(b))
	}
	if !want {
		return
	}
	if impl.TreeSize(a) != impl.TreeSize(b) || impl.TreeCheck(a) != impl.TreeCheck(b) {
		t.Errorf("the same have sizes %d and %d, faults %v and %v", impl.TreeSize(a), impl.TreeSize(b), impl.TreeCheck(a), impl.TreeCheck(b))
	}
	for _, operand := range ladderArgs(a) {
		if impl.TreeUses(a, operand) != impl.TreeUses(b, operand) {
			t.Errorf("the same use %v %d and %d times", operand, impl.TreeUses(a, operand), impl.TreeUses(b, operand))
		}
	}
}

// eachValue calls do for each number and each list of a ladder, wherever it stands, a list ahead of what is in it.
func eachValue(v reflect.Value, do func(v reflect.Value)) {
	switch v.Kind() {
	case reflect.Struct:
		for i := range v.NumField() {
			eachValue(v.Field(i), do)
		}
	case reflect.Slice:
		do(v)
		for i := range v.Len() {
			eachValue(v.Index(i), do)
		}
	default:
		do(v)
	}
}

// remade is a ladder in memory of its own, to the last list; spare is how many marks stand in the room behind the end of each.
func remade(rungs []impl.Arm, spare int) []impl.Arm {
	list := rungs
	eachValue(reflect.ValueOf(&list).Elem(), func(v reflect.Value) {
		if v.Kind() != reflect.Slice || v.IsNil() && spare == 0 {
			return
		}
		n := v.Len()
		room := reflect.MakeSlice(v.Type(), n+spare, n+spare)
		reflect.Copy(room, v)
		for i := range spare {
			setMark(room.Index(n + i))
		}
		v.Set(room.Slice(0, n))
	})
	return list
}

// setMark makes of nothing something that would be seen in every answer.
func setMark(v reflect.Value) {
	switch mark := v.Addr().Interface().(type) {
	case *impl.Arm:
		*mark = arm(contact("X0"), "out:Y0")
	case *impl.Net:
		*mark = contact("X0")
	case *impl.Elem:
		*mark = part("out:Y0")
	case *impl.DevArg:
		*mark = arg(1, 0, 0)
	}
}

// roomText has all that a ladder holds, to the end of the room of each list.
func roomText(v reflect.Value) string {
	switch v.Kind() {
	case reflect.Struct:
		var texts []string
		for i := range v.NumField() {
			texts = append(texts, roomText(v.Field(i)))
		}
		return "{" + strings.Join(texts, " ") + "}"
	case reflect.Slice:
		texts := []string{fmt.Sprint(v.IsNil(), v.Len(), v.Cap())}
		whole := v.Slice(0, v.Cap())
		for i := range whole.Len() {
			texts = append(texts, roomText(whole.Index(i)))
		}
		return "[" + strings.Join(texts, " ") + "]"
	}
	return fmt.Sprint(v.Interface())
}

// changeValue makes a change of one place alone, if there is one of that number, and says whether there is.
func changeValue(v reflect.Value, change int) bool {
	if v.Kind() == reflect.Int {
		steps := []int64{1, -1, 1 << 32, math.MinInt64}
		if change >= len(steps) {
			return false
		}
		v.SetInt(v.Int() + steps[change])
		return true
	}
	n, zero := v.Len(), reflect.Zero(v.Type().Elem())
	room := reflect.MakeSlice(v.Type(), 0, n+1)
	switch {
	case change == 0: // one more that is nothing, behind
		v.Set(reflect.Append(reflect.AppendSlice(room, v), zero))
	case change == 1: // and ahead
		v.Set(reflect.AppendSlice(reflect.Append(room, zero), v))
	case change == 2 && n > 0: // the last once more
		v.Set(reflect.Append(reflect.AppendSlice(room, v), v.Index(n-1)))
	case change == 3 && n > 0: // the last goes
		v.Set(reflect.AppendSlice(room, v.Slice(0, n-1)))
	case change == 4 && n > 0: // the first goes
		v.Set(reflect.AppendSlice(room, v.Slice(1, n)))
	case change == 5 && n > 1: // the first goes to the end
		v.Set(reflect.Append(reflect.AppendSlice(room, v.Slice(1, n)), v.Index(0)))
	case change == 6 && n > 1: // the last is nothing
		v.Set(reflect.Append(reflect.AppendSlice(room, v.Slice(0, n-1)), zero))
	default:
		return false
	}
	return true
}

// changedLadders are a ladder with a change at one place alone, at each place where something stands or could stand.
func changedLadders(rungs []impl.Arm) [][]impl.Arm {
	places := 0
	eachValue(reflect.ValueOf(&rungs).Elem(), func(reflect.Value) { places++ })
	var all [][]impl.Arm
	for place := range places {
		for change := range 7 {
			changed, i, done := remade(rungs, 0), 0, false
			eachValue(reflect.ValueOf(&changed).Elem(), func(v reflect.Value) {
				if i == place {
					done = changeValue(v, change)
				}
				i++
			})
			if done {
				all = append(all, changed)
			}
		}
	}
	return all
}

// dice are numbers without an end, the same in each run.
type dice struct{ state uint64 }

func (d *dice) roll(n int) int {
	d.state = d.state*6364136223846793005 + 1442695040888963407
	return int(d.state>>33) % n
}

// maker makes ladders of scattered parts; of each hundred parts some are wrong.
type maker struct {
	dice
	contacts []impl.Elem
	coils    []impl.Elem
	wrong    int
}

func newMaker(seed int, wrong int) *maker {
	m := &maker{dice: dice{uint64(seed)}, wrong: wrong}
	for _, e := range okElems() {
		if e.Op <= 10 {
			m.contacts = append(m.contacts, e)
		} else {
			m.coils = append(m.coils, e)
		}
	}
	return m
}

func (m *maker) errs() bool { return m.roll(100) < m.wrong }

// elem is one of the right ones, or, where it errs, one of the other sort, one with an operand less or more, or nothing.
func (m *maker) elem(right, other []impl.Elem) impl.Elem {
	if !m.errs() {
		return right[m.roll(len(right))]
	}
	switch e := right[m.roll(len(right))]; m.roll(4) {
	case 0:
		return other[m.roll(len(other))]
	case 1:
		return impl.Elem{Op: e.Op, Args: e.Args[1:]}
	case 2:
		return elem(e.Op, append(slices.Clone(e.Args), arg(1, 0, 0))...)
	}
	return impl.Elem{}
}

func (m *maker) net(deep int) impl.Net {
	if m.errs() {
		wrong := []impl.Net{{}, {Kind: m.roll(9) - 2}, {One: m.contacts[0]}, {Kind: m.roll(9) - 2, Kids: []impl.Net{{}}},
			{Kind: m.roll(5), One: m.contacts[0], Kids: []impl.Net{m.net(deep - 1), m.net(deep - 1)}}, not(contact("X0"), contact("X1"))}
		return wrong[m.roll(len(wrong))]
	}
	kind := impl.NetContact + m.roll(4)
	if deep <= 0 || kind == impl.NetContact {
		return impl.Net{Kind: impl.NetContact, One: m.elem(m.contacts, m.coils)}
	}
	if kind == impl.NetNot {
		return not(m.net(deep - 1))
	}
	n := impl.Net{Kind: kind}
	for range 1 + m.roll(3) {
		n.Kids = append(n.Kids, m.net(deep-1))
	}
	return n
}

func (m *maker) arm(deep int, rung bool) impl.Arm {
	a := impl.Arm{}
	if rung && !m.errs() || m.roll(2) > 0 {
		a.Net = m.net(2)
	}
	for range m.roll(3) {
		a.Coils = append(a.Coils, m.elem(m.coils, m.contacts))
	}
	if deep > 0 {
		for range m.roll(3) {
			a.Kids = append(a.Kids, m.arm(deep-1, false))
		}
	}
	if len(a.Coils) == 0 && len(a.Kids) == 0 && !m.errs() {
		a.Coils = append(a.Coils, m.elem(m.coils, m.contacts))
	}
	return a
}

func (m *maker) ladder() []impl.Arm {
	var rungs []impl.Arm
	for range m.roll(6) {
		rungs = append(rungs, m.arm(2, true))
	}
	return rungs
}

func TestTreeTable(t *testing.T) {
	for want, got := range [][]int{{impl.NetNone}, {impl.NetContact, impl.TreeMany}, {impl.NetAnd, impl.TreeBadNet}, {impl.NetOr, impl.TreeBadElem}, {impl.NetNot, impl.TreeNoNet}, {impl.TreeNoCoil}} {
		for _, n := range got {
			if n != want {
				t.Errorf("the constant %d is %d", want, n)
			}
		}
	}
	if impl.TreeMaxRungs != 40 || impl.TreeMaxNodes != 400 {
		t.Error("the bounds are not those of the document")
	}
}

// What counts as a part, in ladders that are right and in ones that are wrong.
func TestTreeSizeEdges(t *testing.T) {
	x, none := contact("X0"), impl.Net{}
	for i, c := range []struct {
		rungs []impl.Arm
		size  int
	}{
		{nil, 0},
		{ladder(), 0},
		{ladder(impl.Arm{}), 1}, // a net that is none is no part of an arm
		{ladder(impl.Arm{}, impl.Arm{}), 2},
		{ladder(arm(none, "out:Y0 out:Y1")), 3},
		{ladder(arm(x, "")), 2},
		{ladder(arm(x, "out:Y0")), 3},
		{ladder(arm(x, "", arm(none, ""))), 3}, // nor of a kid
		{ladder(arm(x, "", arm(x, "out:Y0"))), 5},
		{ladder(arm(and(x, x), "out:Y0")), 5},
		{ladder(arm(and(none), "")), 3}, // but within another net it is
		{ladder(arm(and(none, x, none), "")), 5},
		{ladder(arm(not(and(none, or(none))), "")), 6},
		{ladder(arm(joint(impl.NetNone, none), "")), 3}, // with a kid it is not none
		{ladder(arm(impl.Net{One: part("X0")}, "")), 2}, // nor with something in One
		{ladder(arm(impl.Net{One: impl.Elem{Op: 1}}, "")), 2},
		{ladder(arm(impl.Net{One: impl.Elem{Args: make([]impl.DevArg, 1)}}, "")), 2},
		{ladder(arm(impl.Net{One: impl.Elem{Args: []impl.DevArg{}}}, "")), 1}, // an empty list is nothing
		{ladder(arm(impl.Net{Kids: []impl.Net{}}, "")), 1},
		{ladder(arm(impl.Net{Kind: -1}, "")), 2},
		{ladder(arm(impl.Net{Kind: 5, Kids: []impl.Net{x, none}}, "")), 4},
		{ladder(arm(impl.Net{Kind: impl.NetContact, Kids: []impl.Net{x, not(x)}}, "")), 5}, // wrong nets are gone through too
		{ladder(arm(not(), "")), 2},
		{ladder(arm(not(x, x), "")), 4},
		{ladder(impl.Arm{Coils: make([]impl.Elem, 7)}), 8}, // and coils that are none
		{ladder(impl.Arm{Kids: make([]impl.Arm, 7)}), 8},
		{exampleLadder(), 19},
		{nestedLadder(), 46},
		{ladder(arm(deepNet(1000), "out:Y0")), 1002},
		{ladder(deepArm(1000)), 2001},
		{make([]impl.Arm, 5000), 5000},
	} {
		if n := impl.TreeSize(c.rungs); n != c.size {
			t.Errorf("case %d: %d, not %d", i, n, c.size)
		}
		checkLadder(t, c.rungs)
	}
}

// What is wrong with one arm, as a rung, as a kid, and as a kid of a kid: only a rung must have a net.
func TestTreeCheckEdges(t *testing.T) {
	x, none, y := contact("X0"), impl.Net{}, "out:Y0"
	const ok, badNet, badElem, noNet, noCoil = 0, impl.TreeBadNet, impl.TreeBadElem, impl.TreeNoNet, impl.TreeNoCoil
	withOne := func(n impl.Net, one impl.Elem) impl.Net { return impl.Net{Kind: n.Kind, One: one, Kids: n.Kids} }
	withCoils := func(coils ...impl.Elem) impl.Arm { return impl.Arm{Net: x, Coils: coils} }
	for i, c := range []struct {
		a    impl.Arm
		rung int
		kid  int
	}{
		{arm(x, y), ok, ok},
		{arm(none, y), noNet, ok},
		{arm(none, ""), noNet, noCoil},
		{arm(x, ""), noCoil, noCoil},
		{arm(x, "", arm(none, y)), ok, ok},
		{arm(x, y, arm(none, y)), ok, ok},
		{arm(x, "", arm(none, "")), noCoil, noCoil},
		{arm(x, "", arm(none, "", arm(none, y))), ok, ok},
		{arm(impl.Net{One: impl.Elem{Args: []impl.DevArg{}}, Kids: []impl.Net{}}, y), noNet, ok},
		{arm(impl.Net{One: part("X0")}, y), badNet, badNet}, // its Kind is NetNone, but it is not nothing
		{arm(impl.Net{One: impl.Elem{Op: 1}}, y), badNet, badNet},
		{arm(impl.Net{One: impl.Elem{Op: -1}}, y), badNet, badNet},
		{arm(impl.Net{One: impl.Elem{Args: make([]impl.DevArg, 1)}}, y), badNet, badNet},
		{arm(joint(impl.NetNone, x), y), badNet, badNet},
		{arm(joint(impl.NetNone, none), y), badNet, badNet},
		{arm(and(none), y), badNet, badNet}, // none within another net
		{arm(or(x, none), y), badNet, badNet},
		{arm(not(none), y), badNet, badNet},
		{arm(and(x, or(not(none))), y), badNet, badNet},
		{arm(and(), y), badNet, badNet},
		{arm(or(), y), badNet, badNet},
		{arm(not(), y), badNet, badNet},
		{arm(impl.Net{Kind: impl.NetAnd, Kids: []impl.Net{}}, y), badNet, badNet},
		{arm(and(x), y), ok, ok},
		{arm(or(x), y), ok, ok},
		{arm(not(x), y), ok, ok},
		{arm(and(x, x), y), ok, ok},
		{arm(or(x, x, x), y), ok, ok},
		{arm(not(x, x), y), badNet, badNet},
		{arm(not(x, x, x), y), badNet, badNet},
		{arm(not(x, none), y), badNet, badNet},
		{arm(not(and(x, x)), y), ok, ok},
		{arm(not(not(not(x))), y), ok, ok},
		{arm(and(x, not(x, x)), y), badNet, badNet},
		{arm(withOne(and(x), part("X0")), y), badNet, badNet},
		{arm(withOne(or(x), part("X0")), y), badNet, badNet},
		{arm(withOne(not(x), part("X0")), y), badNet, badNet},
		{arm(withOne(and(x), part("out:Y0")), y), badNet, badNet},
		{arm(withOne(and(x), impl.Elem{Op: 99}), y), badNet, badNet},
		{arm(withOne(or(x), impl.Elem{Op: -1}), y), badNet, badNet},
		{arm(withOne(or(x), impl.Elem{Args: make([]impl.DevArg, 1)}), y), badNet, badNet},
		{arm(withOne(not(x), impl.Elem{Args: []impl.DevArg{}}), y), ok, ok},
		{arm(and(x, withOne(or(x), part("X0"))), y), badNet, badNet},
		{arm(impl.Net{Kind: impl.NetContact, One: part("X0"), Kids: []impl.Net{x}}, y), badNet, badNet},
		{arm(impl.Net{Kind: impl.NetContact, One: part("X0"), Kids: []impl.Net{none}}, y), badNet, badNet},
		{arm(impl.Net{Kind: impl.NetContact, One: part("out:Y0"), Kids: []impl.Net{x}}, y), badNet, badNet},
		{arm(impl.Net{Kind: impl.NetContact, Kids: []impl.Net{x}}, y), badNet, badNet},
		{arm(impl.Net{Kind: impl.NetContact, One: part("X0"), Kids: []impl.Net{}}, y), ok, ok},
		{arm(impl.Net{Kind: -1, One: part("X0")}, y), badNet, badNet}, // no Kind
		{arm(impl.Net{Kind: 5, One: part("X0")}, y), badNet, badNet},
		{arm(joint(-1, x), y), badNet, badNet},
		{arm(joint(5, x), y), badNet, badNet},
		{arm(joint(-2, x), y), badNet, badNet},
		{arm(joint(math.MinInt, x), y), badNet, badNet},
		{arm(joint(math.MaxInt, x), y), badNet, badNet},
		{arm(joint(256+2, x), y), badNet, badNet},
		{arm(joint(1<<32+3, x), y), badNet, badNet},
		{arm(and(x, joint(5, x)), y), badNet, badNet},
		{arm(impl.Net{Kind: impl.NetContact}, y), badElem, badElem}, // no contact that is ok
		{arm(impl.Net{Kind: impl.NetContact, One: part("out:Y0")}, y), badElem, badElem},
		{arm(impl.Net{Kind: impl.NetContact, One: elem(1, arg(5, 0, 0))}, y), badElem, badElem},
		{arm(impl.Net{Kind: impl.NetContact, One: elem(1, arg(1, 32, 0))}, y), badElem, badElem},
		{arm(impl.Net{Kind: impl.NetContact, One: elem(1)}, y), badElem, badElem},
		{arm(impl.Net{Kind: impl.NetContact, One: elem(1, arg(1, 0, 0), arg(1, 0, 0))}, y), badElem, badElem},
		{arm(impl.Net{Kind: impl.NetContact, One: elem(11, arg(1, 0, 0))}, y), badElem, badElem},
		{arm(or(x, not(impl.Net{Kind: impl.NetContact})), y), badElem, badElem},
		{withCoils(part("X0")), badElem, badElem}, // no coil that is ok
		{withCoils(impl.Elem{}), badElem, badElem},
		{withCoils(elem(21, arg(1, 0, 0))), badElem, badElem},
		{withCoils(elem(21)), badElem, badElem},
		{withCoils(elem(26, arg(7, 0, 0), arg(11, -1, 0))), badElem, badElem},
		{withCoils(part("out:Y0"), part("X0")), badElem, badElem},
		{withCoils(part("X0"), part("out:Y0")), badElem, badElem},
		{withCoils(part("out:Y0"), part("set:M1"), part("out:Y0")), ok, ok},
	} {
		for _, place := range []struct {
			rungs []impl.Arm
			code  int
			rung  int
		}{
			{ladder(c.a), c.rung, 0},
			{ladder(arm(x, y), arm(x, y), c.a, arm(x, y)), c.rung, 2},
			{ladder(arm(x, y, c.a)), c.kid, 0},
			{ladder(arm(x, "", arm(x, y), c.a, arm(x, y))), c.kid, 0},
			{ladder(arm(x, y), arm(x, "", arm(none, "", c.a))), c.kid, 1},
			{ladder(arm(x, y, arm(not(x), y), arm(x, "", arm(none, y), c.a)), arm(x, y)), c.kid, 0},
		} {
			want := impl.TreeFault{Code: place.code, Rung: place.rung}
			if place.code == ok {
				want = impl.TreeFault{}
			}
			if f := impl.TreeCheck(place.rungs); f != want {
				t.Errorf("case %d: %v, not %v: %s", i, f, want, ladderText(place.rungs))
			}
			checkLadder(t, place.rungs)
		}
	}
}

// Where two things are wrong, the first by the document's order counts.
func TestTreeCheckOrder(t *testing.T) {
	x, none, y := contact("X0"), impl.Net{}, "out:Y0"
	badElem, badNet := impl.Net{Kind: impl.NetContact, One: part(y)}, and()
	badCoil := func(n impl.Net, kids ...impl.Arm) impl.Arm {
		return impl.Arm{Net: n, Coils: []impl.Elem{part("X0")}, Kids: kids}
	}
	for i, c := range []struct {
		rungs []impl.Arm
		want  impl.TreeFault
	}{
		{nil, impl.TreeFault{}},
		{ladder(), impl.TreeFault{}},
		// Two codes in one arm.
		{ladder(arm(none, "")), impl.TreeFault{Code: impl.TreeNoNet}},
		{ladder(badCoil(none)), impl.TreeFault{Code: impl.TreeNoNet}},
		{ladder(badCoil(badNet)), impl.TreeFault{Code: impl.TreeBadNet}},
		{ladder(badCoil(badElem)), impl.TreeFault{Code: impl.TreeBadElem}},
		{ladder(arm(badNet, "")), impl.TreeFault{Code: impl.TreeBadNet}},
		{ladder(arm(badElem, "")), impl.TreeFault{Code: impl.TreeBadElem}},
		{ladder(badCoil(and(x, or(x, badNet)))), impl.TreeFault{Code: impl.TreeBadNet}},
		// Wrong nets and wrong contacts in one net, each net before its kids.
		{ladder(arm(or(badNet, badElem), y)), impl.TreeFault{Code: impl.TreeBadNet}},
		{ladder(arm(or(badElem, badNet), y)), impl.TreeFault{Code: impl.TreeBadElem}},
		{ladder(arm(or(badElem, none), y)), impl.TreeFault{Code: impl.TreeBadElem}},
		{ladder(arm(or(none, badElem), y)), impl.TreeFault{Code: impl.TreeBadNet}},
		{ladder(arm(not(badElem, x), y)), impl.TreeFault{Code: impl.TreeBadNet}},
		{ladder(arm(and(not(badElem), badNet), y)), impl.TreeFault{Code: impl.TreeBadElem}},
		{ladder(arm(and(not(badElem, x), x), y)), impl.TreeFault{Code: impl.TreeBadNet}},
		{ladder(arm(and(x, and(x, badElem), badNet), y)), impl.TreeFault{Code: impl.TreeBadElem}},
		{ladder(arm(and(x, and(x, badNet), badElem), y)), impl.TreeFault{Code: impl.TreeBadNet}},
		{ladder(arm(impl.Net{Kind: impl.NetAnd, One: part("X0"), Kids: []impl.Net{badElem}}, y)), impl.TreeFault{Code: impl.TreeBadNet}},
		{ladder(arm(impl.Net{Kind: impl.NetContact, One: part(y), Kids: []impl.Net{badElem}}, y)), impl.TreeFault{Code: impl.TreeBadNet}},
		{ladder(arm(joint(7, badElem), y)), impl.TreeFault{Code: impl.TreeBadNet}},
		// An arm before its kids, and a kid with its own before the next one.
		{ladder(arm(x, y, arm(badElem, ""), arm(badNet, y))), impl.TreeFault{Code: impl.TreeBadElem}},
		{ladder(arm(x, y, arm(x, ""), arm(badNet, y))), impl.TreeFault{Code: impl.TreeNoCoil}},
		{ladder(arm(x, y, arm(x, "", arm(x, "")), arm(badNet, y))), impl.TreeFault{Code: impl.TreeNoCoil}},
		{ladder(arm(x, y, arm(x, y, arm(x, y, badCoil(x))), arm(badNet, y))), impl.TreeFault{Code: impl.TreeBadElem}},
		{ladder(badCoil(x, arm(badNet, y))), impl.TreeFault{Code: impl.TreeBadElem}},
		{ladder(badCoil(x, arm(none, ""))), impl.TreeFault{Code: impl.TreeBadElem}},
		{ladder(arm(none, "", arm(badNet, y))), impl.TreeFault{Code: impl.TreeNoNet}},
		{ladder(arm(x, "", badCoil(none, arm(badNet, y)))), impl.TreeFault{Code: impl.TreeBadElem}},
		{ladder(arm(x, "", arm(none, "", arm(badNet, "")))), impl.TreeFault{Code: impl.TreeBadNet}},
		// Rung by rung, with its place.
		{ladder(arm(x, y), arm(none, y)), impl.TreeFault{Code: impl.TreeNoNet, Rung: 1}},
		{ladder(arm(x, y), arm(x, ""), arm(none, y)), impl.TreeFault{Code: impl.TreeNoCoil, Rung: 1}},
		{ladder(arm(x, ""), arm(none, y)), impl.TreeFault{Code: impl.TreeNoCoil}},
		{ladder(arm(x, y, arm(x, y, arm(none, ""))), arm(none, y)), impl.TreeFault{Code: impl.TreeNoCoil}},
		{ladder(arm(x, y), arm(x, y), arm(x, y, arm(x, y), arm(badElem, y)), arm(badNet, y)), impl.TreeFault{Code: impl.TreeBadElem, Rung: 2}},
		{append(slices.Repeat(ladder(arm(x, y)), 39), badCoil(x)), impl.TreeFault{Code: impl.TreeBadElem, Rung: 39}},
		// Too many ahead of all.
		{append(slices.Repeat(ladder(arm(x, y)), 40), arm(badNet, y)), impl.TreeFault{Code: impl.TreeMany}},
		{make([]impl.Arm, 41), impl.TreeFault{Code: impl.TreeMany}},
		{make([]impl.Arm, 40), impl.TreeFault{Code: impl.TreeNoNet}},
		{ladder(arm(x, y), arm(badNet, strings.Repeat("out:Y0 ", 395))), impl.TreeFault{Code: impl.TreeBadNet, Rung: 1}},
		{ladder(arm(x, y), arm(badNet, strings.Repeat("out:Y0 ", 396))), impl.TreeFault{Code: impl.TreeMany}},
		{ladder(arm(and(make([]impl.Net, 398)...), "")), impl.TreeFault{Code: impl.TreeBadNet}},
		{ladder(arm(and(make([]impl.Net, 399)...), "")), impl.TreeFault{Code: impl.TreeMany}},
		{ladder(arm(none, "", make([]impl.Arm, 399)...)), impl.TreeFault{Code: impl.TreeNoNet}},
		{ladder(arm(none, "", make([]impl.Arm, 400)...)), impl.TreeFault{Code: impl.TreeMany}},
	} {
		if f := impl.TreeCheck(c.rungs); f != c.want {
			t.Errorf("case %d: %v, not %v: %.300s", i, f, c.want, ladderText(c.rungs))
		}
		checkLadder(t, c.rungs)
	}
}

// P21 at the two limits: each may be met exactly, alone or together, in whatever parts the size consists.
func TestTreeLimits(t *testing.T) {
	for sort := range sizedSorts {
		for _, rungs := range []int{1, 2, 20, 39, 40, 41, 42, 100} {
			for _, size := range []int{3 * rungs, 3*rungs + 1, 399, 400, 401, 402, 1000} {
				list := sizedLadder(rungs, size, sort)
				if impl.TreeSize(list) != size {
					t.Errorf("%d rungs of sort %d have %d parts, not %d", rungs, sort, impl.TreeSize(list), size)
				}
				want := impl.TreeFault{}
				if rungs > 40 || size > 400 {
					want.Code = impl.TreeMany
				}
				if f := impl.TreeCheck(list); f != want {
					t.Errorf("%d rungs of sort %d with %d parts: %v", rungs, sort, size, f)
				}
				checkLadder(t, list)
			}
		}
	}
}

// A ladder that is too great is refused, however great: also one whose nets or arms have no end.
func TestTreeVeryGreat(t *testing.T) {
	many := impl.TreeFault{Code: impl.TreeMany}
	for _, rungs := range [][]impl.Arm{
		ladder(arm(deepNet(100000), "out:Y0")), ladder(deepArm(100000)), make([]impl.Arm, 100000), ladder(arm(and(make([]impl.Net, 100000)...), "out:Y0")),
	} {
		if n, want := impl.TreeSize(rungs), wantSize(rungs); n != want {
			t.Errorf("TreeSize is %d, not %d", n, want)
		}
		if f := impl.TreeCheck(rungs); f != many {
			t.Errorf("TreeCheck is %v", f)
		}
		if n, want := impl.TreeUses(rungs, arg(1, 0, 0)), wantUses(rungs, arg(1, 0, 0)); n != want {
			t.Errorf("X0 stands %d times, not %d", n, want)
		}
		if !impl.TreeSame(rungs, slices.Clone(rungs)) {
			t.Error("it is not the same as itself")
		}
	}
	nets, arms := make([]impl.Net, 1), make([]impl.Arm, 1)
	nets[0] = not(nets...)
	arms[0] = arm(contact("X0"), "", arms...)
	for _, rungs := range [][]impl.Arm{ladder(arm(not(nets...), "out:Y0")), arms} {
		if f := impl.TreeCheck(rungs); f != many {
			t.Errorf("TreeCheck of a ladder without end is %v", f)
		}
	}
}

// Each contact and each coil that is ok, and each that is not, in each place.
func TestTreeElems(t *testing.T) {
	var elems []impl.Elem
	for _, op := range allOps() {
		elems = append(elems, elem(op))
		for _, a := range fewArgs() {
			elems = append(elems, elem(op, a))
		}
	}
	for _, e := range append(elems, okElems()...) {
		for _, rungs := range [][]impl.Arm{
			ladder(arm(impl.Net{Kind: impl.NetContact, One: e}, "out:Y0")),
			ladder(arm(contact("X0"), "", arm(and(contact("X0"), not(impl.Net{Kind: impl.NetContact, One: e})), "out:Y0"))),
			ladder(impl.Arm{Net: contact("X0"), Coils: []impl.Elem{e}}),
			ladder(arm(contact("X0"), "out:Y0", impl.Arm{Coils: []impl.Elem{part("out:Y0"), e}})),
			ladder(arm(impl.Net{Kind: impl.NetAnd, One: e, Kids: []impl.Net{contact("X0")}}, "out:Y0")),
			ladder(arm(impl.Net{One: e}, "out:Y0")),
		} {
			if f, want := impl.TreeCheck(rungs), wantFault(rungs); f != want {
				t.Errorf("TreeCheck is %v, not %v: %s", f, want, ladderText(rungs))
			}
		}
	}
}

// P21 and P22, at scattered ladders: all accepted ones, ones with few faults, and ones with many.
func TestTreeScattered(t *testing.T) {
	codes := map[int]int{}
	for wrong, count := range map[int]int{0: 600, 2: 1200, 10: 1000, 40: 300} {
		m := newMaker(1000+wrong, wrong)
		last := m.ladder()
		for range count {
			rungs := m.ladder()
			codes[impl.TreeCheck(rungs).Code]++
			checkLadder(t, rungs)
			checkSame(t, rungs, last)
			checkSame(t, rungs, remade(rungs, 0))
			if len(rungs) > 0 {
				checkSame(t, rungs, rungs[1:])
			}
			last = rungs
		}
		for range 60 {
			checkUses(t, m.ladder())
		}
	}
	for code := range 6 {
		if codes[code] < 20 && code != impl.TreeMany {
			t.Errorf("code %d comes %d times alone", code, codes[code])
		}
	}
}

// wrongLadder has something in parts that an accepted ladder leaves empty.
func wrongLadder() []impl.Arm {
	return ladder(
		arm(impl.Net{Kind: impl.NetAnd, One: part("+X0:E0"), Kids: []impl.Net{{}, contact("X0"), {Kind: 1, One: part("out:Y0"), Kids: []impl.Net{not(), {One: part("X1")}}}}}, "",
			impl.Arm{Coils: []impl.Elem{{}, part("X0")}, Kids: make([]impl.Arm, 2)}),
		impl.Arm{},
		arm(impl.Net{Kind: -3, One: impl.Elem{Args: []impl.DevArg{{}, arg(1, 2, 3)}}}, "out:Y0"),
	)
}

// P22: a ladder is the same as one made anew, and not as one with a change at a single place, be it where it may; what is said of the changed one is right too.
func TestTreeSameChanged(t *testing.T) {
	for _, rungs := range [][]impl.Arm{nil, exampleLadder(), nestedLadder(), wrongLadder(), make([]impl.Arm, 3), ladder(arm(contact("X0"), "out:Y0"))} {
		checkSame(t, rungs, remade(rungs, 0))
		checkSame(t, rungs, remade(rungs, 2))
		differ := 0
		for _, changed := range changedLadders(rungs) {
			checkSame(t, rungs, changed)
			checkLadder(t, changed)
			checkUses(t, changed)
			if ladderText(changed) != ladderText(rungs) {
				differ++
			}
		}
		if places := len(ladderText(rungs)) / 20; differ < 2 || differ < places {
			t.Errorf("only %d changed ones differ", differ)
		}
	}
}

// P22: changes of one place, each with each.
func TestTreeSameEachWithEach(t *testing.T) {
	list := changedLadders(ladder(arm(and(contact("X0"), not(contact("M1"))), "out:Y0", arm(impl.Net{}, "timer:T0,5")), arm(contact("X0"), "out:Y0")))
	for _, a := range list {
		for _, b := range list {
			checkSame(t, a, b)
		}
	}
}

// P22: the empty list and the one that is not there are the same, at each place alone and at all together.
func TestTreeSameEmpty(t *testing.T) {
	for _, rungs := range [][]impl.Arm{nil, exampleLadder(), nestedLadder(), wrongLadder(), make([]impl.Arm, 2), make([]impl.Arm, 0)} {
		places := 0
		eachValue(reflect.ValueOf(&rungs).Elem(), func(reflect.Value) { places++ })
		for place := -1; place < places; place++ {
			for _, room := range []int{-1, 0, 3} {
				changed, i := remade(rungs, 0), 0
				eachValue(reflect.ValueOf(&changed).Elem(), func(v reflect.Value) {
					if (place == i || place == -1) && v.Kind() == reflect.Slice && v.Len() == 0 {
						v.SetZero()
						if room >= 0 {
							v.Set(reflect.MakeSlice(v.Type(), 0, room))
						}
					}
					i++
				})
				if !impl.TreeSame(rungs, changed) || !impl.TreeSame(changed, rungs) {
					t.Errorf("an empty list at place %d makes another ladder of it", place)
				}
				checkSame(t, rungs, changed)
				checkLadder(t, changed)
			}
		}
	}
}

func TestTreeSameEdges(t *testing.T) {
	x, y := contact("X0"), contact("Y0")
	for i, c := range []struct {
		a, b []impl.Arm
		same bool
	}{
		{nil, nil, true},
		{nil, ladder(), true},
		{nil, make([]impl.Arm, 1), false},
		{make([]impl.Arm, 1), make([]impl.Arm, 2), false},
		{exampleLadder(), exampleLadder(), true},
		{nestedLadder(), nestedLadder(), true},
		{wrongLadder(), wrongLadder(), true},
		{exampleLadder(), nestedLadder(), false},
		{exampleLadder(), exampleLadder()[:2], false},
		{ladder(arm(and(x, y), "out:Y0")), ladder(arm(and(y, x), "out:Y0")), false}, // what means the same is not the same
		{ladder(arm(and(x), "out:Y0")), ladder(arm(x, "out:Y0")), false},
		{ladder(arm(and(x), "out:Y0")), ladder(arm(or(x), "out:Y0")), false},
		{ladder(arm(not(not(x)), "out:Y0")), ladder(arm(x, "out:Y0")), false},
		{ladder(arm(x, "out:Y0 out:Y1")), ladder(arm(x, "out:Y1 out:Y0")), false},
		{ladder(arm(x, "out:Y0 out:Y1")), ladder(arm(x, "out:Y0", arm(impl.Net{}, "out:Y1"))), false},
		{ladder(arm(x, "out:Y0", arm(y, "out:Y1"), arm(x, "out:Y2"))), ladder(arm(x, "out:Y0", arm(x, "out:Y2"), arm(y, "out:Y1"))), false},
		{ladder(arm(x, "out:Y0"), arm(y, "out:Y0")), ladder(arm(y, "out:Y0"), arm(x, "out:Y0")), false},
		{ladder(arm(x, "move:R0,0.5")), ladder(impl.Arm{Net: x, Coils: []impl.Elem{elem(30, arg(10, 0, 0), arg(12, 50, 2))}}), false}, // one number in two ways
		{ladder(arm(impl.Net{}, "")), ladder(impl.Arm{}), true},
	} {
		if impl.TreeSame(c.a, c.b) != c.same || impl.TreeSame(c.b, c.a) != c.same {
			t.Errorf("case %d: %v, and the other way %v", i, impl.TreeSame(c.a, c.b), impl.TreeSame(c.b, c.a))
		}
		checkSame(t, c.a, c.b)
	}
}

func TestTreeUsesEdges(t *testing.T) {
	d1 := arg(9, 1, 0)
	for i, c := range []struct {
		rungs []impl.Arm
		a     impl.DevArg
		uses  int
	}{
		{nil, d1, 0},
		{nil, arg(0, 0, 0), 0},
		{make([]impl.Arm, 3), arg(0, 0, 0), 0},
		{ladder(arm(contact("D1=D1"), "out:Y0")), d1, 2}, // several times in one
		{ladder(arm(contact("D1<D2"), "out:Y0")), d1, 1},
		{ladder(arm(contact("D2<D1"), "out:Y0")), d1, 1},
		{ladder(arm(contact("D2<D3"), "out:Y0")), d1, 0},
		{ladder(arm(contact("X0"), "add:D1,D1,D1")), d1, 3},
		{ladder(arm(contact("X0"), "add:D1,2,D1 move:D1,D1 move:D2,D1")), d1, 5},
		{ladder(arm(contact("X0"), "move:D1,1"), arm(contact("D1>5"), "out:Y0", arm(not(contact("D1=9")), "", arm(or(contact("X0"), and(contact("D1<>D1"))), "rem:D2,D1,3")))), d1, 6},
		{exampleLadder(), arg(3, 0, 0), 4}, // M0
		{exampleLadder(), arg(8, 0, 0), 4}, // C0
		{exampleLadder(), arg(7, 0, 0), 2}, // T0
		{exampleLadder(), arg(11, 5, 0), 1},
		{exampleLadder(), arg(11, 2, 0), 1},
		{exampleLadder(), arg(5, 0, 0), 1},
		{exampleLadder(), arg(1, 2, 0), 0},
		{exampleLadder(), arg(11, 0, 0), 0},
		{exampleLadder(), arg(3, 64, 0), 0}, // not counted round: it is another operand
		{exampleLadder(), arg(3, 0, 1), 0},
		{exampleLadder(), arg(0, 0, 0), 0},
		{nestedLadder(), arg(1, 0, 0), 7}, // X0
		{nestedLadder(), arg(9, 1, 0), 8}, // D1
		{nestedLadder(), arg(10, 1, 0), 4},
		{nestedLadder(), arg(2, 1, 0), 2},
		{nestedLadder(), arg(12, 25, 1), 1},
		{wrongLadder(), arg(1, 0, 0), 3}, // in One of a NetAnd, in a contact, in a contact where a coil stands
		{wrongLadder(), arg(1, 1, 0), 1}, // in One of a net that is of Kind NetNone, within a NetContact
		{wrongLadder(), arg(2, 0, 0), 2},
		{wrongLadder(), arg(0, 0, 0), 1}, // one that is nothing, and one that is none
		{wrongLadder(), arg(1, 2, 3), 1},
		{wrongLadder(), arg(1, 2, 0), 0},
	} {
		if n := impl.TreeUses(c.rungs, c.a); n != c.uses {
			t.Errorf("case %d: %d, not %d", i, n, c.uses)
		}
		checkUses(t, c.rungs)
	}
}

// What a call is handed is as it was behind it, and what stands in the room behind the end of a list is not looked at.
func TestTreeHandedIn(t *testing.T) {
	m := newMaker(77, 5)
	for i := range 300 {
		rungs := [][]impl.Arm{exampleLadder(), nestedLadder(), wrongLadder(), m.ladder()}[i%4]
		given := remade(rungs, 1+i%3)
		value := reflect.ValueOf(&given).Elem()
		before := roomText(value)
		size, fault, uses := impl.TreeSize(given), impl.TreeCheck(given), impl.TreeUses(given, arg(1, 0, 0))
		same, back := impl.TreeSame(given, rungs), impl.TreeSame(rungs, given)
		if roomText(value) != before {
			t.Fatalf("it has become %s, from %s", roomText(value), before)
		}
		if size != wantSize(rungs) || fault != wantFault(rungs) || uses != wantUses(rungs, arg(1, 0, 0)) || !same || !back {
			t.Errorf("with room behind its lists it is another one: %d, %v, %d, %v, %v: %s", size, fault, uses, same, back, ladderText(rungs))
		}
	}
}
