package tests

import (
	"fmt"
	"maps"
	"reflect"
	"slices"
	"strings"
	"testing"

	"loop.example/stilscan/impl"
)

// rewriter makes normal forms by single steps, each at some place where one can be made, until there is none: where it begins must not matter.
type rewriter struct{ dice }

// netStep makes one step in a net that is right, and says whether there was one.
func (r *rewriter) netStep(n impl.Net) (impl.Net, bool) {
	if r.roll(2) > 0 {
		if made, ok := r.openNet(n); ok {
			return made, true
		}
	}
	for i, first := 0, r.roll(len(n.Kids)+1); i < len(n.Kids); i++ {
		place := (first + i) % len(n.Kids)
		if kid, ok := r.netStep(n.Kids[place]); ok {
			kids := slices.Clone(n.Kids)
			kids[place] = kid
			return impl.Net{Kind: n.Kind, One: n.One, Kids: kids}, true
		}
	}
	return r.openNet(n)
}

// openNet opens one kid of the same kind, or the net itself, if it has one kid alone.
func (r *rewriter) openNet(n impl.Net) (impl.Net, bool) {
	if n.Kind != impl.NetAnd && n.Kind != impl.NetOr {
		return n, false
	}
	if len(n.Kids) == 1 {
		return n.Kids[0], true
	}
	for i, first := 0, r.roll(len(n.Kids)); i < len(n.Kids); i++ {
		place := (first + i) % len(n.Kids)
		if kid := n.Kids[place]; kid.Kind == n.Kind {
			return joint(n.Kind, slices.Concat(n.Kids[:place], kid.Kids, n.Kids[place+1:])...), true
		}
	}
	return n, false
}

// armStep makes one step in an arm that is right, and says whether there was one.
func (r *rewriter) armStep(a impl.Arm) (impl.Arm, bool) {
	if r.roll(2) > 0 {
		if made, ok := takeKid(a); ok {
			return made, true
		}
	}
	if r.roll(2) > 0 {
		if n, ok := r.netStep(a.Net); ok {
			return impl.Arm{Net: n, Coils: a.Coils, Kids: a.Kids}, true
		}
	}
	for i, first := 0, r.roll(len(a.Kids)+1); i < len(a.Kids); i++ {
		place := (first + i) % len(a.Kids)
		if kid, ok := r.armStep(a.Kids[place]); ok {
			kids := slices.Clone(a.Kids)
			kids[place] = kid
			return impl.Arm{Net: a.Net, Coils: a.Coils, Kids: kids}, true
		}
	}
	if n, ok := r.netStep(a.Net); ok {
		return impl.Arm{Net: n, Coils: a.Coils, Kids: a.Kids}, true
	}
	return takeKid(a)
}

func takeKid(a impl.Arm) (impl.Arm, bool) {
	if len(a.Kids) != 1 || len(a.Coils) > 0 && !isNothingNet(a.Kids[0].Net) {
		return a, false
	}
	kid, n := a.Kids[0], and(a.Net, a.Kids[0].Net)
	if isNothingNet(kid.Net) {
		n = a.Net
	} else if isNothingNet(a.Net) {
		n = kid.Net
	}
	return impl.Arm{Net: n, Coils: slices.Concat(a.Coils, kid.Coils), Kids: kid.Kids}, true
}

// wantNormNet is the normal form of a net, or nothing of one that is refused.
func wantNormNet(n impl.Net, seed int) impl.Net {
	if len(allNets(n)) > 400 || len(netWrongs(n, nil)) > 0 {
		return impl.Net{}
	}
	r, more := rewriter{dice{uint64(seed)}}, true
	for more {
		n, more = r.netStep(n)
	}
	return n
}

// wantNorm is the normal form of a ladder, or nothing of one that is refused.
func wantNorm(rungs []impl.Arm, seed int) []impl.Arm {
	if wantFault(rungs) != (impl.TreeFault{}) {
		return nil
	}
	r := rewriter{dice{uint64(seed)}}
	var list []impl.Arm
	for _, rung := range rungs {
		more := true
		for more {
			rung, more = r.armStep(rung)
		}
		list = append(list, rung)
	}
	return list
}

func sameText(a, b any) bool { return fmt.Sprint(a) == fmt.Sprint(b) }

// namedInOrder are the contacts and coils of a ladder from the left to the right, which no step puts into another order.
func namedInOrder(arms []impl.Arm) []impl.Elem {
	var list []impl.Elem
	var inNet func(n impl.Net)
	inNet = func(n impl.Net) {
		if n.Kind == impl.NetContact {
			list = append(list, n.One)
		}
		for _, kid := range n.Kids {
			inNet(kid)
		}
	}
	for _, a := range arms {
		inNet(a.Net)
		list = append(list, a.Coils...)
		list = append(list, namedInOrder(a.Kids)...)
	}
	return list
}

// checkNetShape holds P24 at a net.
func checkNetShape(t *testing.T, top impl.Net) {
	t.Helper()
	for _, n := range allNets(top) {
		if n.Kind != impl.NetAnd && n.Kind != impl.NetOr {
			continue
		}
		if len(n.Kids) == 1 {
			t.Errorf("a net of Kind %d has one kid: %.300s", n.Kind, fmt.Sprint(top))
		}
		for _, kid := range n.Kids {
			if kid.Kind == n.Kind {
				t.Errorf("a net of Kind %d has one of it as a kid: %.300s", n.Kind, fmt.Sprint(top))
			}
		}
	}
}

// checkShape holds P24 at a ladder.
func checkShape(t *testing.T, rungs []impl.Arm) {
	t.Helper()
	for _, a := range allArms(rungs) {
		checkNetShape(t, a.Net)
		if len(a.Kids) == 1 && len(a.Coils) == 0 {
			t.Errorf("an arm with one kid has no coils: %.300s", ladderText(rungs))
		}
		if len(a.Kids) == 1 && isNothingNet(a.Kids[0].Net) {
			t.Errorf("the one kid of an arm has no net: %.300s", ladderText(rungs))
		}
	}
}

// namedTimes is how often a ladder that is accepted names each operand.
func namedTimes(rungs []impl.Arm) map[impl.DevArg]int {
	times := map[impl.DevArg]int{}
	for _, a := range ladderArgs(rungs) {
		times[a]++
	}
	return times
}

// checkNames holds P25: each operand that one of the two names, the other names as often.
func checkNames(t *testing.T, rungs, made []impl.Arm) {
	t.Helper()
	times := namedTimes(rungs)
	if !maps.Equal(times, namedTimes(made)) {
		t.Errorf("the normal form names operands more or less often: %.300s", ladderText(rungs))
	}
	for a, want := range times {
		if n := impl.TreeUses(made, a); n != want || n != impl.TreeUses(rungs, a) {
			t.Errorf("%v stands %d times, not %d: %.300s", a, n, want, ladderText(rungs))
		}
	}
	if !sameText(namedInOrder(made), namedInOrder(rungs)) {
		t.Errorf("contacts and coils come in another order: %.300s of %.300s", ladderText(made), ladderText(rungs))
	}
}

// checkNorm holds P23, P24 and P25 at a ladder, right or wrong, and its normal form against that of the rewriter.
func checkNorm(t *testing.T, rungs []impl.Arm) {
	t.Helper()
	made, want := impl.NormMake(rungs), wantNorm(rungs, 1)
	accepted := wantFault(rungs) == (impl.TreeFault{})
	if !sameText(made, want) || !sameText(made, wantNorm(rungs, 2)) {
		t.Errorf("NormMake is %.300s, not %.300s: %.300s", ladderText(made), ladderText(want), ladderText(rungs))
	}
	if is := impl.NormIs(rungs); is != (accepted && sameText(want, rungs)) {
		t.Errorf("NormIs is %v: %.300s", is, ladderText(rungs))
	}
	if !accepted {
		return
	}
	if len(made) != len(rungs) {
		t.Errorf("of %d rungs there are %d: %.300s", len(rungs), len(made), ladderText(rungs))
	}
	if f := impl.TreeCheck(made); f != (impl.TreeFault{}) || wantFault(made) != f {
		t.Errorf("the normal form is not accepted: %v: %.300s", f, ladderText(rungs))
	}
	if again := impl.NormMake(made); !impl.TreeSame(again, made) || !sameText(again, made) || !impl.NormIs(made) {
		t.Errorf("the normal form of the normal form is another one: %.300s: %.300s", ladderText(again), ladderText(rungs))
	}
	if n, most := impl.TreeSize(made), impl.TreeSize(rungs); n > most || n != wantSize(made) {
		t.Errorf("the normal form has %d parts of %d: %.300s", n, most, ladderText(rungs))
	}
	checkShape(t, made)
	checkNames(t, rungs, made)
}

// checkNormNet holds NormNet at a net, right or wrong.
func checkNormNet(t *testing.T, n impl.Net) {
	t.Helper()
	made, want := impl.NormNet(n), wantNormNet(n, 1)
	if !sameText(made, want) || !sameText(made, wantNormNet(n, 2)) {
		t.Errorf("NormNet is %.300s, not %.300s: %.300s", fmt.Sprint(made), fmt.Sprint(want), fmt.Sprint(n))
	}
	checkNetShape(t, made)
	if again := impl.NormNet(made); !sameText(again, made) {
		t.Errorf("NormNet of it is another one: %.300s: %.300s", fmt.Sprint(again), fmt.Sprint(n))
	}
	if len(allNets(made)) > len(allNets(n)) {
		t.Errorf("it has %d nets of %d", len(allNets(made)), len(allNets(n)))
	}
}

// ladderOf has the net in the places where one may stand.
func ladderOf(n impl.Net) []impl.Arm {
	return ladder(arm(n, "out:Y0", arm(n, "out:Y1"), arm(not(n), "", arm(n, "out:Y2"), arm(n, "set:M0 set:M1"))), arm(n, "out:Y3"))
}

func TestNormNetEdges(t *testing.T) {
	x, y, z, w := contact("X0"), contact("/X1"), contact("D1<D2"), contact("+X3:E0")
	for i, c := range []struct{ n, want impl.Net }{
		{x, x},
		{w, w},
		{contact("R1>=-0.5"), contact("R1>=-0.5")},
		// A kid of the same kind is opened, in its place.
		{and(x, y), and(x, y)},
		{or(x, y), or(x, y)},
		{and(x, x), and(x, x)}, // two that are alike stay two
		{or(x, x, x), or(x, x, x)},
		{and(and(x, y), z), and(x, y, z)},
		{and(x, and(y, z)), and(x, y, z)},
		{and(x, and(y, z), w), and(x, y, z, w)},
		{and(and(x, y), and(z, w)), and(x, y, z, w)},
		{and(and(x, y), w, and(z, x)), and(x, y, w, z, x)},
		{or(or(x, y), z), or(x, y, z)},
		{or(x, or(y, z)), or(x, y, z)},
		{or(or(x, y), w, or(z, x)), or(x, y, w, z, x)},
		{and(and(and(x, y), z), w), and(x, y, z, w)},
		{and(x, and(y, and(z, w))), and(x, y, z, w)},
		{or(or(or(or(x, y), z), w), x), or(x, y, z, w, x)},
		// One of the other kind stays.
		{and(or(x, y), z), and(or(x, y), z)},
		{or(and(x, y), z), or(and(x, y), z)},
		{and(x, or(y, and(z, w))), and(x, or(y, and(z, w)))},
		{and(or(x, or(y, z)), and(x, w)), and(or(x, y, z), x, w)},
		{or(and(x, and(y, z)), or(x, w)), or(and(x, y, z), x, w)},
		{and(or(and(x, and(y, z)), w), or(x, y)), and(or(and(x, y, z), w), or(x, y))},
		// One kid alone stands instead.
		{and(x), x},
		{or(x), x},
		{and(and(x)), x},
		{or(or(x)), x},
		{and(or(x)), x},
		{or(and(x)), x},
		{or(and(or(and(x)))), x},
		{and(or(x), or(y)), and(x, y)},
		{or(and(x), y), or(x, y)},
		{and(or(x, y)), or(x, y)},
		{or(and(x, y)), and(x, y)},
		// And is opened then, if it is of the kind of the one ahead.
		{or(and(or(x, y))), or(x, y)},
		{and(or(and(x, y))), and(x, y)},
		{and(or(and(x, y)), z), and(x, y, z)},
		{and(z, or(and(x, y))), and(z, x, y)},
		{or(z, and(or(x, y)), w), or(z, x, y, w)},
		{or(z, and(or(and(or(x, y)))), w), or(z, x, y, w)},
		{or(and(or(x, and(or(y, z)))), w), or(x, y, z, w)},
		{and(or(and(or(x, y)))), or(x, y)},
		{and(or(and(or(x, y))), z), and(or(x, y), z)},
		// A NetNot stays, with its kid's normal form.
		{not(x), not(x)},
		{not(not(x)), not(not(x))},
		{not(not(not(x))), not(not(not(x)))},
		{not(and(x)), not(x)},
		{not(or(and(x))), not(x)},
		{not(not(and(x))), not(not(x))},
		{and(not(x)), not(x)},
		{or(not(or(x))), not(x)},
		{not(and(x, y)), not(and(x, y))},
		{not(and(and(x, y), z)), not(and(x, y, z))},
		{not(or(x, and(or(y, z)))), not(or(x, y, z))},
		{and(not(and(x, y)), z), and(not(and(x, y)), z)}, // no kid of a kid is opened through it
		{and(not(and(x, and(y))), and(z)), and(not(and(x, y)), z)},
		{or(not(or(x, y)), z), or(not(or(x, y)), z)},
		{not(and(not(and(not(x))))), not(not(not(x)))},
		// An empty list is none.
		{impl.Net{Kind: impl.NetContact, One: part("X0"), Kids: []impl.Net{}}, x},
		{impl.Net{Kind: impl.NetAnd, One: impl.Elem{Args: []impl.DevArg{}}, Kids: []impl.Net{x, y}}, and(x, y)},
		{impl.Net{Kind: impl.NetNot, One: impl.Elem{Args: []impl.DevArg{}}, Kids: []impl.Net{x}}, not(x)},
	} {
		if n := impl.NormNet(c.n); !sameText(n, c.want) {
			t.Errorf("case %d: %v, not %v", i, n, c.want)
		}
		checkNormNet(t, c.n)
		checkNorm(t, ladderOf(c.n))
		if made := impl.NormMake(ladder(arm(c.n, "out:Y0"), arm(x, "", arm(c.n, "out:Y0"), arm(c.n, "out:Y1")))); !sameText(made, ladder(arm(c.want, "out:Y0"), arm(x, "", arm(c.want, "out:Y0"), arm(c.want, "out:Y1")))) {
			t.Errorf("case %d in a ladder: %v", i, made)
		}
	}
}

// A net that is wrong has no normal form, wherever in it that is, and is not looked over because its normal form would be right.
func TestNormNetWrong(t *testing.T) {
	x := contact("X0")
	for i, bad := range []impl.Net{
		{}, // none
		{Kids: []impl.Net{}, One: impl.Elem{Args: []impl.DevArg{}}},
		and(), or(), not(), {Kind: impl.NetAnd, Kids: []impl.Net{}}, // TreeBadNet
		not(x, x), not(x, x, x), not(x, impl.Net{}),
		{One: part("X0")}, joint(impl.NetNone, x),
		joint(-1, x), joint(5, x), joint(258, x), {Kind: 5, One: part("X0")}, {Kind: -1},
		{Kind: impl.NetContact, One: part("X0"), Kids: []impl.Net{x}},
		{Kind: impl.NetContact, One: part("X0"), Kids: make([]impl.Net, 1)},
		{Kind: impl.NetAnd, One: part("X0"), Kids: []impl.Net{x}},
		{Kind: impl.NetOr, One: part("X0"), Kids: []impl.Net{x, x}},
		{Kind: impl.NetNot, One: impl.Elem{Op: 1}, Kids: []impl.Net{x}},
		{Kind: impl.NetAnd, One: impl.Elem{Args: make([]impl.DevArg, 1)}, Kids: []impl.Net{x, x}},
		{Kind: impl.NetContact}, // TreeBadElem
		{Kind: impl.NetContact, One: part("out:Y0")},
		{Kind: impl.NetContact, One: elem(1)},
		{Kind: impl.NetContact, One: elem(1, arg(1, 32, 0))},
		{Kind: impl.NetContact, One: elem(1, arg(5, 0, 0))},
		{Kind: impl.NetContact, One: elem(1, arg(1, 0, 0), arg(1, 0, 0))},
		{Kind: impl.NetContact, One: elem(11, arg(1, 0, 0))},
	} {
		for _, n := range []impl.Net{bad, and(bad), or(bad), not(bad), and(x, bad), or(bad, x), and(x, and(x, bad), x), not(not(bad)), or(and(or(not(and(bad)))), x), and(and(bad), or(x)), and(x, or(bad, bad))} {
			if made := impl.NormNet(n); !sameText(made, impl.Net{}) {
				t.Errorf("case %d: %v of %v", i, made, n)
			}
			checkNormNet(t, n)
			if isNothingNet(n) {
				continue
			}
			for _, rungs := range [][]impl.Arm{ladder(arm(n, "out:Y0")), ladder(arm(x, "", arm(n, "out:Y0"))), ladder(arm(x, "out:Y0"), arm(x, "out:Y1", arm(x, "out:Y0"), arm(n, "out:Y0")))} {
				if made := impl.NormMake(rungs); len(made) != 0 || impl.NormIs(rungs) {
					t.Errorf("case %d: %v, %v of %v", i, made, impl.NormIs(rungs), rungs)
				}
				checkNorm(t, rungs)
			}
		}
	}
}

func TestNormArmEdges(t *testing.T) {
	x, y, z, w, none := contact("X0"), contact("/X1"), contact("D1<D2"), contact("+X3:E0"), impl.Net{}
	for i, c := range []struct{ a, want impl.Arm }{
		{arm(x, "out:Y0"), arm(x, "out:Y0")},
		{arm(and(or(x)), "out:Y0 out:Y0"), arm(x, "out:Y0 out:Y0")},
		{arm(or(x, or(y, z)), "set:M1 out:Y0"), arm(or(x, y, z), "set:M1 out:Y0")},
		// No coils and one kid: it is taken in, and its own one kid too.
		{arm(x, "", arm(y, "out:Y0")), arm(and(x, y), "out:Y0")},
		{arm(x, "", arm(y, "out:Y0 out:Y1 set:M0")), arm(and(x, y), "out:Y0 out:Y1 set:M0")},
		{arm(x, "", arm(y, "", arm(z, "out:Y0"))), arm(and(x, y, z), "out:Y0")},
		{arm(x, "", arm(y, "", arm(z, "", arm(w, "out:Y0")))), arm(and(x, y, z, w), "out:Y0")},
		{arm(x, "", arm(y, "out:Y0", arm(z, "out:Y1"))), arm(and(x, y), "out:Y0", arm(z, "out:Y1"))},
		{arm(x, "", arm(y, "out:Y0", arm(none, "out:Y1"))), arm(and(x, y), "out:Y0 out:Y1")},
		{arm(x, "", arm(y, "out:Y0", arm(none, "out:Y1", arm(z, "", arm(w, "out:Y2"))))), arm(and(x, y), "out:Y0 out:Y1", arm(and(z, w), "out:Y2"))},
		// Coils and one kid: it is taken in just if its net is none.
		{arm(x, "out:Y0", arm(y, "out:Y1")), arm(x, "out:Y0", arm(y, "out:Y1"))},
		{arm(x, "out:Y0", arm(none, "out:Y1")), arm(x, "out:Y0 out:Y1")},
		{arm(x, "out:Y1", arm(none, "out:Y0", arm(none, "out:Y2"))), arm(x, "out:Y1 out:Y0 out:Y2")},
		{arm(x, "out:Y0", arm(none, "out:Y1", arm(y, "out:Y2"))), arm(x, "out:Y0 out:Y1", arm(y, "out:Y2"))},
		{arm(x, "out:Y0", arm(none, "", arm(y, "out:Y2"))), arm(x, "out:Y0", arm(y, "out:Y2"))},
		{arm(x, "out:Y0", arm(none, "", arm(none, "", arm(y, "out:Y2")))), arm(x, "out:Y0", arm(y, "out:Y2"))},
		{arm(x, "out:Y0", arm(none, "", arm(none, "out:Y2"))), arm(x, "out:Y0 out:Y2")},
		{arm(x, "out:Y0", arm(y, "", arm(none, "out:Y2"))), arm(x, "out:Y0", arm(y, "out:Y2"))},
		{arm(x, "out:Y0", arm(y, "", arm(z, "out:Y2"))), arm(x, "out:Y0", arm(and(y, z), "out:Y2"))},
		{arm(x, "out:Y0", arm(and(y), "out:Y1", arm(or(z), "out:Y2"))), arm(x, "out:Y0", arm(y, "out:Y1", arm(z, "out:Y2")))},
		{arm(x, "out:Y0", arm(none, "", arm(y, "out:Y1"), arm(z, "out:Y2"))), arm(x, "out:Y0", arm(y, "out:Y1"), arm(z, "out:Y2"))},
		{arm(x, "out:Y0", arm(none, "out:Y3", arm(none, "out:Y1"), arm(z, "out:Y2"))), arm(x, "out:Y0 out:Y3", arm(none, "out:Y1"), arm(z, "out:Y2"))},
		// A net that is none, on one side, on the other, on both.
		{arm(x, "", arm(none, "out:Y0")), arm(x, "out:Y0")},
		{arm(x, "", arm(none, "", arm(none, "out:Y0"))), arm(x, "out:Y0")},
		{arm(x, "", arm(none, "", arm(y, "out:Y0"))), arm(and(x, y), "out:Y0")},
		{arm(x, "", arm(y, "", arm(none, "out:Y0"))), arm(and(x, y), "out:Y0")},
		{arm(or(x, y), "", arm(none, "out:Y0")), arm(or(x, y), "out:Y0")},
		// In a kid that is not taken in itself.
		{arm(x, "", arm(none, "", arm(y, "out:Y0")), arm(z, "out:Y1")), arm(x, "", arm(y, "out:Y0"), arm(z, "out:Y1"))},
		{arm(x, "", arm(none, "", arm(or(y, z), "out:Y0")), arm(z, "out:Y1")), arm(x, "", arm(or(y, z), "out:Y0"), arm(z, "out:Y1"))},
		{arm(x, "", arm(y, "", arm(none, "out:Y0")), arm(z, "out:Y1")), arm(x, "", arm(y, "out:Y0"), arm(z, "out:Y1"))},
		{arm(x, "", arm(none, "", arm(none, "out:Y0")), arm(z, "out:Y1")), arm(x, "", arm(none, "out:Y0"), arm(z, "out:Y1"))},
		{arm(x, "", arm(none, "out:Y2", arm(none, "out:Y0")), arm(z, "out:Y1")), arm(x, "", arm(none, "out:Y2 out:Y0"), arm(z, "out:Y1"))},
		{arm(x, "", arm(y, "", arm(z, "out:Y0")), arm(z, "out:Y1")), arm(x, "", arm(and(y, z), "out:Y0"), arm(z, "out:Y1"))},
		{arm(x, "", arm(none, "", arm(y, "out:Y0"), arm(y, "out:Y2")), arm(z, "out:Y1")), arm(x, "", arm(none, "", arm(y, "out:Y0"), arm(y, "out:Y2")), arm(z, "out:Y1"))},
		// Two nets that join, of which one or both are a NetAnd.
		{arm(and(x, y), "", arm(z, "out:Y0")), arm(and(x, y, z), "out:Y0")},
		{arm(x, "", arm(and(y, z), "out:Y0")), arm(and(x, y, z), "out:Y0")},
		{arm(and(x, y), "", arm(and(z, w), "out:Y0")), arm(and(x, y, z, w), "out:Y0")},
		{arm(and(x), "", arm(and(y), "out:Y0")), arm(and(x, y), "out:Y0")},
		{arm(and(or(x, y)), "", arm(or(and(z, w)), "out:Y0")), arm(and(or(x, y), z, w), "out:Y0")},
		{arm(or(x, y), "", arm(z, "out:Y0")), arm(and(or(x, y), z), "out:Y0")},
		{arm(or(x, y), "", arm(or(z, w), "out:Y0")), arm(and(or(x, y), or(z, w)), "out:Y0")},
		{arm(not(x), "", arm(not(and(y, z)), "out:Y0")), arm(and(not(x), not(and(y, z))), "out:Y0")},
		{arm(x, "", arm(x, "out:Y0")), arm(and(x, x), "out:Y0")},
		// Two kids or more: none is taken in, but what they have is.
		{arm(x, "", arm(y, "out:Y0"), arm(z, "out:Y1")), arm(x, "", arm(y, "out:Y0"), arm(z, "out:Y1"))},
		{arm(x, "", arm(none, "out:Y0"), arm(none, "out:Y1")), arm(x, "", arm(none, "out:Y0"), arm(none, "out:Y1"))},
		{arm(x, "out:Y2", arm(none, "out:Y0"), arm(none, "out:Y1")), arm(x, "out:Y2", arm(none, "out:Y0"), arm(none, "out:Y1"))},
		{arm(x, "", arm(y, "out:Y0"), arm(z, "out:Y1"), arm(or(w), "out:Y2", arm(none, "out:Y3"))), arm(x, "", arm(y, "out:Y0"), arm(z, "out:Y1"), arm(w, "out:Y2 out:Y3"))},
		{arm(x, "", arm(y, "", arm(z, "out:Y0"), arm(w, "out:Y1"))), arm(and(x, y), "", arm(z, "out:Y0"), arm(w, "out:Y1"))},
		{arm(x, "", arm(y, "set:M0", arm(z, "out:Y0"), arm(w, "out:Y1"))), arm(and(x, y), "set:M0", arm(z, "out:Y0"), arm(w, "out:Y1"))},
		{arm(x, "", arm(none, "", arm(none, "", arm(z, "out:Y0"), arm(w, "out:Y1")))), arm(x, "", arm(z, "out:Y0"), arm(w, "out:Y1"))},
		{arm(x, "", arm(y, "out:Y0", arm(z, "", arm(w, "out:Y1")), arm(none, "", arm(none, "out:Y2", arm(none, "out:Y3"))))), arm(and(x, y), "out:Y0", arm(and(z, w), "out:Y1"), arm(none, "out:Y2 out:Y3"))},
		{arm(x, "", arm(y, "out:Y0", arm(z, "out:Y1", arm(w, "out:Y2", arm(x, "", arm(none, "out:Y3")))))), arm(and(x, y), "out:Y0", arm(z, "out:Y1", arm(w, "out:Y2", arm(x, "out:Y3"))))},
	} {
		more := arm(or(and(x), y), "out:Y9", arm(none, "out:Y8"))
		moreWant := arm(or(x, y), "out:Y9 out:Y8")
		for _, place := range []struct{ in, want []impl.Arm }{
			{ladder(c.a), ladder(c.want)},
			{ladder(more, c.a), ladder(moreWant, c.want)},
			{ladder(c.a, more, c.a), ladder(c.want, moreWant, c.want)},
			{ladder(arm(x, "out:Y7", c.a)), ladder(arm(x, "out:Y7", c.want))},
			{ladder(arm(x, "", more, c.a, more)), ladder(arm(x, "", moreWant, c.want, moreWant))},
			{ladder(arm(x, "set:M3", arm(none, "", c.a, more), more)), ladder(arm(x, "set:M3", arm(none, "", c.want, moreWant), moreWant))},
		} {
			if made := impl.NormMake(place.in); !sameText(made, place.want) {
				t.Errorf("case %d: %v, not %v", i, made, place.want)
			}
			if is := impl.NormIs(place.in); is != sameText(place.in, place.want) {
				t.Errorf("case %d: NormIs is %v: %v", i, is, place.in)
			}
			if !impl.NormIs(place.want) {
				t.Errorf("case %d: what is asked for is no normal form: %v", i, place.want)
			}
			checkNorm(t, place.in)
		}
	}
}

// normalLadder is the normal form of nestedLadder, written out.
func normalLadder() []impl.Arm {
	return ladder(
		arm(or(and(contact("X0"), not(or(contact("M1"), contact("D1<D2")))), not(not(contact("-X0:E3"))), contact("R1>=0.5")), "out:Y1 add:D1,D1,D1",
			arm(impl.Net{}, "step:S3", arm(impl.Net{}, "move:D1,-7"), arm(not(contact("X0")), "pulse:M1,E4 set:M1")),
			arm(and(contact("G1"), contact("X0")), "out:Y1")),
		arm(not(and(contact("X0"), contact("/X0"), contact("D1=D1"))), "late:T1,100"),
		arm(contact("S3"), "", arm(contact("X1"), "whole:D1,R1"), arm(contact("X0"), "mul:R1,R1,2.5")),
	)
}

func TestNormLadders(t *testing.T) {
	for i, c := range []struct{ in, want []impl.Arm }{
		{nil, nil},
		{ladder(), nil},
		{exampleLadder(), exampleLadder()},
		{nestedLadder(), normalLadder()},
		{normalLadder(), normalLadder()},
		{append(exampleLadder(), nestedLadder()...), append(exampleLadder(), normalLadder()...)},
		{slices.Repeat(ladder(arm(and(contact("X0")), "out:Y0")), 40), slices.Repeat(ladder(arm(contact("X0"), "out:Y0")), 40)}, // rungs that are alike stay as many
	} {
		if made := impl.NormMake(c.in); !sameText(made, c.want) || !impl.TreeSame(made, c.want) {
			t.Errorf("case %d: %v, not %v", i, made, c.want)
		}
		if !impl.NormIs(c.want) || impl.NormIs(c.in) != sameText(c.in, c.want) {
			t.Errorf("case %d: NormIs is %v, and %v of the normal form", i, impl.NormIs(c.in), impl.NormIs(c.want))
		}
		checkNorm(t, c.in)
	}
	if impl.TreeSize(normalLadder()) >= impl.TreeSize(nestedLadder()) {
		t.Error("the normal form is not the smaller one")
	}
}

// A ladder that is not accepted has no normal form and is none, by whatever code, also where all its rungs but one are in normal form.
func TestNormWrongLadders(t *testing.T) {
	x, none, y := contact("X0"), impl.Net{}, "out:Y0"
	right := arm(x, y)
	codes := map[int]bool{}
	for i, c := range []struct {
		rungs []impl.Arm
		code  int
	}{
		{slices.Repeat(ladder(right), 41), impl.TreeMany},
		{make([]impl.Arm, 41), impl.TreeMany},
		{ladder(arm(x, strings.Repeat("out:Y0 ", 399))), impl.TreeMany},
		{ladder(arm(and(slices.Repeat([]impl.Net{x}, 398)...), y)), impl.TreeMany},
		{ladder(arm(deepNet(399), y)), impl.TreeMany}, // its normal form would be small enough
		{ladder(deepArm(200)), impl.TreeMany},
		{ladder(arm(and(), y)), impl.TreeBadNet},
		{ladder(arm(and(x, none), y)), impl.TreeBadNet},
		{ladder(right, arm(x, y, arm(not(x, x), y))), impl.TreeBadNet},
		{ladder(arm(impl.Net{One: part("X0")}, y)), impl.TreeBadNet},
		{ladder(arm(impl.Net{Kind: impl.NetContact, One: part(y)}, y)), impl.TreeBadElem},
		{ladder(right, right, impl.Arm{Net: x, Coils: []impl.Elem{part("X0")}}), impl.TreeBadElem},
		{ladder(arm(x, "", impl.Arm{Coils: []impl.Elem{{}}})), impl.TreeBadElem},
		{ladder(arm(none, y)), impl.TreeNoNet},
		{ladder(arm(none, "", arm(x, y))), impl.TreeNoNet}, // its normal form would have a net
		{ladder(right, arm(none, "", right, right)), impl.TreeNoNet},
		{ladder(impl.Arm{}), impl.TreeNoNet},
		{ladder(arm(x, "")), impl.TreeNoCoil},
		{ladder(arm(x, "", arm(none, ""))), impl.TreeNoCoil},
		{ladder(arm(x, y, arm(none, ""))), impl.TreeNoCoil}, // its normal form would have a coil
		{ladder(right, arm(x, y, arm(x, y), arm(x, "", arm(x, "")))), impl.TreeNoCoil},
	} {
		if f := impl.TreeCheck(c.rungs); f.Code != c.code {
			t.Errorf("case %d: the code is %d, not %d", i, f.Code, c.code)
		}
		if made := impl.NormMake(c.rungs); len(made) != 0 || impl.NormIs(c.rungs) {
			t.Errorf("case %d: %.300s, NormIs is %v", i, ladderText(made), impl.NormIs(c.rungs))
		}
		checkNorm(t, c.rungs)
		codes[c.code] = true
	}
	if len(codes) != 5 {
		t.Errorf("not each code comes: %v", codes)
	}
}

// The limits may be met exactly: of a net, of a ladder's parts, and of its rungs.
func TestNormLimits(t *testing.T) {
	x := contact("X0")
	list := func(n int) []impl.Net { return slices.Repeat([]impl.Net{x}, n) }
	for i, c := range []struct {
		n    impl.Net
		want impl.Net
	}{
		{and(list(399)...), and(list(399)...)},
		{and(list(400)...), impl.Net{}},
		{or(list(399)...), or(list(399)...)},
		{or(list(400)...), impl.Net{}},
		{or(and(or(list(199)...)), or(list(197)...)), or(list(396)...)}, // 400 nets, and 401
		{or(and(or(list(199)...)), or(list(198)...)), impl.Net{}},
		{and(append(list(397), and(x))...), and(list(398)...)},
		{and(append(list(398), and(x))...), impl.Net{}}, // its normal form would be small enough
		{not(and(list(398)...)), not(and(list(398)...))},
		{not(and(list(399)...)), impl.Net{}},
		{and(make([]impl.Net, 399)...), impl.Net{}},
	} {
		if n := impl.NormNet(c.n); !sameText(n, c.want) {
			t.Errorf("case %d, of %d nets: %.300s", i, len(allNets(c.n)), fmt.Sprint(n))
		}
		checkNormNet(t, c.n)
	}
	for _, nets := range []int{1, 2, 3, 4, 398, 399, 400, 401, 402, 1000} {
		one := x
		for i := 1; i < nets; i++ {
			one = joint(impl.NetAnd+i%2, one)
		}
		if n, small := impl.NormNet(one), sameText(impl.NormNet(one), x); small != (nets <= 400) || !small && !isNothingNet(n) {
			t.Errorf("of %d nets within each other: %.300s", nets, fmt.Sprint(n))
		}
		checkNormNet(t, one)
		checkNormNet(t, deepNet(nets))
	}
	for sort := range sizedSorts {
		for _, rungs := range []int{1, 2, 39, 40, 41} {
			for _, size := range []int{3 * rungs, 3*rungs + 3, 399, 400, 401} {
				if list := sizedLadder(rungs, size, sort); (len(impl.NormMake(list)) == rungs) != (rungs <= 40 && size <= 400) {
					t.Errorf("of %d rungs of sort %d with %d parts there are %d", rungs, sort, size, len(impl.NormMake(list)))
				}
				checkNorm(t, sizedLadder(rungs, size, sort))
			}
		}
	}
	for _, arms := range []int{1, 2, 3, 198, 199, 200} {
		checkNorm(t, ladder(deepArm(arms)))
	}
	if made := impl.NormMake(ladder(deepArm(199))); !sameText(made, ladder(arm(and(list(199)...), "out:Y0"))) {
		t.Errorf("of 199 arms within each other: %.300s", ladderText(made))
	}
}

// What is too great is refused, however great: also where it has no end.
func TestNormVeryGreat(t *testing.T) {
	nets, arms, wide := make([]impl.Net, 1), make([]impl.Arm, 1), make([]impl.Net, 3)
	nets[0] = not(nets...)
	arms[0] = arm(contact("X0"), "", arms...)
	for i := range wide {
		wide[i] = and(wide...)
	}
	for i, n := range []impl.Net{deepNet(100000), and(make([]impl.Net, 100000)...), nets[0], and(contact("X0"), nets[0]), or(wide...)} {
		if made := impl.NormNet(n); !isNothingNet(made) {
			t.Errorf("case %d: NormNet is %.300s", i, fmt.Sprint(made))
		}
		rungs := ladder(arm(contact("X0"), "out:Y0"), arm(n, "out:Y0"))
		if made := impl.NormMake(rungs); len(made) != 0 || impl.NormIs(rungs) {
			t.Errorf("case %d: NormMake is %.300s", i, ladderText(made))
		}
	}
	for i, rungs := range [][]impl.Arm{ladder(deepArm(100000)), make([]impl.Arm, 100000), arms, ladder(arm(contact("X0"), "out:Y0", arms...))} {
		if made := impl.NormMake(rungs); len(made) != 0 || impl.NormIs(rungs) {
			t.Errorf("case %d: NormMake is %.300s", i, ladderText(made))
		}
	}
}

// Each contact and each coil that is ok stands in the normal form as it was.
func TestNormElems(t *testing.T) {
	for _, e := range okElems() {
		if e.Op > 10 {
			coils := []impl.Elem{e, part("out:Y0"), e}
			made := impl.NormMake(ladder(impl.Arm{Net: contact("X0"), Coils: coils[:1], Kids: []impl.Arm{{Coils: coils[1:]}}}))
			if !sameText(made, ladder(impl.Arm{Net: contact("X0"), Coils: coils})) {
				t.Errorf("%s: %v", impl.ElemText(e), made)
			}
			continue
		}
		n := impl.Net{Kind: impl.NetContact, One: e}
		if made := impl.NormNet(or(and(n, and(n)), not(n))); !sameText(made, or(and(n, n), not(n))) {
			t.Errorf("%s: %v", impl.ElemText(e), made)
		}
	}
}

// nestedArm has nets and arms deeper within each other than those of the maker, and often one kid alone.
func (m *maker) nestedArm(deep int, rung bool) impl.Arm {
	a := impl.Arm{}
	if rung && !m.errs() || m.roll(3) > 0 {
		a.Net = m.net(m.roll(5))
	}
	if m.roll(2) > 0 {
		for range 1 + m.roll(2) {
			a.Coils = append(a.Coils, m.elem(m.coils, m.contacts))
		}
	}
	if deep > 0 {
		for range []int{0, 1, 1, 1, 1, 2, 3}[m.roll(7)] {
			a.Kids = append(a.Kids, m.nestedArm(deep-1, false))
		}
	}
	if len(a.Coils) == 0 && len(a.Kids) == 0 && !m.errs() {
		a.Coils = append(a.Coils, m.elem(m.coils, m.contacts))
	}
	return a
}

func (m *maker) nestedLadder() []impl.Arm {
	var rungs []impl.Arm
	for range m.roll(4) {
		rungs = append(rungs, m.nestedArm(4, true))
	}
	return rungs
}

// P23, P24 and P25 at scattered ladders: accepted ones, ones with few faults, and ones with many; at their nets too.
func TestNormScattered(t *testing.T) {
	accepted, changed := 0, 0
	for wrong, count := range map[int]int{0: 1500, 1: 500, 10: 300} {
		m := newMaker(2000+wrong, wrong)
		for i := range count {
			rungs := m.nestedLadder()
			if i%4 == 0 {
				rungs = m.ladder()
			}
			checkNorm(t, rungs)
			if impl.TreeCheck(rungs) == (impl.TreeFault{}) {
				accepted++
				if !impl.NormIs(rungs) {
					changed++
				}
			}
			checkNormNet(t, m.net(i%6))
		}
	}
	if accepted < 1000 || changed < 500 || changed > accepted-100 {
		t.Errorf("of %d accepted ladders %d are changed", accepted, changed)
	}
}

// undoneNets are the nets that one step makes a net in normal form: some net within it is wrapped, or some kids of it are.
func undoneNets(n impl.Net) []impl.Net {
	list := []impl.Net{and(n), or(n)}
	if n.Kind == impl.NetAnd || n.Kind == impl.NetOr {
		for from := range n.Kids {
			for to := from + 2; to <= len(n.Kids); to++ {
				wrapped := joint(n.Kind, n.Kids[from:to]...)
				list = append(list, joint(n.Kind, slices.Concat(n.Kids[:from], []impl.Net{wrapped}, n.Kids[to:])...))
			}
		}
	}
	for i, kid := range n.Kids {
		for _, undone := range undoneNets(kid) {
			kids := slices.Clone(n.Kids)
			kids[i] = undone
			list = append(list, joint(n.Kind, kids...))
		}
	}
	return list
}

// undoneArms are likewise the arms that a step makes an arm in normal form; a rung keeps a net.
func undoneArms(a impl.Arm, rung bool) []impl.Arm {
	list := []impl.Arm{{Net: a.Net, Kids: []impl.Arm{{Coils: a.Coils, Kids: a.Kids}}}}
	if !rung {
		list = append(list, impl.Arm{Kids: []impl.Arm{a}})
	}
	for i := 1; i <= len(a.Coils); i++ {
		if i < len(a.Coils) || len(a.Kids) > 0 {
			list = append(list, impl.Arm{Net: a.Net, Coils: a.Coils[:i], Kids: []impl.Arm{{Coils: a.Coils[i:], Kids: a.Kids}}})
		}
	}
	if a.Net.Kind == impl.NetAnd {
		for i := 1; i < len(a.Net.Kids); i++ {
			kid := impl.Arm{Net: and(a.Net.Kids[i:]...), Coils: a.Coils, Kids: a.Kids}
			list = append(list, impl.Arm{Net: and(a.Net.Kids[:i]...), Kids: []impl.Arm{kid}})
		}
	}
	if !isNothingNet(a.Net) {
		for _, undone := range undoneNets(a.Net) {
			list = append(list, impl.Arm{Net: undone, Coils: a.Coils, Kids: a.Kids})
		}
	}
	for i, kid := range a.Kids {
		for _, undone := range undoneArms(kid, false) {
			kids := slices.Clone(a.Kids)
			kids[i] = undone
			list = append(list, impl.Arm{Net: a.Net, Coils: a.Coils, Kids: kids})
		}
	}
	return list
}

// Of each ladder that is one step away from a normal form, wherever that is, this is the normal form again; and such a ladder is none.
func TestNormUndone(t *testing.T) {
	m := newMaker(31, 0)
	bases := [][]impl.Arm{exampleLadder(), normalLadder(), ladder(arm(contact("X0"), "out:Y0"))}
	for range 40 {
		bases = append(bases, impl.NormMake(m.nestedLadder()))
	}
	steps := 0
	for _, base := range bases {
		if impl.TreeSize(base) > 398 || !impl.NormIs(base) {
			t.Fatalf("that is no ladder to begin with: %v", base)
		}
		for i, rung := range base {
			for _, undone := range undoneArms(rung, true) {
				rungs := slices.Clone(base)
				rungs[i] = undone
				steps++
				if impl.NormIs(rungs) || !sameText(impl.NormMake(rungs), base) {
					t.Errorf("NormIs is %v, NormMake %v: %v", impl.NormIs(rungs), impl.NormMake(rungs), rungs)
				}
			}
		}
	}
	if steps < 1000 {
		t.Errorf("only %d ladders", steps)
	}
}

// NormIs at ladders that differ at one place alone from one in normal form: some of them are in it too, and most are not accepted.
func TestNormIsChanged(t *testing.T) {
	is, not := 0, 0
	for _, base := range [][]impl.Arm{nil, exampleLadder(), normalLadder(), nestedLadder(), ladder(arm(and(contact("X0"), contact("X1")), "out:Y0", arm(contact("X2"), "out:Y1")))} {
		for _, rungs := range changedLadders(base) {
			checkNorm(t, rungs)
			if wantFault(rungs) != (impl.TreeFault{}) {
				continue
			}
			if impl.NormIs(rungs) {
				is++
			} else {
				not++
			}
		}
	}
	if is < 20 || not < 20 {
		t.Errorf("of the accepted ones %d are in normal form, %d are not", is, not)
	}
}

// memoryRoom is where a list lies, to the end of its room.
type memoryRoom struct{ from, to uintptr }

// memoryRooms are those of all lists, those in the room behind an end included.
func memoryRooms(v reflect.Value) []memoryRoom {
	var list []memoryRoom
	switch v.Kind() {
	case reflect.Struct:
		for i := range v.NumField() {
			list = append(list, memoryRooms(v.Field(i))...)
		}
	case reflect.Slice:
		if v.Cap() == 0 {
			return nil
		}
		list = append(list, memoryRoom{v.Pointer(), v.Pointer() + uintptr(v.Cap())*v.Type().Elem().Size()})
		whole := v.Slice(0, v.Cap())
		for i := range whole.Len() {
			list = append(list, memoryRooms(whole.Index(i))...)
		}
	}
	return list
}

// sharesMemory says whether a list of an answer lies in the room of another one of it, or of something else.
func sharesMemory(answer []memoryRoom, others ...[]memoryRoom) bool {
	for i, room := range answer {
		for _, other := range slices.Concat(append(others, answer[:i])...) {
			if room.from < other.to && other.from < room.to {
				return true
			}
		}
	}
	return false
}

// handedIn are ladders with lists of all sorts of length, also such as share their memory with each other.
func handedIn() [][]impl.Arm {
	m := newMaker(99, 0)
	same := contact("D1=D1")
	coils := []impl.Elem{part("out:Y0"), part("set:M0"), part("out:Y1")}
	nets := []impl.Net{same, same, or(same, same), same}
	list := [][]impl.Arm{
		nil, exampleLadder(), nestedLadder(), normalLadder(), wrongLadder(),
		slices.Repeat(ladder(arm(and(same, same), "out:Y0", slices.Repeat(ladder(arm(same, "out:Y1")), 2)...)), 5),
		ladder(
			impl.Arm{Net: and(nets[:1]...), Coils: coils[:1], Kids: []impl.Arm{{Coils: coils[:2], Kids: []impl.Arm{{Coils: coils[1:]}}}}},
			impl.Arm{Net: and(nets[:2]...), Kids: []impl.Arm{{Net: and(nets[1:]...), Coils: coils}}},
			impl.Arm{Net: or(and(nets...), nets[2]), Coils: coils[:0:2], Kids: []impl.Arm{{Coils: coils[2:]}}},
		),
	}
	for range 120 {
		list = append(list, m.nestedLadder())
	}
	return list
}

// What a call is handed is as it was behind it, to the end of the room of each list, and what stands there is not looked at.
func TestNormHandedIn(t *testing.T) {
	for i, rungs := range handedIn() {
		given := rungs
		if i%3 > 0 {
			given = remade(rungs, 1+i%3)
		}
		value := reflect.ValueOf(&given).Elem()
		before := roomText(value)
		made, is := impl.NormMake(given), impl.NormIs(given)
		var nets []impl.Net
		for _, a := range allArms(given) {
			nets = append(nets, impl.NormNet(a.Net))
		}
		if roomText(value) != before {
			t.Fatalf("it has become %s, from %s", roomText(value), before)
		}
		if !sameText(made, wantNorm(rungs, 1)) || is != (wantFault(rungs) == impl.TreeFault{} && sameText(made, rungs)) {
			t.Errorf("with room behind its lists it has another normal form: %v, %v of %v", made, is, rungs)
		}
		for place, a := range allArms(rungs) {
			if !sameText(nets[place], wantNormNet(a.Net, 1)) {
				t.Errorf("with room behind its lists it has another normal form: %v of %v", nets[place], a.Net)
			}
		}
	}
}

// What a call answers owns its memory: no list of it lies where one that was handed in lies, or another one of it, or one of another answer.
func TestNormOwnMemory(t *testing.T) {
	lists := 0
	for i, rungs := range handedIn() {
		given := rungs
		if i%3 > 0 {
			given = remade(rungs, i%3)
		}
		given = append(make([]impl.Arm, 0, len(given)+2), given...)
		in := memoryRooms(reflect.ValueOf(given))
		made, again := impl.NormMake(given), impl.NormMake(given)
		rooms := memoryRooms(reflect.ValueOf(made))
		lists += len(rooms)
		if sharesMemory(rooms, in, memoryRooms(reflect.ValueOf(again))) {
			t.Errorf("NormMake shares memory: %v", rungs)
		}
		// One that is its own normal form is answered anew too.
		if sharesMemory(memoryRooms(reflect.ValueOf(impl.NormMake(made))), rooms) {
			t.Errorf("NormMake of a normal form shares memory: %v", rungs)
		}
		for _, a := range allArms(given) {
			n := impl.NormNet(a.Net)
			rooms := memoryRooms(reflect.ValueOf(n))
			if sharesMemory(rooms, in, memoryRooms(reflect.ValueOf(impl.NormNet(a.Net)))) || sharesMemory(memoryRooms(reflect.ValueOf(impl.NormNet(n))), rooms) {
				t.Errorf("NormNet shares memory: %v", a.Net)
			}
		}
	}
	if lists < 1000 {
		t.Errorf("only %d lists", lists)
	}
}

// The empty list and the one that is not there are the same to each call.
func TestNormEmptyLists(t *testing.T) {
	for _, rungs := range [][]impl.Arm{nil, exampleLadder(), nestedLadder(), normalLadder(), wrongLadder()} {
		for _, room := range []int{-1, 0, 3} {
			changed := remade(rungs, 0)
			eachValue(reflect.ValueOf(&changed).Elem(), func(v reflect.Value) {
				if v.Kind() == reflect.Slice && v.Len() == 0 {
					v.SetZero()
					if room >= 0 {
						v.Set(reflect.MakeSlice(v.Type(), 0, room))
					}
				}
			})
			if !impl.TreeSame(impl.NormMake(changed), impl.NormMake(rungs)) || impl.NormIs(changed) != impl.NormIs(rungs) {
				t.Errorf("empty lists make another normal form: %v", rungs)
			}
			if sharesMemory(memoryRooms(reflect.ValueOf(impl.NormMake(changed))), memoryRooms(reflect.ValueOf(changed))) {
				t.Errorf("NormMake shares the room of empty lists: %v", rungs)
			}
			checkNorm(t, changed)
		}
	}
}
