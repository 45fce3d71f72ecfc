package tests

import (
	"math"
	"slices"
	"testing"

	"loop.example/g00490/impl"
)

// chainAsTold: ChainOk in the words of the document, each alarm against each behind it.
func chainAsTold(c impl.Chain) bool {
	for i, a := range c.L {
		if !alarmAsTold(a) || fingerAsTold(a.L) != c.Finger {
			return false
		}
		for _, behind := range c.L[i+1:] {
			if slices.Equal(a.L, behind.L) {
				return false
			}
		}
	}
	return len(c.L) >= 1
}

func sameChainAsTold(a, b impl.Chain) bool {
	return a.Finger == b.Finger && sameAlarms(a.L, b.L)
}

// inChainAsTold: InChain in the words of the document: from the last one on, so that the first one stays.
func inChainAsTold(c impl.Chain, l []impl.Label) int {
	place := -1
	for i := len(c.L) - 1; i >= 0; i-- {
		if slices.Equal(c.L[i].L, l) {
			place = i
		}
	}
	return place
}

// dropAsTold: what DropOver leaves and what it drops, in the words of the document.
func dropAsTold(c impl.Chain, now int) (impl.Chain, []impl.Alarm) {
	left, over := impl.Chain{Finger: c.Finger}, []impl.Alarm(nil)
	for _, a := range c.L {
		if a.End == now || a.End < now {
			over = append(over, keepAlarm(a))
		} else {
			left.L = append(left.L, keepAlarm(a))
		}
	}
	return left, over
}

// keepChain: a copy that shares nothing with the chain, to hold it against later.
func keepChain(c impl.Chain) impl.Chain {
	return impl.Chain{Finger: c.Finger, L: keepAlarms(c.L)}
}

// setsByFinger: unlike sets of labels, some 40 of each Finger.
func setsByFinger() map[int][][]impl.Label {
	met := map[int][][]impl.Label{}
	for _, val := range shortTexts("0123456789abcdefghijklmnopqrstuvwxyz", 2) {
		l := set("host", val)
		met[fingerAsTold(l)] = append(met[fingerAsTold(l)], l)
	}
	return met
}

// alikeSets: n sets of labels, unlike, but of one Finger, and a set of another one.
func alikeSets(n int) ([][]impl.Label, []impl.Label) {
	met := setsByFinger()
	// Not from 0 on, so that a Finger that is left out is seen.
	for finger := 1; finger < 32; finger++ {
		if len(met[finger]) >= n {
			return met[finger][:n], met[(finger+1)%32][0]
		}
	}
	panic("too few sets")
}

func of(l []impl.Label, start, end int, note string) impl.Alarm {
	return impl.Alarm{L: slices.Clone(l), Start: start, End: end, Note: note}
}

// chain: one of these alarms, of the Finger of the first one.
func chain(l ...impl.Alarm) impl.Chain {
	return impl.Chain{Finger: fingerAsTold(l[0].L), L: l}
}

// threeAlike: a chain of a first, a middle and a last one.
func threeAlike() impl.Chain {
	s, _ := alikeSets(3)
	return chain(of(s[0], 3, 8, "first"), of(s[1], 10, 20, "middle"), of(s[2], 5, 5, "last"))
}

// chainedAlarms: unlike ones of one Finger, each at several times, one of another Finger, and such that are not AlarmOk.
func chainedAlarms() []impl.Alarm {
	s, other := alikeSets(3)
	return []impl.Alarm{
		of(s[0], 3, 8, "one"),
		of(s[0], 8, 20, "two"),
		of(s[1], 9, 9, ""),
		of(s[2], 0, 99999, "three"),
		of(s[2], 8, 3, "\""),
		of(other, 3, 8, "other"),
		of(set("b", "", "a", ""), 3, 8, ""),
		of(nil, math.MinInt, math.MaxInt, ""),
	}
}

// someChains: every short one of these alarms, right and wrong, of the Finger of the first three sets and of others.
func someChains() []impl.Chain {
	finger := threeAlike().Finger
	var chains []impl.Chain
	for i, l := range allLists(chainedAlarms(), 3) {
		chains = append(chains, impl.Chain{Finger: finger, L: l})
		if i%7 == 0 {
			chains = append(chains, impl.Chain{Finger: []int{finger + 1, finger + 32, -1, 25, math.MinInt, math.MaxInt}[i%6], L: l})
		}
	}
	return append(chains, impl.Chain{}, impl.Chain{Finger: finger, L: []impl.Alarm{}})
}

// checkPut: that a is in what PutChain of both answers, in the place of the one of its labels, or last,
// that all others are as they were, and that what it says of that is so; whether it was new.
func checkPut(t *testing.T, c impl.Chain, a impl.Alarm) (impl.Chain, bool) {
	t.Helper()
	wasC, wasA := keepChain(c), keepAlarm(a)
	d, fresh := impl.PutChain(c, a)
	want, place := keepChain(c), inChainAsTold(c, a.L)
	if place >= 0 {
		want.L[place] = mergeAsTold(c.L[place], a)
	} else {
		place = len(c.L)
		want.L = append(want.L, keepAlarm(a))
	}
	if !sameChainAsTold(d, want) || fresh != (place == len(c.L)) {
		t.Fatalf("PutChain(%+v, %+v) = %+v, %v, not %+v", c, a, d, fresh, want)
	}
	if got := impl.InChain(d, a.L); got != place {
		t.Fatalf("%+v, put in %+v, is at %d, not at %d", a, c, got, place)
	}
	if right := chainAsTold(c) || len(c.L) == 0; right && alarmAsTold(a) && fingerAsTold(a.L) == c.Finger && !impl.ChainOk(d) {
		t.Fatalf("PutChain(%+v, %+v) = %+v is not right", c, a, d)
	}
	if !sameChainAsTold(c, wasC) || !sameAsTold(a, wasA) {
		t.Fatalf("%+v and %+v are now %+v and %+v", wasC, wasA, c, a)
	}
	return d, fresh
}

// Promise 6: what was put in a chain is in it.
func TestPromise6WhatWasPutIsInTheChain(t *testing.T) {
	alarms := append(chainedAlarms(), of(set("app", "x"), 4, 6, "x"), impl.Alarm{})
	for _, a := range chainedAlarms() {
		alarms = append(alarms, of(a.L, 1, 2, "early"), of(a.L, 20, 21, "late"), of(a.L, 5, math.MinInt, "\xff"))
	}
	met := map[bool]int{}
	for _, c := range someChains() {
		for _, a := range alarms {
			_, fresh := checkPut(t, c, a)
			met[fresh]++
		}
	}
	if met[false] < 1000 || met[true] < 1000 {
		t.Errorf("%d were there, %d were new", met[false], met[true])
	}
}

// A chain that grows one by one: each new one is last, and each that comes again is met in its place.
func TestPromise6OfALongChain(t *testing.T) {
	sets, _ := alikeSets(25)
	turned := slices.Clone(sets)
	slices.Reverse(turned)
	for _, order := range [][][]impl.Label{sets, turned} {
		c, fresh := impl.Chain{Finger: fingerAsTold(sets[0])}, false
		for i, l := range order {
			c, fresh = checkPut(t, c, of(l, 10*i, 10*i+5, "one"))
			if !fresh || len(c.L) != i+1 || impl.InChain(c, l) != i || !impl.ChainOk(c) {
				t.Fatalf("%q as number %d: %v, %+v", l, i, fresh, c)
			}
		}
		for i, l := range order {
			c, fresh = checkPut(t, c, of(l, 10*i+5, 10*i+7, "two"))
			if fresh || len(c.L) != len(order) || !impl.ChainOk(c) || !sameAsTold(c.L[i], of(l, 10*i, 10*i+7, "two")) {
				t.Fatalf("%q again: %v, %+v", l, fresh, c)
			}
		}
		for i, l := range order {
			if impl.InChain(c, l) != i {
				t.Errorf("%q is at %d, not at %d", l, impl.InChain(c, l), i)
			}
		}
	}
}

func TestPutChainWhereTheLabelsAreThere(t *testing.T) {
	s, _ := alikeSets(3)
	for _, c := range []struct {
		place int
		a     impl.Alarm
		want  impl.Alarm
	}{
		// The first one is 3-8: apart by one, just touched, across, around, ahead.
		{0, of(s[0], 9, 12, "new"), of(s[0], 9, 12, "new")},
		{0, of(s[0], 8, 12, "new"), of(s[0], 3, 12, "new")},
		{0, of(s[0], 5, 6, "new"), of(s[0], 3, 6, "new")},
		{0, of(s[0], 1, 12, "new"), of(s[0], 1, 12, "new")},
		{0, of(s[0], 1, 3, "new"), of(s[0], 1, 3, "new")},
		{0, of(s[0], 1, 2, "new"), of(s[0], 1, 2, "new")},
		// The middle one is 10-20.
		{1, of(s[1], 21, 30, ""), of(s[1], 21, 30, "")},
		{1, of(s[1], 20, 30, ""), of(s[1], 10, 30, "")},
		{1, of(s[1], 0, 9, ""), of(s[1], 0, 9, "")},
		// The last one is 5-5.
		{2, of(s[2], 6, 99999, "new"), of(s[2], 6, 99999, "new")},
		{2, of(s[2], 5, 99999, "new"), of(s[2], 5, 99999, "new")},
		{2, of(s[2], 0, 4, "new"), of(s[2], 0, 4, "new")},
		{2, of(s[2], 0, 5, "new"), of(s[2], 0, 5, "new")},
		// One that is not AlarmOk is merged by the same words.
		{0, of(s[0], 7, -1, "\""), of(s[0], 7, -1, "\"")},
		{2, of(s[2], math.MinInt, math.MaxInt, "\xff"), of(s[2], math.MinInt, math.MaxInt, "\xff")},
	} {
		d, fresh := checkPut(t, threeAlike(), c.a)
		if fresh || len(d.L) != 3 || !sameAsTold(d.L[c.place], c.want) {
			t.Errorf("%+v, put in: %v, %+v", c.a, fresh, d)
		}
		for i, a := range threeAlike().L {
			if i != c.place && (len(d.L) != 3 || !sameAsTold(d.L[i], a)) {
				t.Errorf("%+v, put in: %+v", c.a, d)
			}
		}
	}
}

func TestPutChainWhereTheLabelsAreNot(t *testing.T) {
	s, other := alikeSets(4)
	for _, c := range []impl.Chain{threeAlike(), {Finger: threeAlike().Finger}, {Finger: -3, L: []impl.Alarm{}}, {L: make([]impl.Alarm, 0, 4)}} {
		for _, a := range []impl.Alarm{
			of(s[3], 3, 8, "first"),
			// Of another Finger, not AlarmOk, and nearly those that are there: as told, each comes last.
			of(other, 3, 8, "other"),
			of(append(slices.Clone(s[0]), impl.Label{Name: "job"}), 3, 8, "first"),
			of(append(slices.Clone(s[2]), s[2]...), 5, 5, "last"),
			of(set("hosts", s[0][0].Val), 3, 8, "first"),
			of(set("host", s[2][0].Val+" "), 5, 5, "last"),
			of(nil, 3, 8, "first"),
			{},
		} {
			d, fresh := checkPut(t, c, a)
			if !fresh || len(d.L) != len(c.L)+1 || d.Finger != c.Finger || !sameAsTold(d.L[len(c.L)], a) {
				t.Errorf("%+v, put in %+v: %v, %+v", a, c, fresh, d)
			}
		}
	}
}

// Where labels stand twice in a chain, it is the first one that is merged.
func TestPutChainWhereTheLabelsStandTwice(t *testing.T) {
	s, _ := alikeSets(2)
	c := chain(of(s[1], 1, 2, ""), of(s[0], 3, 8, "one"), of(s[0], 7, 9, "two"), of(s[0], 0, 9, "three"))
	d, fresh := checkPut(t, c, of(s[0], 8, 10, "new"))
	if fresh || !sameAlarms(d.L, []impl.Alarm{c.L[0], of(s[0], 3, 10, "new"), c.L[2], c.L[3]}) {
		t.Errorf("%v, %+v", fresh, d)
	}
	none := impl.Chain{Finger: 25, L: []impl.Alarm{{Start: 3, End: 8}, {}}}
	d, fresh = checkPut(t, none, impl.Alarm{Start: 8, End: 9})
	if fresh || !sameAlarms(d.L, []impl.Alarm{{Start: 3, End: 9}, {}}) {
		t.Errorf("%v, %+v", fresh, d)
	}
}

func TestChainOk(t *testing.T) {
	s, other := alikeSets(4)
	a, b, c, d := of(s[0], 3, 8, "a"), of(s[1], 0, 99999, ""), of(s[2], 5, 5, "c"), of(s[3], 3, 8, "a")
	finger := impl.Finger(a.L)
	for _, x := range []struct {
		l    []impl.Alarm
		want bool
	}{
		{nil, false},
		{[]impl.Alarm{}, false},
		{[]impl.Alarm{a, b}[:0], false},
		{[]impl.Alarm{a}, true},
		{[]impl.Alarm{a, b}, true},
		{[]impl.Alarm{d, c, b, a}, true},
		// Not AlarmOk, at each place.
		{[]impl.Alarm{of(s[0], -1, 8, "")}, false},
		{[]impl.Alarm{of(s[0], 9, 8, ""), b, c}, false},
		{[]impl.Alarm{a, of(s[1], 3, 100000, ""), c}, false},
		{[]impl.Alarm{a, b, of(s[2], 3, 8, "\"")}, false},
		{[]impl.Alarm{a, b, {}}, false},
		{[]impl.Alarm{{}, a, b}, false},
		// Of another Finger, at each place.
		{[]impl.Alarm{of(other, 3, 8, "")}, false},
		{[]impl.Alarm{of(other, 3, 8, ""), b, c}, false},
		{[]impl.Alarm{a, of(other, 3, 8, ""), c}, false},
		{[]impl.Alarm{a, b, of(other, 3, 8, "")}, false},
		// Two of the SameSet, side by side and apart, as alike and as unlike as they may be else.
		{[]impl.Alarm{a, a}, false},
		{[]impl.Alarm{a, of(s[0], 20, 30, "other")}, false},
		{[]impl.Alarm{a, a, b, c}, false},
		{[]impl.Alarm{a, b, b, c}, false},
		{[]impl.Alarm{a, b, c, c}, false},
		{[]impl.Alarm{a, b, of(s[0], 20, 30, ""), c}, false},
		{[]impl.Alarm{a, b, c, of(s[1], 20, 30, "")}, false},
		{[]impl.Alarm{a, b, c, of(s[0], 20, 30, "")}, false},
		{[]impl.Alarm{a, b, c, d, a}, false},
	} {
		was := keepAlarms(x.l)
		if got := impl.ChainOk(impl.Chain{Finger: finger, L: x.l}); got != x.want {
			t.Errorf("ChainOk of %+v = %v", x.l, got)
		}
		for _, not := range []int{finger + 1, finger - 1, finger + 32, finger - 32, -finger - 1, math.MinInt, math.MaxInt} {
			// That of the other one may be among these.
			if c := (impl.Chain{Finger: not, L: x.l}); impl.ChainOk(c) != chainAsTold(c) {
				t.Errorf("ChainOk(%+v) = %v", c, impl.ChainOk(c))
			}
		}
		if !sameAlarms(x.l, was) {
			t.Errorf("%+v is now %+v", was, x.l)
		}
	}
}

// Labels that are not SetOk have a Finger, too, but no chain of it is right.
func TestChainOkOfWrongLabels(t *testing.T) {
	for _, x := range wrongLabels() {
		a := impl.Alarm{L: []impl.Label{x}, Start: 3, End: 8}
		if impl.ChainOk(impl.Chain{Finger: impl.Finger(a.L), L: []impl.Alarm{a}}) {
			t.Errorf("a chain of %.200v is right", a)
		}
	}
	for _, a := range []impl.Alarm{{}, {Start: 3, End: 8}, of(set("b", "", "a", ""), 3, 8, "")} {
		if impl.ChainOk(impl.Chain{Finger: impl.Finger(a.L), L: []impl.Alarm{a}}) {
			t.Errorf("a chain of %+v is right", a)
		}
	}
}

func TestChainOkOfAllShortChains(t *testing.T) {
	met := map[int]int{}
	for _, c := range someChains() {
		was := keepChain(c)
		if got := impl.ChainOk(c); got != chainAsTold(c) {
			t.Fatalf("ChainOk(%+v) = %v", c, got)
		}
		if chainAsTold(c) {
			met[len(c.L)]++
		}
		if !sameChainAsTold(c, was) {
			t.Fatalf("%+v is now %+v", was, c)
		}
	}
	if met[1] == 0 || met[2] == 0 || met[3] == 0 {
		t.Errorf("right ones of each length: %v", met)
	}
}

// A long chain is right as long as each place of it is, up to the last one.
func TestChainOkOfALongChain(t *testing.T) {
	sets, other := alikeSets(25)
	var l []impl.Alarm
	for _, s := range sets {
		l = append(l, of(s, 3, 8, ""))
	}
	if !impl.ChainOk(chain(l...)) {
		t.Fatalf("%+v is not right", l)
	}
	for i := range l {
		for _, wrong := range []impl.Alarm{of(sets[i], 8, 3, ""), of(other, 3, 8, ""), of(sets[(i+1)%25], 1, 2, "x"), {}} {
			c := impl.Chain{Finger: fingerAsTold(sets[0]), L: keepAlarms(l)}
			c.L[i] = wrong
			if impl.ChainOk(c) {
				t.Errorf("with %+v at %d it is right", wrong, i)
			}
		}
	}
}

func TestSameChain(t *testing.T) {
	c := threeAlike()
	if !impl.SameChain(c, c) || !impl.SameChain(c, threeAlike()) || !impl.SameChain(impl.Chain{}, impl.Chain{}) {
		t.Error("a chain is not the same as itself")
	}
	none, empty := impl.Chain{Finger: 7}, impl.Chain{Finger: 7, L: []impl.Alarm{}}
	if !impl.SameChain(none, empty) || !impl.SameChain(empty, none) || impl.SameChain(none, impl.Chain{Finger: 8}) {
		t.Error("nil is an empty list")
	}
	for name, change := range map[string]func(c *impl.Chain){
		"finger":             func(c *impl.Chain) { c.Finger++ },
		"finger below 0":     func(c *impl.Chain) { c.Finger = -1 },
		"finger of 32 more":  func(c *impl.Chain) { c.Finger += 32 },
		"start of the first": func(c *impl.Chain) { c.L[0].Start++ },
		"end of the first":   func(c *impl.Chain) { c.L[0].End-- },
		"note of the first":  func(c *impl.Chain) { c.L[0].Note = "First" },
		"name of the first":  func(c *impl.Chain) { c.L[0].L[0].Name = "hosts" },
		"val of the first":   func(c *impl.Chain) { c.L[0].L[0].Val += " " },
		"labels first":       func(c *impl.Chain) { c.L[0].L = append(c.L[0].L, c.L[0].L[0]) },
		"no labels first":    func(c *impl.Chain) { c.L[0].L = nil },
		"start of the last":  func(c *impl.Chain) { c.L[2].Start-- },
		"end of the last":    func(c *impl.Chain) { c.L[2].End++ },
		"note of the last":   func(c *impl.Chain) { c.L[2].Note = "" },
		"name of the last":   func(c *impl.Chain) { c.L[2].L[0].Name = "" },
		"val of the last":    func(c *impl.Chain) { c.L[2].L[0].Val = "" },
		"labels last":        func(c *impl.Chain) { c.L[2].L = append(c.L[2].L, impl.Label{}) },
		"no labels last":     func(c *impl.Chain) { c.L[2].L = nil },
		"middle":             func(c *impl.Chain) { c.L[1].Note = "" },
		"order":              func(c *impl.Chain) { c.L[1], c.L[2] = c.L[2], c.L[1] },
		"turned round":       func(c *impl.Chain) { slices.Reverse(c.L) },
		"without the last":   func(c *impl.Chain) { c.L = c.L[:2] },
		"without the first":  func(c *impl.Chain) { c.L = c.L[1:] },
		"last one twice":     func(c *impl.Chain) { c.L = append(c.L, c.L[2]) },
		"zero one at end":    func(c *impl.Chain) { c.L = append(c.L, impl.Alarm{}) },
		"none":               func(c *impl.Chain) { c.L = nil },
	} {
		d := threeAlike()
		change(&d)
		was := keepChain(d)
		if impl.SameChain(c, d) || impl.SameChain(d, c) {
			t.Errorf("%s: %+v and %+v are the same", name, c, d)
		}
		if !impl.SameChain(d, was) || !sameChainAsTold(d, was) || !sameChainAsTold(c, threeAlike()) {
			t.Errorf("%s: %+v is now %+v", name, was, d)
		}
	}
}

func TestSameChainOfAllShortChains(t *testing.T) {
	chains := someChains()
	for i, a := range chains {
		for j, b := range chains {
			if (i+j)%3 == 0 && impl.SameChain(a, b) != sameChainAsTold(a, b) {
				t.Fatalf("SameChain(%+v, %+v) = %v", a, b, impl.SameChain(a, b))
			}
		}
		if !impl.SameChain(a, keepChain(a)) {
			t.Fatalf("%+v is not the same as itself", a)
		}
	}
}

func TestInChain(t *testing.T) {
	s, other := alikeSets(4)
	c := threeAlike()
	twice := chain(of(s[1], 1, 2, ""), of(s[0], 1, 2, ""), of(s[0], 3, 4, ""), of(s[1], 3, 4, ""))
	for _, x := range []struct {
		c    impl.Chain
		l    []impl.Label
		want int
	}{
		{c, s[0], 0},
		{c, s[1], 1},
		{c, s[2], 2},
		// None has them: of one Finger with those that are there, of another, none at all, nearly theirs.
		{c, s[3], -1},
		{c, other, -1},
		{c, nil, -1},
		{c, []impl.Label{}, -1},
		{c, append(slices.Clone(s[2]), s[2]...), -1},
		{c, append(slices.Clone(s[0]), impl.Label{}), -1},
		{c, set("Host", s[0][0].Val), -1},
		{c, set("host", s[2][0].Val+"\x00"), -1},
		{chain(of(set("a", "1", "b", "2"), 1, 2, "")), set("b", "2", "a", "1"), -1},
		{chain(of(set("a", "1", "b", "2"), 1, 2, "")), set("a", "1"), -1},
		{chain(of(set("a", "1", "b", "2"), 1, 2, "")), set("a", "1", "b", "2"), 0},
		// They stand twice: the first place.
		{twice, s[0], 1},
		{twice, s[1], 0},
		{twice, s[2], -1},
		// A chain of none, and chains that are not right: of another Finger, of labels that are not SetOk, of none.
		{impl.Chain{}, nil, -1},
		{impl.Chain{}, s[0], -1},
		{impl.Chain{Finger: c.Finger, L: []impl.Alarm{}}, s[0], -1},
		{impl.Chain{Finger: -1, L: c.L}, s[2], 2},
		{chain(of(other, 1, 2, ""), of(s[0], 9, 2, "\"")), s[0], 1},
		{chain(of(other, 1, 2, ""), of(set("b", "", "a", ""), 1, 2, "")), set("b", "", "a", ""), 1},
		{chain(of(other, 1, 2, ""), of(nil, 1, 2, ""), impl.Alarm{}), nil, 1},
		{chain(of(other, 1, 2, ""), of([]impl.Label{}, 1, 2, "")), nil, 1},
		{chain(of(other, 1, 2, ""), of(nil, 1, 2, "")), []impl.Label{}, 1},
	} {
		wasC, was := keepChain(x.c), slices.Clone(x.l)
		if got := impl.InChain(x.c, x.l); got != x.want {
			t.Errorf("InChain(%+v, %q) = %d, not %d", x.c, x.l, got, x.want)
		}
		if !sameChainAsTold(x.c, wasC) || !slices.Equal(x.l, was) {
			t.Errorf("%+v, %q is now %+v, %q", wasC, was, x.c, x.l)
		}
	}
}

func TestInChainOfAllShortChains(t *testing.T) {
	met := map[int]int{}
	for _, c := range someChains() {
		for _, a := range append(chainedAlarms(), of(set("app", "x"), 1, 2, "")) {
			got := impl.InChain(c, a.L)
			if got != inChainAsTold(c, a.L) {
				t.Fatalf("InChain(%+v, %q) = %d", c, a.L, got)
			}
			met[got]++
		}
	}
	if len(met) != 4 {
		t.Errorf("places: %v", met)
	}
}

// checkDrop: that DropOver answers as told, and nothing that was there is lost or changed.
func checkDrop(t *testing.T, c impl.Chain, now int) (impl.Chain, []impl.Alarm) {
	t.Helper()
	was := keepChain(c)
	left, over := impl.DropOver(c, now)
	wantLeft, wantOver := dropAsTold(c, now)
	if !sameChainAsTold(left, wantLeft) || !sameAlarms(over, wantOver) {
		t.Fatalf("DropOver(%+v, %d) = %+v, %+v", c, now, left, over)
	}
	if chainAsTold(c) && len(left.L) > 0 && !impl.ChainOk(left) {
		t.Fatalf("DropOver(%+v, %d) = %+v is not right", c, now, left)
	}
	if !sameChainAsTold(c, was) {
		t.Fatalf("%+v is now %+v", was, c)
	}
	return left, over
}

func TestDropOver(t *testing.T) {
	s, _ := alikeSets(4)
	ending := func(ends ...int) impl.Chain {
		c := impl.Chain{Finger: fingerAsTold(s[0])}
		for i, end := range ends {
			c.L = append(c.L, of(s[i], 0, end, impl.NumText(i)))
		}
		return c
	}
	for _, x := range []struct {
		c    impl.Chain
		now  int
		over []int
	}{
		{ending(), 5, nil},
		{impl.Chain{Finger: 9, L: []impl.Alarm{}}, 5, nil},
		// One alone, around its End.
		{ending(8), 7, nil},
		{ending(8), 8, []int{0}},
		{ending(8), 9, []int{0}},
		{ending(0), -1, nil},
		{ending(0), 0, []int{0}},
		{ending(99999), 99998, nil},
		{ending(99999), 99999, []int{0}},
		// None, the first, a middle one, the last one, each around its End.
		{ending(20, 30, 40), 19, nil},
		{ending(8, 30, 40), 7, nil},
		{ending(8, 30, 40), 8, []int{0}},
		{ending(8, 30, 40), 9, []int{0}},
		{ending(30, 8, 40), 7, nil},
		{ending(30, 8, 40), 8, []int{1}},
		{ending(30, 8, 40), 9, []int{1}},
		{ending(30, 40, 8), 7, nil},
		{ending(30, 40, 8), 8, []int{2}},
		{ending(30, 40, 8), 9, []int{2}},
		// Several, in the order in which they stood, whatever their Ends are.
		{ending(9, 5, 30, 7), 9, []int{0, 1, 3}},
		{ending(9, 5, 30, 7), 7, []int{1, 3}},
		{ending(30, 9, 5, 7), 9, []int{1, 2, 3}},
		{ending(9, 7, 5, 30), 9, []int{0, 1, 2}},
		// All of them.
		{ending(9, 5, 7), 9, []int{0, 1, 2}},
		{ending(9, 5, 7), 8, []int{1, 2}},
		{ending(8, 8, 8, 8), 8, []int{0, 1, 2, 3}},
		{ending(8, 8, 8, 8), 7, nil},
		{ending(8, 9, 8, 9), math.MinInt, nil},
		{ending(8, 9, 8, 9), math.MaxInt, []int{0, 1, 2, 3}},
	} {
		left, over := checkDrop(t, x.c, x.now)
		if left.Finger != x.c.Finger || len(over) != len(x.over) || len(left.L) != len(x.c.L)-len(x.over) {
			t.Fatalf("DropOver(%+v, %d) = %+v, %+v", x.c, x.now, left, over)
		}
		for i, place := range x.over {
			if !sameAsTold(over[i], x.c.L[place]) || impl.InChain(left, x.c.L[place].L) != -1 {
				t.Errorf("DropOver(%+v, %d) = %+v, %+v", x.c, x.now, left, over)
			}
		}
	}
}

func TestDropOverOfAllShortChains(t *testing.T) {
	met := map[int]int{}
	for _, c := range someChains() {
		for _, now := range []int{math.MinInt, -1, 2, 3, 7, 8, 9, 19, 20, 21, 99998, 99999, math.MaxInt} {
			_, over := checkDrop(t, c, now)
			met[len(over)]++
		}
	}
	for n := range 4 {
		if met[n] == 0 {
			t.Errorf("%d are never over", n)
		}
	}
}

func TestDropOverOfALongChain(t *testing.T) {
	var c impl.Chain
	for i := range 100000 {
		c.L = append(c.L, impl.Alarm{End: i})
	}
	left, over := checkDrop(t, c, 60000)
	if len(left.L) != 39999 || len(over) != 60001 {
		t.Errorf("%d are left, %d are over", len(left.L), len(over))
	}
	if d, fresh := checkPut(t, c, of(set("app", "x"), 1, 2, "")); !fresh || len(d.L) != 100001 {
		t.Errorf("%d then", len(d.L))
	}
}

// roomy: a chain whose list, and the labels of each alarm, are cut out of greater ones, which are given, too.
// The first two alarms' labels lie in one room.
func roomy() (impl.Chain, []impl.Alarm, [][]impl.Label) {
	s, other := alikeSets(3)
	rooms := [][]impl.Label{
		{s[0][0], {Name: "zone", Val: "1"}, {Name: "behind"}},
		{s[2][0], {Name: "behind"}},
		{other[0], {Name: "behind"}},
	}
	room := []impl.Alarm{
		{L: rooms[0][:1], Start: 3, End: 8, Note: "one"},
		{L: rooms[0][:2], Start: 5, End: 20, Note: "two"},
		{L: rooms[1][:1], Start: 8, End: 8, Note: "three"},
		{L: rooms[2][:0], Start: 9, End: 9, Note: "none"},
		{L: rooms[2][:1], Start: 1, End: 2, Note: "behind"},
	}
	return impl.Chain{Finger: fingerAsTold(s[0]), L: room[:4]}, room, rooms
}

// markAll: writes a mark of its own all over each list, its spare room among it, and tells whether all marks stay.
func markAll(lists ...[]impl.Alarm) bool {
	var alarms [][]impl.Alarm
	var labels [][]impl.Label
	for _, l := range lists {
		for _, a := range l {
			labels = append(labels, a.L[:cap(a.L)])
		}
		alarms = append(alarms, l[:cap(l)])
	}
	for mark, l := range alarms {
		for i := range l {
			l[i] = impl.Alarm{Start: mark, End: i, Note: "mark"}
		}
	}
	for mark, l := range labels {
		for i := range l {
			l[i] = impl.Label{Name: impl.NumText(mark), Val: impl.NumText(i)}
		}
	}
	for mark, l := range alarms {
		for i, a := range l {
			if !sameAsTold(a, impl.Alarm{Start: mark, End: i, Note: "mark"}) {
				return false
			}
		}
	}
	for mark, l := range labels {
		for i, x := range l {
			if x != (impl.Label{Name: impl.NumText(mark), Val: impl.NumText(i)}) {
				return false
			}
		}
	}
	return true
}

// checkRoom: that the roomy chain is as it was, with all that lies behind it.
func checkRoom(t *testing.T, what string, room []impl.Alarm, rooms [][]impl.Label) {
	t.Helper()
	if _, want, wantRooms := roomy(); !sameAlarms(room, want) || !sameSets(rooms, wantRooms) {
		t.Errorf("%s: the room is now %+v, %q", what, room, rooms)
	}
}

// What PutChain answers shares no memory with the chain or the alarm, nor one of its lists with another.
func TestPutChainMakesNewMemory(t *testing.T) {
	_, another := alikeSets(1)
	for from := range 5 {
		for to := from; to < 5; to++ {
			c, room, rooms := roomy()
			c.L = c.L[from:to]
			own := append(slices.Clone(another), impl.Label{Name: "behind"})
			for _, a := range append(slices.Clone(room), impl.Alarm{L: own[:1], Start: 2, End: 4}, impl.Alarm{L: own[:0]}) {
				d, _ := checkPut(t, c, a)
				checkRoom(t, "put", room, rooms)
				if !markAll(d.L) {
					t.Errorf("%+v, put in %+v: lists of the answer share memory", a, c)
				}
				checkRoom(t, "marked", room, rooms)
				if own[0] != another[0] || own[1].Name != "behind" {
					t.Errorf("the alarm's labels are now %q", own)
				}
			}
		}
	}
}

// Nor does what DropOver answers, what is left and what is over among it.
func TestDropOverMakesNewMemory(t *testing.T) {
	for from := range 5 {
		for to := from; to < 5; to++ {
			for _, now := range []int{0, 7, 8, 9, 20} {
				c, room, rooms := roomy()
				c.L = c.L[from:to]
				left, over := checkDrop(t, c, now)
				checkRoom(t, "dropped", room, rooms)
				if !markAll(left.L, over) {
					t.Errorf("DropOver(%+v, %d): lists of the answer share memory", c, now)
				}
				checkRoom(t, "marked", room, rooms)
			}
		}
	}
}

// What lies behind the lists is not read, either.
func TestChainsAreReadToTheirLengthAlone(t *testing.T) {
	s, other := alikeSets(3)
	room := []impl.Alarm{of(s[0], 3, 8, "one"), of(s[1], 3, 8, "two"), of(s[0], 3, 8, "one"), of(other, 3, 8, "")}
	c := impl.Chain{Finger: fingerAsTold(s[0]), L: room[:2]}
	if !impl.ChainOk(c) || impl.InChain(c, other) != -1 || !impl.SameChain(c, chain(room[0], room[1])) {
		t.Error("what lies behind the chain is read")
	}
	if d, fresh := impl.PutChain(c, of(s[2], 1, 2, "")); !fresh || len(d.L) != 3 {
		t.Errorf("%v, %+v", fresh, d)
	}
	if left, over := impl.DropOver(c, 8); len(left.L) != 0 || len(over) != 2 {
		t.Errorf("%+v, %+v", left, over)
	}
	if !sameAlarms(room, []impl.Alarm{of(s[0], 3, 8, "one"), of(s[1], 3, 8, "two"), of(s[0], 3, 8, "one"), of(other, 3, 8, "")}) {
		t.Errorf("the room is now %+v", room)
	}
}
