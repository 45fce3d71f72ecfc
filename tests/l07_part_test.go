package tests

import (
	"math"
	"slices"
	"testing"

	"loop.example/g00490/impl"
)

// partOfAsTold: PartOf in the words of the document.
func partOfAsTold(finger, n int) int {
	if n < 1 || finger < 0 {
		return 0
	}
	return finger - finger/n*n
}

// partAsTold: PartOk in the words of the document, each chain against each behind it.
func partAsTold(p impl.Part, i, n int) bool {
	for j, c := range p.L {
		if !chainAsTold(c) || partOfAsTold(c.Finger, n) != i {
			return false
		}
		for _, behind := range p.L[j+1:] {
			if behind.Finger <= c.Finger {
				return false
			}
		}
	}
	return p.Ver >= 0 && slices.Contains([]int{-1, 0, 1, 2, 3, 4}, p.Held)
}

func sameChainsAsTold(a, b []impl.Chain) bool {
	return slices.EqualFunc(a, b, sameChainAsTold)
}

func samePartAsTold(a, b impl.Part) bool {
	return a.Held == b.Held && a.Ver == b.Ver && sameChainsAsTold(a.L, b.L)
}

// firstAsTold: the place of the first chain of this Finger (how many there are: none).
func firstAsTold(p impl.Part, finger int) int {
	for i, c := range p.L {
		if c.Finger == finger {
			return i
		}
	}
	return len(p.L)
}

// findAsTold: FindIn in the words of the document.
func findAsTold(p impl.Part, l []impl.Label) (impl.Alarm, bool) {
	if i := firstAsTold(p, fingerAsTold(l)); i < len(p.L) {
		if place := inChainAsTold(p.L[i], l); place >= 0 {
			return p.L[i].L[place], true
		}
	}
	return impl.Alarm{}, false
}

// putAsTold: PutIn in the words of the document.
func putAsTold(p impl.Part, a impl.Alarm) (impl.Part, bool) {
	p, finger := keepPart(p), fingerAsTold(a.L)
	p.Ver++
	if i := firstAsTold(p, finger); i < len(p.L) {
		if place := inChainAsTold(p.L[i], a.L); place >= 0 {
			p.L[i].L[place] = mergeAsTold(p.L[i].L[place], a)
			return p, false
		}
		p.L[i].L = append(p.L[i].L, keepAlarm(a))
		return p, true
	}
	ahead := 0
	for ahead < len(p.L) && p.L[ahead].Finger <= finger {
		ahead++
	}
	p.L = slices.Insert(p.L, ahead, impl.Chain{Finger: finger, L: []impl.Alarm{keepAlarm(a)}})
	return p, true
}

// sweepAsTold: SweepIn in the words of the document.
func sweepAsTold(p impl.Part, now int) (impl.Part, []impl.Alarm) {
	q, gone := impl.Part{Held: p.Held, Ver: p.Ver}, []impl.Alarm(nil)
	for _, c := range p.L {
		left, over := dropAsTold(c, now)
		if len(left.L) != 0 {
			q.L = append(q.L, left)
		}
		gone = append(gone, over...)
	}
	if len(gone) != 0 {
		q.Ver = p.Ver + 1
	}
	return q, gone
}

// keepPart: a copy that shares nothing with the part, to hold it against later.
func keepPart(p impl.Part) impl.Part {
	kept := impl.Part{Held: p.Held, Ver: p.Ver}
	for _, c := range p.L {
		kept.L = append(kept.L, keepChain(c))
	}
	return kept
}

// alarmsAsTold: AlarmsIn in the words of the document.
func alarmsAsTold(p impl.Part) []impl.Alarm {
	var l []impl.Alarm
	for _, c := range p.L {
		l = append(l, keepAlarms(c.L)...)
	}
	return l
}

// ending: a part of chains of the Fingers 4, 10, 16 and so on (each is of the part 1 of 3),
// of alarms that end then: ending({8, 9}, {30}) has two of the Finger 4, and one of 10.
func ending(ends ...[]int) impl.Part {
	sets := setsByFinger()
	p := impl.Part{Held: 2, Ver: 7}
	for i, l := range ends {
		c := impl.Chain{Finger: 4 + 6*i}
		for j, end := range l {
			c.L = append(c.L, of(sets[c.Finger][j], 0, end, impl.NumText(i)+"/"+impl.NumText(j)))
		}
		p.L = append(p.L, c)
	}
	return p
}

// threeChains: a right part of a first, a middle and a last chain, each of a first, a middle and a last alarm.
func threeChains() impl.Part {
	return ending([]int{8, 30, 12}, []int{20, 9, 40}, []int{15, 50, 8})
}

// partedChains: right ones of several Fingers, two of them of one, one without alarms,
// one of alarms of another Finger, and such of alarms and of a Finger that cannot be.
func partedChains() []impl.Chain {
	sets := setsByFinger()
	return []impl.Chain{
		{Finger: 4, L: []impl.Alarm{of(sets[4][0], 3, 8, "one"), of(sets[4][1], 3, 20, "two")}},
		{Finger: 4, L: []impl.Alarm{of(sets[4][2], 9, 9, ""), of(sets[4][1], 0, 8, "again")}},
		{Finger: 10, L: []impl.Alarm{of(sets[10][0], 9, 99999, "three")}},
		{Finger: 31, L: []impl.Alarm{of(sets[31][0], 0, 8, "four"), of(sets[31][1], 5, 7, "")}},
		{Finger: 10},
		{Finger: 10, L: []impl.Alarm{of(sets[4][0], 8, 3, "\""), of(sets[10][1], 1, 9, "five")}},
		{Finger: fingerAsTold(set("b", "", "a", "")), L: []impl.Alarm{of(set("b", "", "a", ""), 3, 8, "")}},
		{Finger: -1, L: []impl.Alarm{of(nil, math.MinInt, math.MaxInt, ""), {}}},
	}
}

// someParts: every short one of these chains, right and wrong, held by this one and that.
func someParts() []impl.Part {
	var parts []impl.Part
	for i, l := range allLists(partedChains(), 3) {
		parts = append(parts, impl.Part{Held: i%8 - 2, Ver: i%5 - 1, L: l})
	}
	return append(parts, impl.Part{L: []impl.Chain{}}, impl.Part{Held: math.MinInt, Ver: math.MinInt}, impl.Part{Held: math.MaxInt, Ver: math.MaxInt, L: partedChains()})
}

func someNows() []int {
	return []int{math.MinInt, -1, 0, 6, 7, 8, 9, 19, 20, 21, 99998, 99999, math.MaxInt}
}

// checkSweep: that SweepIn answers as told; that nothing of what is left is over, and all that was not is left, in order;
// that what is handed out is all the rest; and that no chain is empty.
func checkSweep(t *testing.T, p impl.Part, now int) (impl.Part, []impl.Alarm) {
	t.Helper()
	was := keepPart(p)
	q, gone := impl.SweepIn(p, now)
	wantQ, wantGone := sweepAsTold(p, now)
	if !samePartAsTold(q, wantQ) || !sameAlarms(gone, wantGone) {
		t.Fatalf("SweepIn(%+v, %d) = %+v, %+v, not %+v, %+v", p, now, q, gone, wantQ, wantGone)
	}
	var stay, over []impl.Alarm
	for _, a := range alarmsAsTold(p) {
		if impl.Over(a, now) {
			over = append(over, a)
		} else {
			stay = append(stay, a)
		}
	}
	if !sameAlarms(alarmsAsTold(q), stay) || !sameAlarms(gone, over) {
		t.Fatalf("SweepIn(%+v, %d) = %+v, %+v", p, now, q, gone)
	}
	for _, c := range q.L {
		if len(c.L) == 0 {
			t.Fatalf("SweepIn(%+v, %d) = %+v has an empty chain", p, now, q)
		}
	}
	for n := range 4 {
		for i := range n + 1 {
			if partAsTold(p, i, n) && !impl.PartOk(q, i, n) {
				t.Fatalf("SweepIn(%+v, %d) = %+v is not right", p, now, q)
			}
		}
	}
	if !samePartAsTold(p, was) {
		t.Fatalf("%+v is now %+v", was, p)
	}
	return q, gone
}

// Promise 7: what is over is swept away, and nothing else.
func TestPromise7WhatIsOverIsSweptAway(t *testing.T) {
	met := map[[2]int]int{}
	for _, p := range someParts() {
		for _, now := range someNows() {
			q, gone := checkSweep(t, p, now)
			met[[2]int{len(q.L), len(gone)}]++
			if again, none := checkSweep(t, q, now); len(none) != 0 || !impl.SamePart(again, q) {
				t.Fatalf("swept again at %d, %+v is %+v, and %+v is gone", now, q, again, none)
			}
		}
	}
	for left := range 4 {
		for gone := range 4 {
			if met[[2]int{left, gone}] == 0 {
				t.Errorf("never are %d chains left and %d gone", left, gone)
			}
		}
	}
}

// A part of many chains that is swept time by time: what is over is not found any more, all else is as it was.
func TestPromise7TimeByTime(t *testing.T) {
	p := impl.Part{Held: -1}
	var all []impl.Alarm
	sets := setsByFinger()
	for finger := range 32 {
		for i, s := range sets[finger][:12] {
			all = append(all, of(s, 0, (finger*7+i*13)%50, ""))
		}
	}
	for _, a := range all {
		p, _ = impl.PutIn(p, a)
	}
	if !impl.PartOk(p, 0, 1) || len(p.L) != 32 || p.Ver != len(all) || len(impl.AlarmsIn(p)) != len(all) {
		t.Fatalf("%d were put: %+v", len(all), p)
	}
	ver := p.Ver
	for now := range 52 {
		q, gone := checkSweep(t, p, now)
		if len(gone) > 0 {
			ver++
		}
		for _, a := range all {
			got, there := impl.FindIn(q, a.L)
			if there != (a.End > now) || there && !sameAsTold(got, a) {
				t.Fatalf("%+v at %d: %+v, %v", a, now, got, there)
			}
		}
		if q.Ver != ver || !impl.PartOk(q, 0, 1) {
			t.Fatalf("swept at %d: %+v", now, q)
		}
		p = q
	}
	if len(p.L) != 0 || p.Held != -1 {
		t.Errorf("at last %+v", p)
	}
}

func TestSweepIn(t *testing.T) {
	none := []int(nil)
	for _, x := range []struct {
		p    impl.Part
		now  int
		left [][]int
		gone []string
	}{
		// No chain at all, and none that is over.
		{ending(), 5, nil, nil},
		{ending([]int{8}), 7, [][]int{{8}}, nil},
		{ending([]int{8, 9}, []int{20}, []int{8, 30}), 7, [][]int{{8, 9}, {20}, {8, 30}}, nil},
		{ending([]int{8, 9}, []int{20}, []int{8, 30}), math.MinInt, [][]int{{8, 9}, {20}, {8, 30}}, nil},
		// All of one chain, and just that, around its End: the only, the first, a middle, the last one.
		{ending([]int{8}), 8, [][]int{nil}, []string{"0/0"}},
		{ending([]int{8}), 9, [][]int{nil}, []string{"0/0"}},
		{ending([]int{8, 5}, []int{20}, []int{30}), 7, [][]int{{8}, {20}, {30}}, []string{"0/1"}},
		{ending([]int{8, 5}, []int{20}, []int{30}), 8, [][]int{nil, {20}, {30}}, []string{"0/0", "0/1"}},
		{ending([]int{8, 5}, []int{20}, []int{30}), 9, [][]int{nil, {20}, {30}}, []string{"0/0", "0/1"}},
		{ending([]int{20}, []int{8}, []int{30}), 7, [][]int{{20}, {8}, {30}}, nil},
		{ending([]int{20}, []int{8}, []int{30}), 8, [][]int{{20}, nil, {30}}, []string{"1/0"}},
		{ending([]int{20}, []int{8}, []int{30}), 9, [][]int{{20}, nil, {30}}, []string{"1/0"}},
		{ending([]int{20}, []int{30}, []int{5, 8}), 7, [][]int{{20}, {30}, {8}}, []string{"2/0"}},
		{ending([]int{20}, []int{30}, []int{5, 8}), 8, [][]int{{20}, {30}, nil}, []string{"2/0", "2/1"}},
		{ending([]int{20}, []int{30}, []int{5, 8}), 9, [][]int{{20}, {30}, nil}, []string{"2/0", "2/1"}},
		// Some of a chain, of several, and of some chains all, of others none.
		{ending([]int{8, 30, 8}), 8, [][]int{{30}}, []string{"0/0", "0/2"}},
		{ending([]int{30, 8, 40}, []int{50}), 8, [][]int{{30, 40}, {50}}, []string{"0/1"}},
		{ending([]int{9, 30}, []int{31, 8}, []int{7, 6, 32}), 9, [][]int{{30}, {31}, {32}}, []string{"0/0", "1/1", "2/0", "2/1"}},
		{ending([]int{9}, []int{31, 8}, []int{40}, []int{7, 6}), 9, [][]int{nil, {31}, {40}, nil}, []string{"0/0", "1/1", "3/0", "3/1"}},
		{ending([]int{9}, []int{8}, []int{40}), 9, [][]int{nil, nil, {40}}, []string{"0/0", "1/0"}},
		{ending([]int{40}, []int{9}, []int{8}), 9, [][]int{{40}, nil, nil}, []string{"1/0", "2/0"}},
		// All of them.
		{ending([]int{9, 1}, []int{8}, []int{5, 7}), 9, [][]int{nil, nil, nil}, []string{"0/0", "0/1", "1/0", "2/0", "2/1"}},
		{ending([]int{9, 1}, []int{8}, []int{5, 7}), math.MaxInt, [][]int{nil, nil, nil}, []string{"0/0", "0/1", "1/0", "2/0", "2/1"}},
		{ending([]int{99999}, []int{99999}), 99998, [][]int{{99999}, {99999}}, nil},
		{ending([]int{99999}, []int{99999}), 99999, [][]int{nil, nil}, []string{"0/0", "1/0"}},
		// A chain that was empty is gone, too, at each place; but nothing was dropped with it.
		{ending(none), 9, [][]int{nil}, nil},
		{ending(none, none), 9, [][]int{nil, nil}, nil},
		{ending(none, []int{30}, []int{40}), 9, [][]int{nil, {30}, {40}}, nil},
		{ending([]int{30}, none, []int{40}), 9, [][]int{{30}, nil, {40}}, nil},
		{ending([]int{30}, []int{40}, none), 9, [][]int{{30}, {40}, nil}, nil},
		{ending([]int{9}, none, []int{40}), 9, [][]int{nil, nil, {40}}, []string{"0/0"}},
		{ending([]int{}, []int{}, []int{40, 9}), 9, [][]int{nil, nil, {40}}, []string{"2/1"}},
	} {
		q, gone := checkSweep(t, x.p, x.now)
		ver := 7
		if len(x.gone) > 0 {
			ver = 8
		}
		if q.Held != 2 || q.Ver != ver || len(gone) != len(x.gone) {
			t.Fatalf("SweepIn(%+v, %d) = %+v, %+v", x.p, x.now, q, gone)
		}
		for i, note := range x.gone {
			if gone[i].Note != note {
				t.Errorf("SweepIn(%+v, %d): %+v is gone, not %q", x.p, x.now, gone, x.gone)
			}
		}
		at := 0
		for i, ends := range x.left {
			if len(ends) == 0 {
				continue
			}
			if at >= len(q.L) || q.L[at].Finger != 4+6*i || len(q.L[at].L) != len(ends) {
				t.Fatalf("SweepIn(%+v, %d) = %+v", x.p, x.now, q)
			}
			for j, end := range ends {
				if q.L[at].L[j].End != end {
					t.Errorf("SweepIn(%+v, %d) = %+v", x.p, x.now, q)
				}
			}
			at++
		}
		if at != len(q.L) {
			t.Errorf("SweepIn(%+v, %d) = %+v", x.p, x.now, q)
		}
	}
}

// Held stays, whoever it is, and Ver is one more just where something was dropped, whatever it was.
func TestHeldAndVerOfWhatIsSweptAndPut(t *testing.T) {
	for _, held := range []int{math.MinInt, -2, -1, 0, 1, 4, 5, math.MaxInt} {
		for _, ver := range []int{math.MinInt, -2, -1, 0, 1, 99999, math.MaxInt - 1} {
			p := ending([]int{8, 30}, nil, []int{20})
			p.Held, p.Ver = held, ver
			for now, want := range map[int]int{7: ver, 8: ver + 1, 30: ver + 1} {
				if q, _ := impl.SweepIn(p, now); q.Held != held || q.Ver != want {
					t.Errorf("of %d, %d, swept at %d: %d, %d", held, ver, now, q.Held, q.Ver)
				}
			}
			for _, a := range []impl.Alarm{p.L[0].L[1], alarm(0, 1, "", "app", "new"), {}} {
				if q, _ := impl.PutIn(p, a); q.Held != held || q.Ver != ver+1 {
					t.Errorf("of %d, %d, %+v put in: %d, %d", held, ver, a, q.Held, q.Ver)
				}
			}
		}
	}
}

// Two chains of one Finger, and chains out of order, are swept each for itself, where they stand.
func TestSweepInOfPartsThatAreNotRight(t *testing.T) {
	p := ending([]int{8, 30}, []int{9, 40}, []int{50, 7})
	for i, finger := range []int{10, 4, 10} {
		p.L[i].Finger = finger
	}
	q, gone := checkSweep(t, p, 9)
	if len(q.L) != 3 || q.L[0].Finger != 10 || q.L[1].Finger != 4 || q.L[2].Finger != 10 || len(gone) != 3 {
		t.Errorf("%+v, %+v", q, gone)
	}
	q, gone = checkSweep(t, p, 30)
	if len(q.L) != 2 || q.L[0].Finger != 4 || q.L[1].Finger != 10 || q.L[1].L[0].End != 50 || len(gone) != 4 {
		t.Errorf("%+v, %+v", q, gone)
	}
}

func TestPartOk(t *testing.T) {
	of1 := func(change func(p *impl.Part)) impl.Part {
		p := threeChains()
		change(&p)
		return p
	}
	sets := setsByFinger()
	for name, x := range map[string]struct {
		p    impl.Part
		want bool
	}{
		"as it is":        {threeChains(), true},
		"held by -2":      {of1(func(p *impl.Part) { p.Held = -2 }), false},
		"held by nobody":  {of1(func(p *impl.Part) { p.Held = -1 }), true},
		"held by 0":       {of1(func(p *impl.Part) { p.Held = 0 }), true},
		"held by 3":       {of1(func(p *impl.Part) { p.Held = 3 }), true},
		"held by 4":       {of1(func(p *impl.Part) { p.Held = 4 }), true},
		"held by 5":       {of1(func(p *impl.Part) { p.Held = 5 }), false},
		"held by least":   {of1(func(p *impl.Part) { p.Held = math.MinInt }), false},
		"held by most":    {of1(func(p *impl.Part) { p.Held = math.MaxInt }), false},
		"ver -1":          {of1(func(p *impl.Part) { p.Ver = -1 }), false},
		"ver least":       {of1(func(p *impl.Part) { p.Ver = math.MinInt }), false},
		"ver 0":           {of1(func(p *impl.Part) { p.Ver = 0 }), true},
		"ver most":        {of1(func(p *impl.Part) { p.Ver = math.MaxInt }), true},
		"nil":             {impl.Part{Held: -1}, true},
		"zero":            {impl.Part{}, true},
		"empty":           {impl.Part{Held: 4, Ver: 9, L: []impl.Chain{}}, true},
		"nil, held by 5":  {impl.Part{Held: 5}, false},
		"nil, held by -2": {impl.Part{Held: -2}, false},
		"nil, ver -1":     {impl.Part{Ver: -1}, false},
		"first alone":     {of1(func(p *impl.Part) { p.L = p.L[:1] }), true},
		"last alone":      {of1(func(p *impl.Part) { p.L = p.L[2:] }), true},
		"first two":       {of1(func(p *impl.Part) { p.L[0], p.L[1] = p.L[1], p.L[0] }), false},
		"last two":        {of1(func(p *impl.Part) { p.L[1], p.L[2] = p.L[2], p.L[1] }), false},
		"turned round":    {of1(func(p *impl.Part) { slices.Reverse(p.L) }), false},
		"first twice":     {of1(func(p *impl.Part) { p.L = slices.Insert(p.L, 0, p.L[0]) }), false},
		"last twice":      {of1(func(p *impl.Part) { p.L = append(p.L, p.L[2]) }), false},
		"first at end":    {of1(func(p *impl.Part) { p.L = append(p.L, p.L[0]) }), false},
		"one finger":      {of1(func(p *impl.Part) { p.L[1] = impl.Chain{Finger: 4, L: []impl.Alarm{of(sets[4][9], 1, 2, "")}} }), false},
		"no alarms first": {of1(func(p *impl.Part) { p.L[0].L = nil }), false},
		"none in middle":  {of1(func(p *impl.Part) { p.L[1].L = []impl.Alarm{} }), false},
		"no alarms last":  {of1(func(p *impl.Part) { p.L[2].L = p.L[2].L[:0] }), false},
		"wrong alarm":     {of1(func(p *impl.Part) { p.L[0].L[0].Start = 9 }), false},
		"wrong last one":  {of1(func(p *impl.Part) { p.L[2].L[2].End = 100000 }), false},
		"wrong in middle": {of1(func(p *impl.Part) { p.L[1].L[1].Note = "\"" }), false},
		"other labels":    {of1(func(p *impl.Part) { p.L[0].L[0].L = sets[10][5] }), false},
		"other at end":    {of1(func(p *impl.Part) { p.L[2].L[2].L = sets[4][5] }), false},
		"labels twice":    {of1(func(p *impl.Part) { p.L[0].L[1].L = p.L[0].L[0].L }), false},
		"twice at end":    {of1(func(p *impl.Part) { p.L[2].L[2].L = p.L[2].L[1].L }), false},
		"finger of first": {of1(func(p *impl.Part) { p.L[0].Finger = 1 }), false},
		"finger of last":  {of1(func(p *impl.Part) { p.L[2].Finger = 19 }), false},
		"finger below 0":  {of1(func(p *impl.Part) { p.L[0].Finger = -2 }), false},
	} {
		was := keepPart(x.p)
		if got := impl.PartOk(x.p, 1, 3); got != x.want {
			t.Errorf("%s: %v", name, got)
		}
		if x.want != partAsTold(x.p, 1, 3) || !samePartAsTold(x.p, was) {
			t.Errorf("%s: %+v, of %+v", name, x.p, was)
		}
	}
}

// Of which part it is, PartOf says alone, also where it is of none, or there are none.
func TestPartOkOfEachPart(t *testing.T) {
	sets := setsByFinger()
	one := func(fingers ...int) impl.Part {
		p := impl.Part{Held: -1}
		for _, finger := range fingers {
			p.L = append(p.L, impl.Chain{Finger: finger, L: []impl.Alarm{of(sets[finger][0], 1, 2, "")}})
		}
		return p
	}
	for _, x := range []struct {
		p    impl.Part
		i, n int
		want bool
	}{
		{one(4), 1, 3, true},
		{one(4), 0, 3, false},
		{one(4), 2, 3, false},
		{one(4), 4, 3, false},
		{one(4), -1, 3, false},
		{one(4), -2, 3, false},
		{one(4), 0, 2, true},
		{one(4), 1, 2, false},
		{one(4), 0, 1, true},
		{one(4), 1, 1, false},
		{one(4), 4, 5, true},
		{one(4), 4, math.MaxInt, true},
		{one(0), 0, 3, true},
		{one(31), 31, 32, true},
		// The first alone, the last alone is of another part.
		{one(4, 7, 10), 1, 3, true},
		{one(5, 7, 10), 1, 3, false},
		{one(4, 8, 10), 1, 3, false},
		{one(4, 7, 11), 1, 3, false},
		{one(5, 7, 10), 0, 1, true},
		{one(4, 7, 10), 0, 3, false},
		// n below 1: PartOf answers 0.
		{one(4, 7), 0, 0, true},
		{one(4, 7), 1, 0, false},
		{one(4, 7), 0, -3, true},
		{one(4, 7), 1, -3, false},
		{one(4, 7), -1, -3, false},
		{one(4), 0, math.MinInt, true},
		// No chain is of another part, where there is none.
		{one(), 2, 3, true},
		{one(), 3, 3, true},
		{one(), -1, 0, true},
		{one(), math.MinInt, math.MinInt, true},
	} {
		if got := impl.PartOk(x.p, x.i, x.n); got != x.want || got != partAsTold(x.p, x.i, x.n) {
			t.Errorf("PartOk(%+v, %d, %d) = %v", x.p, x.i, x.n, got)
		}
	}
	for finger := range 32 {
		for n := 1; n <= 4; n++ {
			for i := -1; i <= n; i++ {
				if got := impl.PartOk(one(finger), i, n); got != (i == finger%n) {
					t.Errorf("of the Finger %d it is of the part %d of %d: %v", finger, i, n, got)
				}
			}
		}
	}
}

func TestPartOkOfSomeParts(t *testing.T) {
	met := map[int]int{}
	for _, p := range someParts() {
		was := keepPart(p)
		for _, in := range [][2]int{{0, 1}, {0, 0}, {0, 3}, {1, 3}, {2, 3}, {0, 2}, {1, 2}, {-1, 3}, {4, 32}, {-1, 0}, {0, -5}} {
			if got := impl.PartOk(p, in[0], in[1]); got != partAsTold(p, in[0], in[1]) {
				t.Fatalf("PartOk(%+v, %d, %d) = %v", p, in[0], in[1], got)
			}
		}
		if impl.PartOk(p, 0, 1) {
			met[len(p.L)]++
		}
		if !samePartAsTold(p, was) {
			t.Fatalf("%+v is now %+v", was, p)
		}
	}
	if met[0] == 0 || met[1] == 0 || met[2] == 0 || met[3] == 0 {
		t.Errorf("right ones of each length: %v", met)
	}
}

func TestSamePart(t *testing.T) {
	p := threeChains()
	if !impl.SamePart(p, p) || !impl.SamePart(p, threeChains()) || !impl.SamePart(impl.Part{}, impl.Part{}) {
		t.Error("a part is not the same as itself")
	}
	none, empty := impl.Part{Held: 1, Ver: 2}, impl.Part{Held: 1, Ver: 2, L: []impl.Chain{}}
	if !impl.SamePart(none, empty) || !impl.SamePart(empty, none) || impl.SamePart(none, impl.Part{Held: 2, Ver: 1}) {
		t.Error("nil is an empty list")
	}
	none.L, empty.L = []impl.Chain{{Finger: 3}}, []impl.Chain{{Finger: 3, L: []impl.Alarm{}}}
	if !impl.SamePart(none, empty) || !impl.SamePart(empty, none) {
		t.Error("nil is an empty chain")
	}
	for name, change := range map[string]func(p *impl.Part){
		"held":               func(p *impl.Part) { p.Held = -1 },
		"held by least":      func(p *impl.Part) { p.Held = math.MinInt },
		"ver":                func(p *impl.Part) { p.Ver++ },
		"ver below 0":        func(p *impl.Part) { p.Ver = -7 },
		"held for ver":       func(p *impl.Part) { p.Held, p.Ver = p.Ver, p.Held },
		"finger of first":    func(p *impl.Part) { p.L[0].Finger-- },
		"finger of last":     func(p *impl.Part) { p.L[2].Finger++ },
		"first one of first": func(p *impl.Part) { p.L[0].L[0].Start++ },
		"last one of first":  func(p *impl.Part) { p.L[0].L[2].Note = "" },
		"first one of last":  func(p *impl.Part) { p.L[2].L[0].End++ },
		"last one of last":   func(p *impl.Part) { p.L[2].L[2].L[0].Val += " " },
		"name of last":       func(p *impl.Part) { p.L[2].L[2].L[0].Name = "" },
		"in the middle":      func(p *impl.Part) { p.L[1].L[1].End-- },
		"order of a chain":   func(p *impl.Part) { slices.Reverse(p.L[1].L) },
		"order":              func(p *impl.Part) { p.L[1], p.L[2] = p.L[2], p.L[1] },
		"turned round":       func(p *impl.Part) { slices.Reverse(p.L) },
		"without the last":   func(p *impl.Part) { p.L = p.L[:2] },
		"without the first":  func(p *impl.Part) { p.L = p.L[1:] },
		"one alarm less":     func(p *impl.Part) { p.L[2].L = p.L[2].L[:2] },
		"last one twice":     func(p *impl.Part) { p.L = append(p.L, p.L[2]) },
		"zero one at end":    func(p *impl.Part) { p.L = append(p.L, impl.Chain{}) },
		"none":               func(p *impl.Part) { p.L = nil },
	} {
		q := threeChains()
		change(&q)
		was := keepPart(q)
		if impl.SamePart(p, q) || impl.SamePart(q, p) {
			t.Errorf("%s: %+v and %+v are the same", name, p, q)
		}
		if !impl.SamePart(q, was) || !samePartAsTold(q, was) || !samePartAsTold(p, threeChains()) {
			t.Errorf("%s: %+v is now %+v", name, was, q)
		}
	}
}

func TestSamePartOfSomeParts(t *testing.T) {
	parts := someParts()
	for i, a := range parts {
		for j, b := range parts {
			if (i+j)%5 == 0 && impl.SamePart(a, b) != samePartAsTold(a, b) {
				t.Fatalf("SamePart(%+v, %+v) = %v", a, b, impl.SamePart(a, b))
			}
		}
		if !impl.SamePart(a, keepPart(a)) {
			t.Fatalf("%+v is not the same as itself", a)
		}
	}
}

// checkFind: that FindIn answers as told, and leaves all as it was.
func checkFind(t *testing.T, p impl.Part, l []impl.Label) (impl.Alarm, bool) {
	t.Helper()
	was, wasL := keepPart(p), slices.Clone(l)
	a, there := impl.FindIn(p, l)
	if want, wantThere := findAsTold(p, l); there != wantThere || !sameAsTold(a, want) {
		t.Fatalf("FindIn(%+v, %q) = %+v, %v, not %+v, %v", p, l, a, there, want, wantThere)
	}
	if !samePartAsTold(p, was) || !slices.Equal(l, wasL) {
		t.Fatalf("%+v, %q is now %+v, %q", was, wasL, p, l)
	}
	return a, there
}

func TestFindIn(t *testing.T) {
	p, sets := threeChains(), setsByFinger()
	for _, c := range p.L {
		for _, want := range c.L {
			if a, there := checkFind(t, p, want.L); !there || !sameAsTold(a, want) {
				t.Errorf("FindIn of %q: %+v, %v", want.L, a, there)
			}
			for _, none := range []impl.Part{{}, {Held: -1, L: []impl.Chain{}}, {L: []impl.Chain{{Finger: c.Finger}}}} {
				if _, there := checkFind(t, none, want.L); there {
					t.Errorf("%q is in %+v", want.L, none)
				}
			}
		}
		// Alike, but none of those that are there.
		if alike := sets[c.Finger][3]; !impl.Alike(alike, c.L[0].L) {
			t.Errorf("%q and %q are not alike", alike, c.L[0].L)
		}
		if a, there := checkFind(t, p, sets[c.Finger][3]); there || !sameAsTold(a, impl.Alarm{}) {
			t.Errorf("FindIn of %q: %+v, %v", sets[c.Finger][3], a, there)
		}
	}
	// Of a Finger that is less than all, between two, greater than all; of no labels, and of such that are not SetOk.
	for _, l := range [][]impl.Label{sets[0][0], sets[5][0], sets[31][0], nil, {}, set("b", "", "a", ""), set("host", "\""), set("", ""), append(slices.Clone(sets[4][0]), sets[4][0]...)} {
		if a, there := checkFind(t, p, l); there || !sameAsTold(a, impl.Alarm{}) {
			t.Errorf("FindIn of %q: %+v, %v", l, a, there)
		}
	}
}

// Of two chains of one Finger the first counts, whatever is in it; a chain of another Finger never does.
func TestFindInOfPartsThatAreNotRight(t *testing.T) {
	s := setsByFinger()
	first := impl.Chain{Finger: 4, L: []impl.Alarm{of(s[4][0], 1, 2, "first"), of(s[4][1], 1, 2, "first"), of(s[4][1], 1, 2, "twice")}}
	other := impl.Chain{Finger: 4, L: []impl.Alarm{of(s[4][1], 3, 4, "other"), of(s[4][2], 3, 4, "other")}}
	stray := impl.Chain{Finger: 10, L: []impl.Alarm{of(s[4][0], 5, 6, "stray"), of(s[10][0], 8, 3, "\"")}}
	for _, x := range []struct {
		l    []impl.Chain
		s    []impl.Label
		note string
	}{
		{[]impl.Chain{first, other}, s[4][0], "first"},
		{[]impl.Chain{first, other}, s[4][1], "first"},
		{[]impl.Chain{first, other}, s[4][2], ""},
		{[]impl.Chain{other, first}, s[4][0], ""},
		{[]impl.Chain{other, first}, s[4][1], "other"},
		{[]impl.Chain{other, first}, s[4][2], "other"},
		{[]impl.Chain{stray, other, stray, first}, s[4][1], "other"},
		{[]impl.Chain{stray, other, stray, first}, s[4][0], ""},
		{[]impl.Chain{stray}, s[4][0], ""},
		{[]impl.Chain{stray, first}, s[4][0], "first"},
		{[]impl.Chain{stray, first}, s[10][0], "\""},
		{[]impl.Chain{{Finger: 4}, first}, s[4][0], ""},
		{[]impl.Chain{first, {Finger: 4}}, s[4][0], "first"},
		{[]impl.Chain{{Finger: 36, L: first.L}}, s[4][0], ""},
		{[]impl.Chain{{Finger: -28, L: first.L}}, s[4][0], ""},
		{[]impl.Chain{{Finger: fingerAsTold(nil), L: []impl.Alarm{{Note: "none"}}}}, nil, "none"},
		{[]impl.Chain{{Finger: fingerAsTold(nil), L: []impl.Alarm{{Note: "none"}}}}, []impl.Label{}, "none"},
		{[]impl.Chain{{Finger: fingerAsTold(nil) + 1, L: []impl.Alarm{{Note: "none"}}}}, nil, ""},
	} {
		a, there := checkFind(t, impl.Part{Held: 9, Ver: -1, L: x.l}, x.s)
		if there != (x.note != "") || a.Note != x.note {
			t.Errorf("FindIn(%+v, %q) = %+v, %v", x.l, x.s, a, there)
		}
	}
	for _, p := range someParts() {
		for _, a := range putAlarms() {
			checkFind(t, p, a.L)
		}
	}
}

// putAlarms: alarms of the labels of partedChains, of others of their Fingers, of other Fingers, and such that are not AlarmOk.
func putAlarms() []impl.Alarm {
	sets := setsByFinger()
	l := []impl.Alarm{{}, of(nil, 1, 2, "none"), of(set("b", "", "a", ""), 8, 12, "order")}
	for _, finger := range []int{0, 4, 5, 10, 31} {
		for i := range 4 {
			l = append(l, of(sets[finger][i], 8, 12, "new"))
		}
	}
	return append(l, of(sets[4][0], 9, 12, "apart"), of(sets[4][1], 20, math.MinInt, "\xff"))
}

// checkPutIn: that PutIn answers as told, that the alarm is found then, and what was there else is as it was.
func checkPutIn(t *testing.T, p impl.Part, a impl.Alarm) (impl.Part, bool) {
	t.Helper()
	was, wasA := keepPart(p), keepAlarm(a)
	q, fresh := impl.PutIn(p, a)
	if want, wantFresh := putAsTold(p, a); fresh != wantFresh || !samePartAsTold(q, want) {
		t.Fatalf("PutIn(%+v, %+v) = %+v, %v, not %+v, %v", p, a, q, fresh, want, wantFresh)
	}
	stood, there := findAsTold(p, a.L)
	put := a
	if there {
		put = mergeAsTold(stood, a)
	}
	if got, found := impl.FindIn(q, a.L); fresh == there || !found || !sameAsTold(got, put) {
		t.Fatalf("%+v, put in %+v, is found as %+v, %v", a, p, got, found)
	}
	if alarmAsTold(a) && p.Ver < math.MaxInt {
		for n := range 4 {
			i := partOfAsTold(fingerAsTold(a.L), n)
			if partAsTold(p, i, n) && !impl.PartOk(q, i, n) {
				t.Fatalf("PutIn(%+v, %+v) = %+v is not right", p, a, q)
			}
		}
	}
	if !samePartAsTold(p, was) || !sameAsTold(a, wasA) {
		t.Fatalf("%+v and %+v are now %+v and %+v", was, wasA, p, a)
	}
	return q, fresh
}

func TestPutInWhereTheLabelsAreThere(t *testing.T) {
	p := threeChains()
	for i, c := range p.L {
		for j, stood := range c.L {
			for _, x := range []struct{ start, end, want int }{
				{stood.End + 1, stood.End + 5, stood.End + 1},
				{stood.End, stood.End + 5, 0},
				{3, 4, 0},
				{0, 0, 0},
			} {
				q, fresh := checkPutIn(t, p, of(stood.L, x.start, x.end, "new"))
				want := keepPart(p)
				want.Ver, want.L[i].L[j] = 8, of(stood.L, x.want, x.end, "new")
				if fresh || !samePartAsTold(q, want) {
					t.Errorf("%q put in: %+v, %v", stood.L, q, fresh)
				}
			}
		}
	}
}

func TestPutInWhereOnlyTheFingerIsThere(t *testing.T) {
	p, sets := threeChains(), setsByFinger()
	for i, c := range p.L {
		a := of(sets[c.Finger][3], 3, 8, "new")
		q, fresh := checkPutIn(t, p, a)
		want := keepPart(p)
		want.Ver, want.L[i].L = 8, append(want.L[i].L, a)
		if !fresh || !samePartAsTold(q, want) {
			t.Errorf("%+v put in: %+v, %v", a, q, fresh)
		}
	}
}

func TestPutInWhereTheFingerIsNotThere(t *testing.T) {
	p, sets := threeChains(), setsByFinger()
	for _, x := range []struct {
		p         impl.Part
		finger, i int
	}{
		// Less than all (4), between two (4, 10, 16), greater than all.
		{p, 0, 0},
		{p, 3, 0},
		{p, 5, 1},
		{p, 9, 1},
		{p, 11, 2},
		{p, 15, 2},
		{p, 17, 3},
		{p, 31, 3},
		{ending([]int{8}), 3, 0},
		{ending([]int{8}), 5, 1},
		// No chain yet.
		{impl.Part{Held: 2, Ver: 7}, 5, 0},
		{impl.Part{Held: 2, Ver: 7, L: []impl.Chain{}}, 0, 0},
		{impl.Part{Held: 2, Ver: 7, L: make([]impl.Chain, 0, 3)}, 31, 0},
	} {
		a := of(sets[x.finger][0], 3, 8, "new")
		q, fresh := checkPutIn(t, x.p, a)
		want := keepPart(x.p)
		want.Ver, want.L = 8, slices.Insert(want.L, x.i, chain(a))
		if !fresh || !samePartAsTold(q, want) {
			t.Errorf("%+v put in %+v: %+v, %v", a, x.p, q, fresh)
		}
	}
}

// In parts that are not right, too, it is the first chain of the Finger, else the place ahead of the first of a greater one.
func TestPutInOfPartsThatAreNotRight(t *testing.T) {
	sets := setsByFinger()
	p := threeChains()
	slices.Reverse(p.L)
	for finger, place := range map[int]int{0: 0, 5: 0, 11: 0, 15: 0, 17: 3, 31: 3} {
		if q, fresh := checkPutIn(t, p, of(sets[finger][0], 1, 2, "")); !fresh || len(q.L) != 4 || q.L[place].Finger != finger {
			t.Errorf("the Finger %d: %+v, %v", finger, q, fresh)
		}
	}
	p = threeChains()
	p.L = append(p.L, impl.Chain{Finger: 4, L: []impl.Alarm{of(sets[4][5], 3, 8, "behind")}}, impl.Chain{Finger: 22})
	if q, fresh := checkPutIn(t, p, of(sets[4][5], 8, 9, "")); !fresh || len(q.L) != 5 || len(q.L[0].L) != 4 || len(q.L[3].L) != 1 {
		t.Errorf("where it stands in the second chain: %+v, %v", q, fresh)
	}
	if q, fresh := checkPutIn(t, p, of(sets[22][0], 8, 9, "")); !fresh || len(q.L) != 5 || len(q.L[4].L) != 1 {
		t.Errorf("into an empty chain: %+v, %v", q, fresh)
	}
	met := map[bool]int{}
	for _, p := range someParts() {
		for _, a := range putAlarms() {
			_, fresh := checkPutIn(t, p, a)
			met[fresh]++
		}
	}
	if met[false] < 1000 || met[true] < 1000 {
		t.Errorf("%d were there, %d were new", met[false], met[true])
	}
}

// However they come, they stand by Finger, and all that come again are met where they stand.
func TestPutInOneBehindTheOther(t *testing.T) {
	sets := setsByFinger()
	for _, step := range []int{1, 7, 31, 13} {
		p, fresh := impl.Part{Held: 1}, false
		for round, start := range []int{10, 20} {
			for i := range 96 {
				a := of(sets[i*step%32][i/32], start, start+10, "")
				p, fresh = checkPutIn(t, p, a)
				if fresh != (round == 0) || p.Ver != round*96+i+1 || p.Held != 1 || !impl.PartOk(p, 0, 1) {
					t.Fatalf("%+v as number %d: %+v, %v", a, i, p, fresh)
				}
			}
		}
		for i, c := range p.L {
			if len(p.L) != 32 || c.Finger != i || len(c.L) != 3 || c.L[0].Start != 10 || c.L[2].End != 30 {
				t.Errorf("%d: %+v", i, c)
			}
		}
	}
}

func TestAlarmsIn(t *testing.T) {
	for _, x := range []struct {
		p    impl.Part
		want []string
	}{
		{impl.Part{}, nil},
		{impl.Part{Held: -1, L: []impl.Chain{}}, nil},
		{ending(nil), nil},
		{ending([]int{8}), []string{"0/0"}},
		{ending([]int{8, 3, 5}), []string{"0/0", "0/1", "0/2"}},
		{ending([]int{8}, []int{9}), []string{"0/0", "1/0"}},
		{ending([]int{8, 3}, []int{9}, []int{2, 40}), []string{"0/0", "0/1", "1/0", "2/0", "2/1"}},
		{ending(nil, []int{9, 8}, nil, []int{2}, nil), []string{"1/0", "1/1", "3/0"}},
	} {
		was := keepPart(x.p)
		l := impl.AlarmsIn(x.p)
		if len(l) != len(x.want) || !sameAlarms(l, alarmsAsTold(x.p)) {
			t.Fatalf("AlarmsIn(%+v) = %+v", x.p, l)
		}
		for i, a := range l {
			if a.Note != x.want[i] {
				t.Errorf("AlarmsIn(%+v) = %+v", x.p, l)
			}
		}
		if !samePartAsTold(x.p, was) {
			t.Errorf("%+v is now %+v", was, x.p)
		}
	}
	for _, p := range someParts() {
		if l := impl.AlarmsIn(p); !sameAlarms(l, alarmsAsTold(p)) {
			t.Fatalf("AlarmsIn(%+v) = %+v", p, l)
		}
	}
}

// roomyPart: a part whose chains are cut out of a greater list, and their alarms out of one that they share (chapter 6).
// The whole list is given, too, and a function that tells whether anything of it, or behind it, was changed.
func roomyPart() (impl.Part, []impl.Alarm, func(t *testing.T, what string)) {
	one, room, rooms := roomy()
	cut := func(room []impl.Alarm) []impl.Chain {
		return []impl.Chain{
			{Finger: one.Finger, L: room[:1]},
			{Finger: one.Finger + 1, L: room[:0]},
			{Finger: fingerAsTold(room[1].L), L: room[1:3]},
			{Finger: fingerAsTold(nil), L: room[3:4]},
			{Finger: 99, L: room[4:]},
		}
	}
	chains := cut(room)
	return impl.Part{Held: 3, Ver: 5, L: chains[:4]}, room, func(t *testing.T, what string) {
		t.Helper()
		_, want, _ := roomy()
		checkRoom(t, what, room, rooms)
		if !sameChainsAsTold(chains, cut(want)) {
			t.Errorf("%s: the chains are now %+v", what, chains)
		}
	}
}

// markChains: as markAll, but of chains, their lists, and other lists beside them.
func markChains(l []impl.Chain, lists ...[]impl.Alarm) bool {
	for _, c := range l {
		lists = append(lists, c.L)
	}
	l = l[:cap(l)]
	for i := range l {
		l[i] = impl.Chain{Finger: -7 - i}
	}
	if !markAll(lists...) {
		return false
	}
	for i, c := range l {
		if c.Finger != -7-i || c.L != nil {
			return false
		}
	}
	return true
}

// What PutIn and SweepIn answer shares no memory with an argument, nor one of its lists with another.
func TestPutInAndSweepInMakeNewMemory(t *testing.T) {
	for from := range 5 {
		for to := from; to < 5; to++ {
			p, room, check := roomyPart()
			p.L = p.L[from:to]
			own := append(slices.Clone(setsByFinger()[20][0]), impl.Label{Name: "behind"})
			kept := slices.Clone(own)
			for _, a := range append(slices.Clone(room), impl.Alarm{L: own[:1], End: 4}, impl.Alarm{L: own[:0]}) {
				q, _ := checkPutIn(t, p, a)
				check(t, "put")
				if !markChains(q.L) {
					t.Errorf("%+v, put in %+v: lists of the answer share memory", a, p)
				}
				check(t, "put and marked")
				if !slices.Equal(own, kept) {
					t.Errorf("the alarm's labels are now %q", own)
				}
			}
			for _, now := range []int{0, 7, 8, 9, 19, 20} {
				q, gone := checkSweep(t, p, now)
				check(t, "swept")
				if !markChains(q.L, gone) {
					t.Errorf("SweepIn(%+v, %d): lists of the answer share memory", p, now)
				}
				check(t, "swept and marked")
			}
		}
	}
}

// Nor does what FindIn and AlarmsIn answer.
func TestFindInAndAlarmsInMakeNewMemory(t *testing.T) {
	p, room, check := roomyPart()
	met := 0
	for _, a := range append(slices.Clone(room), impl.Alarm{}) {
		got, there := checkFind(t, p, a.L)
		if there {
			met++
		}
		if !markAll([]impl.Alarm{got}) {
			t.Errorf("FindIn(%+v, %q)", p, a.L)
		}
		check(t, "found and marked")
	}
	if met < 3 {
		t.Errorf("only %d are found", met)
	}
	l := impl.AlarmsIn(p)
	if len(l) != 4 || !markAll(l) {
		t.Errorf("AlarmsIn(%+v) = %+v", p, l)
	}
	check(t, "all marked")
}

// What lies behind the lists is not read, either.
func TestPartsAreReadToTheirLengthAlone(t *testing.T) {
	whole := threeChains()
	p := impl.Part{Held: 2, Ver: 7, L: whole.L[:2]}
	p.L[1].L = p.L[1].L[:2]
	whole.L[2].Finger = 4
	behind := p.L[1].L[:3][2]
	if !impl.PartOk(p, 1, 3) || len(impl.AlarmsIn(p)) != 5 {
		t.Errorf("%+v is not right", p)
	}
	if _, there := checkFind(t, p, behind.L); there {
		t.Error("what lies behind a chain is found")
	}
	if _, there := checkFind(t, p, whole.L[2].L[0].L); there {
		t.Error("what lies behind the chains is found")
	}
	if _, fresh := checkPutIn(t, p, behind); !fresh {
		t.Error("what lies behind a chain is merged")
	}
	if q, gone := checkSweep(t, p, 99999); len(q.L) != 0 || len(gone) != 5 {
		t.Errorf("%+v, %+v", q, gone)
	}
}

// Many chains, also of one Finger, are gone through in no more time than they need.
func TestPartsOfManyChains(t *testing.T) {
	one := setsByFinger()[4][0]
	var same, unlike impl.Part
	for i := range 30000 {
		l := []impl.Alarm{of(one, 0, i, "")}
		same.L = append(same.L, impl.Chain{Finger: 4, L: l})
		unlike.L = append(unlike.L, impl.Chain{Finger: i - 15000, L: l})
	}
	for _, p := range []impl.Part{same, unlike} {
		if q, gone := impl.SweepIn(p, 9999); len(q.L) != 20000 || len(gone) != 10000 || q.L[0].L[0].End != 10000 || gone[9999].End != 9999 {
			t.Errorf("%d are left, %d are gone", len(q.L), len(gone))
		}
		if q, fresh := impl.PutIn(p, of(one, 9, 9, "")); fresh || len(q.L) != 30000 {
			t.Errorf("%v, %d", fresh, len(q.L))
		}
		if _, there := impl.FindIn(p, one); !there || impl.PartOk(p, 0, 1) || len(impl.AlarmsIn(p)) != 30000 {
			t.Error("many chains")
		}
	}
}
