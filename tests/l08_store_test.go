package tests

import (
	"math"
	"slices"
	"testing"

	"loop.example/g00490/impl"
)

// storeAsTold: StoreOk in the words of the document.
func storeAsTold(l []impl.Part) bool {
	for i, p := range l {
		if !partAsTold(p, i, len(l)) {
			return false
		}
	}
	return len(l) == 1 || len(l) == 2 || len(l) == 3
}

func sameStores(a, b []impl.Part) bool {
	return slices.EqualFunc(a, b, samePartAsTold)
}

// keepStore: a copy that shares nothing with the parts, to hold them against later.
func keepStore(l []impl.Part) []impl.Part {
	var kept []impl.Part
	for _, p := range l {
		kept = append(kept, keepPart(p))
	}
	return kept
}

func homeAsTold(l []impl.Part, s []impl.Label) int {
	return partOfAsTold(fingerAsTold(s), len(l))
}

// foundAsTold: FindAlarm in the words of the document.
func foundAsTold(l []impl.Part, s []impl.Label) (impl.Alarm, bool) {
	if len(l) == 0 {
		return impl.Alarm{}, false
	}
	return findAsTold(l[homeAsTold(l, s)], s)
}

// storedAsTold: PutAlarm in the words of the document.
func storedAsTold(l []impl.Part, a impl.Alarm) ([]impl.Part, bool) {
	l = keepStore(l)
	if len(l) == 0 {
		return l, false
	}
	fresh, home := false, homeAsTold(l, a.L)
	l[home], fresh = putAsTold(l[home], a)
	return l, fresh
}

// allAsTold: AllAlarms in the words of the document: each comes ahead of the first that its labels are less than.
func allAsTold(l []impl.Part) []impl.Alarm {
	var all []impl.Alarm
	for _, p := range l {
		for _, a := range alarmsAsTold(p) {
			place := slices.IndexFunc(all, func(other impl.Alarm) bool { return setLessAsTold(a.L, other.L) })
			if place < 0 {
				place = len(all)
			}
			all = slices.Insert(all, place, a)
		}
	}
	return all
}

func countAsTold(l []impl.Part) int {
	n := 0
	for _, p := range l {
		n += len(alarmsAsTold(p))
	}
	return n
}

// filled: a store of n parts, with the first ones of each Finger put in, and n for each one's Ver ahead of that.
func filled(n, each int) []impl.Part {
	var l []impl.Part
	for i := range n {
		l = append(l, impl.Part{Held: i - 1, Ver: n})
	}
	sets := setsByFinger()
	for finger := range 32 {
		for i := range each {
			l, _ = storedAsTold(l, of(sets[finger][i], finger, finger+i, impl.NumText(finger)))
		}
	}
	return l
}

// storedParts: right ones of the part 0, 1 or 2 of 3, an empty one, and such that are right nowhere.
func storedParts() []impl.Part {
	s, wrong := setsByFinger(), partedChains()
	return []impl.Part{
		{Held: -1},
		{Held: 0, Ver: 3, L: []impl.Chain{chain(of(s[3][0], 3, 8, "a")), chain(of(s[6][0], 3, 8, "b"), of(s[6][1], 9, 9, ""))}},
		{Held: 4, Ver: 1, L: []impl.Chain{chain(of(s[4][0], 0, 8, "c")), chain(of(s[10][0], 8, 9, "d"))}},
		{Held: 2, Ver: 9, L: []impl.Chain{chain(of(s[5][1], 5, 7, "e"), of(s[5][0], 5, 7, "f"))}},
		{Held: 5, Ver: -1, L: wrong},
		{Held: math.MinInt, Ver: 2, L: wrong[4:]},
	}
}

// someStores: every short one of these parts, right and wrong, of more than MaxParts among them.
func someStores() [][]impl.Part {
	l := allLists(storedParts(), 4)
	return append(l, []impl.Part{}, filled(1, 2), filled(2, 2), filled(3, 2), filled(4, 2), filled(40, 1))
}

// storedAlarms: of the labels of these parts, of others of their Fingers, of no labels, and such that are not AlarmOk.
func storedAlarms() []impl.Alarm {
	s := setsByFinger()
	l := []impl.Alarm{{}, of(nil, 1, 2, "none"), of(set("b", "", "a", ""), 8, 12, "order")}
	for _, finger := range []int{0, 3, 4, 5, 6, 10, 31} {
		l = append(l, of(s[finger][0], 8, 12, "new"), of(s[finger][1], 9, 12, "new"))
	}
	return append(l, of(s[4][2], 8, 12, "new"), of(s[6][1], 20, math.MinInt, "\xff"))
}

// checkStored: that PutAlarm answers as told; that what was put is found then, merged with what was there; that only its
// home is changed; that it is one more just where it was new; and that all are listed, in order.
func checkStored(t *testing.T, l []impl.Part, a impl.Alarm) ([]impl.Part, bool) {
	t.Helper()
	was, wasA := keepStore(l), keepAlarm(a)
	stood, there := impl.FindAlarm(l, a.L)
	q, fresh := impl.PutAlarm(l, a)
	if want, wantFresh := storedAsTold(l, a); fresh != wantFresh || !sameStores(q, want) {
		t.Fatalf("PutAlarm(%+v, %+v) = %+v, %v, not %+v, %v", l, a, q, fresh, want, wantFresh)
	}
	if !sameStores(l, was) || !sameAsTold(a, wasA) {
		t.Fatalf("%+v and %+v are now %+v and %+v", was, wasA, l, a)
	}
	put := a
	if there {
		put = mergeAsTold(stood, a)
	}
	got, found := impl.FindAlarm(q, a.L)
	if some := len(l) != 0; found != some || some && (fresh == there || !sameAsTold(got, put)) {
		t.Fatalf("%+v, put in %+v, is found as %+v, %v", a, l, got, found)
	}
	more := 0
	if fresh {
		more = 1
	}
	if impl.CountOf(q) != impl.CountOf(l)+more || impl.CountOf(q) != countAsTold(q) {
		t.Fatalf("of %d there are %d, after %v", impl.CountOf(l), impl.CountOf(q), fresh)
	}
	if all := impl.AllAlarms(q); !sameAlarms(all, allAsTold(q)) {
		t.Fatalf("AllAlarms(%+v) = %+v", q, all)
	}
	return q, fresh
}

// ascendingOnce: whether each one's labels are less than those of the next.
func ascendingOnce(l []impl.Alarm) bool {
	for i := 1; i < len(l); i++ {
		if !setLessAsTold(l[i-1].L, l[i].L) {
			return false
		}
	}
	return true
}

// Promise 8: what was put is found, in whatever part.
func TestPromise8WhatWasPutIsFound(t *testing.T) {
	sets := setsByFinger()
	for n := 1; n <= 3; n++ {
		for _, step := range []int{1, 7, 31} {
			l, fresh, homes := impl.StoreNew(n), false, map[int]int{}
			var put []impl.Alarm
			for round, start := range []int{10, 20, 41} {
				for i := range 64 {
					a := of(sets[i*step%32][i/32], start, start+10, impl.NumText(round))
					// The second round just touches the first one, the third is apart from the second.
					want := a
					want.Start = []int{10, 10, 41}[round]
					l, fresh = checkStored(t, l, a)
					if round == 0 {
						put = append(put, want)
					} else {
						put[i] = want
					}
					if fresh != (round == 0) || impl.CountOf(l) != len(put) || !impl.StoreOk(l) || len(l) != n {
						t.Fatalf("%+v as number %d of the round %d: %+v, %v", a, i, round, l, fresh)
					}
					for _, want := range put {
						if got, there := impl.FindAlarm(l, want.L); !there || !sameAsTold(got, want) {
							t.Fatalf("%+v, put ahead of %+v, is %+v, %v", want, a, got, there)
						}
					}
					homes[impl.HomeOf(l, a.L)]++
				}
			}
			all := impl.AllAlarms(l)
			if !ascendingOnce(all) || len(all) != 64 || len(homes) != n {
				t.Errorf("%+v in %v", all, homes)
			}
			checkNotFound(t, l, sets[3][2], sets[4][2], sets[5][2], nil)
		}
	}
}

// checkNotFound: that none of these labels is found.
func checkNotFound(t *testing.T, l []impl.Part, sets ...[]impl.Label) {
	t.Helper()
	for _, s := range sets {
		if a, there := checkFound(t, l, s); there || !sameAsTold(a, impl.Alarm{}) {
			t.Errorf("FindAlarm(%+v, %q) = %+v, %v", l, s, a, there)
		}
	}
}

// Whatever the parts hold, and however many they are: what was put is found, all else is found as it was.
func TestPromise8OfSomeStores(t *testing.T) {
	met, alarms := map[bool]int{}, storedAlarms()
	for _, l := range someStores() {
		for i, a := range alarms {
			if len(l) == 4 && i%3 != 0 {
				continue
			}
			q, fresh := checkStored(t, l, a)
			met[fresh]++
			for _, other := range alarms {
				if slices.Equal(other.L, a.L) {
					continue
				}
				before, was := impl.FindAlarm(l, other.L)
				if got, is := impl.FindAlarm(q, other.L); is != was || !sameAsTold(got, before) {
					t.Fatalf("%q, with %+v put in %+v, is %+v, %v", other.L, a, l, got, is)
				}
			}
			if storeAsTold(l) && alarmAsTold(a) && !impl.StoreOk(q) {
				t.Fatalf("PutAlarm(%+v, %+v) = %+v is not right", l, a, q)
			}
		}
	}
	if met[false] < 1000 || met[true] < 1000 {
		t.Errorf("%d were there, %d were new", met[false], met[true])
	}
}

func TestStoreOk(t *testing.T) {
	four := filled(4, 2)
	for i := range four {
		if !impl.PartOk(four[i], i, 4) {
			t.Fatalf("%+v is not right", four[i])
		}
	}
	for name, x := range map[string]struct {
		l    []impl.Part
		want bool
	}{
		"nil":               {nil, false},
		"empty":             {[]impl.Part{}, false},
		"none, but room":    {filled(3, 1)[:0], false},
		"1 of nothing":      {[]impl.Part{{Held: -1}}, true},
		"1 zero":            {[]impl.Part{{}}, true},
		"2 of nothing":      {make([]impl.Part, 2), true},
		"MaxParts zero":     {make([]impl.Part, impl.MaxParts), true},
		"MaxParts and 1":    {make([]impl.Part, impl.MaxParts+1), false},
		"many":              {make([]impl.Part, 300), false},
		"1":                 {filled(1, 2), true},
		"2":                 {filled(2, 2), true},
		"3":                 {filled(3, 2), true},
		"4, each in place":  {four, false},
		"3 of 4":            {four[:3], false},
		"first 2 of 3":      {filled(3, 2)[:2], false},
		"last 2 of 3":       {filled(3, 2)[1:], false},
		"first of 3":        {filled(3, 2)[:1], true},
		"last of 3":         {filled(3, 2)[2:], true},
		"2 and one more":    {append(filled(2, 2), impl.Part{}), false},
		"1 and one more":    {append(filled(1, 2), impl.Part{}), false},
		"all in the second": {append([]impl.Part{{}}, filled(1, 2)...), false},
	} {
		was := keepStore(x.l)
		if got := impl.StoreOk(x.l); got != x.want || x.want != storeAsTold(x.l) {
			t.Errorf("%s: %v", name, got)
		}
		if !sameStores(x.l, was) {
			t.Errorf("%s: %+v is now %+v", name, was, x.l)
		}
	}
}

// One part that is not right is enough, at whichever place.
func TestStoreOkWithOneThatIsNotRight(t *testing.T) {
	sets := setsByFinger()
	for n := 1; n <= 3; n++ {
		for i := range n {
			for name, change := range map[string]func(p *impl.Part){
				"held by 5":      func(p *impl.Part) { p.Held = 5 },
				"held by -2":     func(p *impl.Part) { p.Held = -2 },
				"ver":            func(p *impl.Part) { p.Ver = -1 },
				"order":          func(p *impl.Part) { p.L[0], p.L[1] = p.L[1], p.L[0] },
				"finger twice":   func(p *impl.Part) { p.L = append(p.L, p.L[len(p.L)-1]) },
				"empty chain":    func(p *impl.Part) { p.L[2].L = nil },
				"wrong alarm":    func(p *impl.Part) { p.L[1].L[1].End = 100000 },
				"another finger": func(p *impl.Part) { p.L[0].Finger++ },
				"no labels":      func(p *impl.Part) { p.L[0].L[0].L = nil },
				"labels twice":   func(p *impl.Part) { p.L[0].L[1] = p.L[0].L[0] },
			} {
				l := filled(n, 2)
				change(&l[i])
				if impl.StoreOk(l) || storeAsTold(l) {
					t.Errorf("%s of the part %d of %d: %+v is right", name, i, n, l)
				}
			}
		}
	}
	// Right alone, but not at its place, or not of so many.
	for n := 2; n <= 3; n++ {
		for i := range n {
			for j := range i {
				l := filled(n, 2)
				l[i], l[j] = l[j], l[i]
				if impl.StoreOk(l) || !impl.PartOk(l[i], j, n) {
					t.Errorf("with %d and %d of %d in each other's place it is right", i, j, n)
				}
			}
			for finger := range 32 {
				l := impl.StoreNew(n)
				l[i].L = []impl.Chain{chain(of(sets[finger][0], 1, 2, ""))}
				if got := impl.StoreOk(l); got != (finger%n == i) {
					t.Errorf("the Finger %d in the part %d of %d: %v", finger, i, n, got)
				}
			}
		}
	}
}

func TestStoreOkOfSomeStores(t *testing.T) {
	met := map[int]int{}
	for _, l := range someStores() {
		was := keepStore(l)
		got := impl.StoreOk(l)
		if got != storeAsTold(l) || !sameStores(l, was) {
			t.Fatalf("StoreOk(%+v) = %v, of %+v", l, got, was)
		}
		if got {
			met[len(l)]++
		}
	}
	if met[1] < 2 || met[2] < 2 || met[3] < 2 || met[0]+met[4] != 0 {
		t.Errorf("right ones of each length: %v", met)
	}
}

func TestStoreNew(t *testing.T) {
	for n, want := range map[int]int{
		math.MinInt: 1, -3: 1, -1: 1, 0: 1, 1: 1, 2: 2, impl.MaxParts: 3, impl.MaxParts + 1: 1, 5: 1, math.MaxInt: 1,
	} {
		l := impl.StoreNew(n)
		if len(l) != want || !impl.StoreOk(l) || impl.CountOf(l) != 0 || len(impl.AllAlarms(l)) != 0 {
			t.Fatalf("StoreNew(%d) = %+v", n, l)
		}
		for i, p := range l {
			if p.Held != -1 || p.Ver != 0 || len(p.L) != 0 {
				t.Errorf("the part %d of StoreNew(%d) is %+v", i, n, p)
			}
		}
		// What is done to one of them is not seen in another one.
		if !markParts(l) || !sameStores(impl.StoreNew(n), slices.Repeat([]impl.Part{{Held: -1}}, want)) {
			t.Errorf("StoreNew(%d) shares memory", n)
		}
	}
	if impl.MaxParts != 3 {
		t.Errorf("MaxParts is %d", impl.MaxParts)
	}
}

func TestHomeOf(t *testing.T) {
	for finger, sets := range setsByFinger() {
		for n := range 6 {
			for _, s := range sets[:3] {
				was := slices.Clone(s)
				want := 0
				if n > 0 {
					want = finger % n
				}
				if got := impl.HomeOf(make([]impl.Part, n), s); got != want || !slices.Equal(s, was) {
					t.Errorf("the home of %q (the Finger %d) of %d parts is %d", s, finger, n, got)
				}
			}
		}
	}
	// No labels have a text, and so a home; those that are not SetOk have that of no text at all.
	for _, x := range []struct {
		n    int
		s    []impl.Label
		want int
	}{
		{0, nil, 0}, {1, nil, 0}, {2, nil, fingerAsTold(nil) % 2}, {3, nil, fingerAsTold(nil) % 3}, {3, []impl.Label{}, fingerAsTold(nil) % 3},
		{0, set("b", "", "a", ""), 0}, {1, set("b", "", "a", ""), 0}, {2, set("b", "", "a", ""), 1}, {3, set("b", "", "a", ""), 1},
		{3, set("host", "\""), 1}, {3, set("", ""), 1}, {3, make([]impl.Label, 9), 1},
		{100, set("", ""), 25},
	} {
		if got := impl.HomeOf(make([]impl.Part, x.n), x.s); got != x.want {
			t.Errorf("HomeOf of %d parts and %q = %d, not %d", x.n, x.s, got, x.want)
		}
	}
	if impl.HomeOf(nil, setsByFinger()[31][0]) != 0 || impl.HomeOf([]impl.Part{}, setsByFinger()[31][0]) != 0 {
		t.Error("of no parts at all it is not 0")
	}
	// What the parts hold does not count, but how many there are.
	alarms := storedAlarms()
	for _, l := range someStores() {
		for _, a := range alarms {
			if got := impl.HomeOf(l, a.L); got != homeAsTold(l, a.L) {
				t.Fatalf("HomeOf(%+v, %q) = %d", l, a.L, got)
			}
		}
	}
}

// checkFound: that FindAlarm answers as told, and leaves all as it was.
func checkFound(t *testing.T, l []impl.Part, s []impl.Label) (impl.Alarm, bool) {
	t.Helper()
	was, wasS := keepStore(l), slices.Clone(s)
	a, there := impl.FindAlarm(l, s)
	if want, wantThere := foundAsTold(l, s); there != wantThere || !sameAsTold(a, want) {
		t.Fatalf("FindAlarm(%+v, %q) = %+v, %v, not %+v, %v", l, s, a, there, want, wantThere)
	}
	if !sameStores(l, was) || !slices.Equal(s, wasS) {
		t.Fatalf("%+v, %q is now %+v, %q", was, wasS, l, s)
	}
	return a, there
}

func TestFindAlarm(t *testing.T) {
	sets := setsByFinger()
	for n := 1; n <= 4; n++ {
		l, homes := filled(n, 2), map[int]int{}
		for finger := range 32 {
			for i := range 2 {
				want := of(sets[finger][i], finger, finger+i, impl.NumText(finger))
				if a, there := checkFound(t, l, want.L); !there || !sameAsTold(a, want) {
					t.Errorf("%+v of %d parts: %+v, %v", want, n, a, there)
				}
				homes[impl.HomeOf(l, want.L)]++
			}
			// Of a Finger that is there, but not these labels.
			checkNotFound(t, l, sets[finger][2], append(slices.Clone(sets[finger][0]), impl.Label{Name: "job"}))
		}
		if len(homes) != n {
			t.Errorf("of %d parts these were the homes: %v", n, homes)
		}
		checkNotFound(t, l, nil, []impl.Label{}, set("b", "", "a", ""), set("", ""), make([]impl.Label, 9))
		checkNotFound(t, make([]impl.Part, n), sets[3][0], sets[4][0], sets[5][0], nil)
	}
	// No parts at all.
	for _, none := range [][]impl.Part{nil, {}, filled(3, 2)[:0]} {
		checkNotFound(t, none, sets[0][0], sets[4][0], sets[5][0], nil, []impl.Label{}, set("", ""))
	}
}

// What stands in a part that is not the home of its labels is not found.
func TestFindAlarmAwayFromHome(t *testing.T) {
	sets := setsByFinger()
	for n := 1; n <= 4; n++ {
		for finger := range 32 {
			a := of(sets[finger][0], 3, 8, "here")
			for i := range n {
				l := filled(n, 0)
				l[i].L = []impl.Chain{chain(a)}
				got, there := checkFound(t, l, a.L)
				if there != (i == finger%n) || there && !sameAsTold(got, a) {
					t.Errorf("%q in the part %d of %d: %+v, %v", a.L, i, n, got, there)
				}
			}
		}
	}
	// No labels, and such that are not SetOk, have a home, too, though nothing right can be there.
	for _, s := range [][]impl.Label{nil, set("b", "", "a", "")} {
		for i := range 3 {
			l := impl.StoreNew(3)
			l[i].L = []impl.Chain{chain(of(s, 3, 8, "here"))}
			if _, there := checkFound(t, l, s); there != (i == fingerAsTold(s)%3) {
				t.Errorf("%q in the part %d: %v", s, i, there)
			}
		}
	}
}

func TestFindAlarmOfSomeStores(t *testing.T) {
	met, alarms := map[bool]int{}, storedAlarms()
	for _, l := range someStores() {
		for _, a := range alarms {
			_, there := checkFound(t, l, a.L)
			met[there]++
		}
	}
	if met[false] < 1000 || met[true] < 1000 {
		t.Errorf("%d were there, %d were not", met[true], met[false])
	}
}

func TestPutAlarmWhereTheLabelsAreThere(t *testing.T) {
	sets := setsByFinger()
	for n := 1; n <= 4; n++ {
		l := filled(n, 2)
		for finger := range 32 {
			for i := range 2 {
				end := finger + i
				for _, x := range []struct{ start, end, want int }{
					{end + 1, end + 5, end + 1},
					{end, end + 5, finger},
					{0, end, 0},
				} {
					a := of(sets[finger][i], x.start, x.end, "new")
					q, fresh := checkStored(t, l, a)
					want, home := keepStore(l), finger%n
					want[home].Ver++
					want[home].L[finger/n].L[i] = of(a.L, x.want, x.end, "new")
					if fresh || !sameStores(q, want) {
						t.Fatalf("%+v put in: %+v, %v", a, q, fresh)
					}
				}
			}
		}
	}
}

func TestPutAlarmWhereTheLabelsAreNot(t *testing.T) {
	sets := setsByFinger()
	for n := 1; n <= 4; n++ {
		full, empty := filled(n, 2), filled(n, 0)
		for finger := range 32 {
			a, home := of(sets[finger][2], 3, 8, "new"), finger%n
			q, fresh := checkStored(t, full, a)
			want := keepStore(full)
			want[home].Ver++
			want[home].L[finger/n].L = append(want[home].L[finger/n].L, a)
			if !fresh || !sameStores(q, want) {
				t.Fatalf("%+v put in: %+v, %v", a, q, fresh)
			}
			q, fresh = checkStored(t, empty, a)
			want = keepStore(empty)
			want[home] = impl.Part{Held: home - 1, Ver: n + 1, L: []impl.Chain{chain(a)}}
			if !fresh || !sameStores(q, want) {
				t.Fatalf("%+v put in nothing: %+v, %v", a, q, fresh)
			}
		}
	}
}

// Where they stand, but not at home, they are new; what stands there stays.
func TestPutAlarmAwayFromHome(t *testing.T) {
	sets := setsByFinger()
	for finger := range 32 {
		a := of(sets[finger][0], 3, 8, "away")
		for i := range 3 {
			l := impl.StoreNew(3)
			l[i].L = []impl.Chain{chain(a)}
			q, fresh := checkStored(t, l, of(a.L, 8, 9, "new"))
			home := finger % 3
			if fresh != (i != home) || q[home].Ver != 1 || impl.CountOf(q) == 1 != (i == home) {
				t.Errorf("%q, put in, where they stood in the part %d: %+v, %v", a.L, i, q, fresh)
			}
			if i != home && (!samePartAsTold(q[i], l[i]) || q[home].L[0].L[0].Start != 8) {
				t.Errorf("%q, put in, where they stood in the part %d: %+v", a.L, i, q)
			}
		}
	}
}

// Into no parts nothing can be put: there are none then, either.
func TestPutAlarmIntoNoParts(t *testing.T) {
	for _, none := range [][]impl.Part{nil, {}} {
		for _, a := range storedAlarms() {
			if q, fresh := checkStored(t, none, a); len(q) != 0 || fresh {
				t.Errorf("%+v put into no parts: %+v, %v", a, q, fresh)
			}
		}
	}
	room := filled(3, 2)
	q, fresh := impl.PutAlarm(room[:0], of(setsByFinger()[0][0], 1, 2, ""))
	if len(q) != 0 || fresh || !markParts(q) || !sameStores(room, filled(3, 2)) {
		t.Errorf("put into no parts, but room: %+v, %v, and %+v", q, fresh, room)
	}
}

// checkAll: that AllAlarms and CountOf answer as told, and leave all as it was; what all of their notes are.
func checkAll(t *testing.T, l []impl.Part) []string {
	t.Helper()
	was := keepStore(l)
	all := impl.AllAlarms(l)
	if !sameAlarms(all, allAsTold(l)) || impl.CountOf(l) != len(all) {
		t.Fatalf("AllAlarms(%+v) = %+v, %d of them", l, all, impl.CountOf(l))
	}
	if !sameStores(l, was) {
		t.Fatalf("%+v is now %+v", was, l)
	}
	var notes []string
	for _, a := range all {
		notes = append(notes, a.Note)
	}
	return notes
}

func TestAllAlarmsAndCountOf(t *testing.T) {
	one := func(chains ...impl.Chain) impl.Part { return impl.Part{Held: -1, L: chains} }
	a := alarm(3, 8, "a", "app", "a")
	ab := alarm(9, 9, "ab", "app", "a", "host", "1")
	b := alarm(0, 1, "b", "app", "b")
	job := alarm(0, 0, "job", "job", "")
	away := alarm(5, 6, "away", "app", "a")
	none := alarm(1, 2, "none")
	wrong := alarm(8, 3, "wrong", "app", "\xff")
	for _, x := range []struct {
		l    []impl.Part
		want []string
	}{
		{nil, nil},
		{[]impl.Part{}, nil},
		{[]impl.Part{{}}, nil},
		{impl.StoreNew(3), nil},
		{make([]impl.Part, 9), nil},
		{[]impl.Part{one(impl.Chain{Finger: 3}), one(impl.Chain{}, impl.Chain{})}, nil},
		{[]impl.Part{one(chain(a))}, []string{"a"}},
		// Within a chain, within a part, and across the parts.
		{[]impl.Part{one(chain(job, b, ab, a))}, []string{"a", "ab", "b", "job"}},
		{[]impl.Part{one(chain(job), chain(b), chain(ab), chain(a))}, []string{"a", "ab", "b", "job"}},
		{[]impl.Part{one(chain(job)), one(chain(b)), one(chain(ab), chain(a))}, []string{"a", "ab", "b", "job"}},
		{[]impl.Part{one(chain(ab, job)), {}, one(chain(b), chain(a))}, []string{"a", "ab", "b", "job"}},
		{[]impl.Part{one(chain(a, b)), one(chain(ab, job))}, []string{"a", "ab", "b", "job"}},
		// The same labels in several parts: as they come, part by part, whatever else they are.
		{[]impl.Part{one(chain(a)), one(chain(away))}, []string{"a", "away"}},
		{[]impl.Part{one(chain(away)), one(chain(a))}, []string{"away", "a"}},
		{[]impl.Part{one(chain(b, away)), one(chain(b)), one(chain(a), chain(away), chain(none))}, []string{"none", "away", "a", "away", "b", "b"}},
		{[]impl.Part{one(chain(a)), one(chain(a)), one(chain(a))}, []string{"a", "a", "a"}},
		// More than MaxParts, no labels, and alarms that are not AlarmOk.
		{[]impl.Part{one(chain(wrong)), one(chain(job)), {}, one(chain(none)), one(chain(away)), one(chain(a))}, []string{"none", "away", "a", "wrong", "job"}},
	} {
		if got := checkAll(t, x.l); !slices.Equal(got, x.want) || impl.CountOf(x.l) != len(x.want) {
			t.Errorf("AllAlarms(%+v) = %q", x.l, got)
		}
	}
	for n := range 5 {
		for each := range 4 {
			want := 32 * each
			if n == 0 {
				want = 0
			}
			if got := checkAll(t, filled(n, each)); len(got) != want {
				t.Errorf("of %d parts %d are listed, not %d", n, len(got), want)
			}
		}
	}
	for _, l := range someStores() {
		checkAll(t, l)
	}
}

// Of right ones each is listed once.
func TestAllAlarmsOfRightStores(t *testing.T) {
	met := 0
	for _, l := range someStores() {
		if !impl.StoreOk(l) {
			continue
		}
		all := impl.AllAlarms(l)
		if !ascendingOnce(all) {
			t.Errorf("AllAlarms(%+v) = %+v", l, all)
		}
		for _, a := range all {
			if got, there := impl.FindAlarm(l, a.L); !there || !sameAsTold(got, a) {
				t.Errorf("%+v is listed, but %+v, %v is found", a, got, there)
			}
		}
		met += len(all)
	}
	if met < 100 {
		t.Errorf("only %d are listed", met)
	}
}

// Many of a few labels: however many they are, those of the same ones stay as they come.
func TestAllAlarmsOfManyOfTheSame(t *testing.T) {
	sets := manyHosts()[:3]
	var l []impl.Part
	for i := range 3000 {
		l = append(l, impl.Part{L: []impl.Chain{chain(of(sets[i*7%3], i, i, ""), of(sets[i%2], i, i, ""))}})
	}
	all := impl.AllAlarms(l)
	if len(all) != 6000 || impl.CountOf(l) != 6000 {
		t.Fatalf("%d are listed, of %d", len(all), impl.CountOf(l))
	}
	for i := 1; i < len(all); i++ {
		a, b := all[i-1], all[i]
		if setLessAsTold(b.L, a.L) || slices.Equal(a.L, b.L) && a.Start > b.Start {
			t.Fatalf("%+v is ahead of %+v", a, b)
		}
	}
}

// Many parts, and many alarms, are gone through in no more time than they need.
func TestStoresOfMany(t *testing.T) {
	var chains []impl.Chain
	for i := range 30000 {
		chains = append(chains, chain(alarm(0, i, "", "app", impl.NumText(i*7919%30000))))
	}
	l := append(make([]impl.Part, 30000), impl.Part{L: chains})
	all := impl.AllAlarms(l)
	if len(all) != 30000 || !ascendingOnce(all) || impl.CountOf(l) != 30000 || impl.StoreOk(l) {
		t.Errorf("%d are listed, of %d", len(all), impl.CountOf(l))
	}
	if q, fresh := impl.PutAlarm(l, all[0]); !fresh || len(q) != 30001 || impl.CountOf(q) != 30001 {
		t.Errorf("%v, %d", fresh, impl.CountOf(q))
	}
	if _, there := impl.FindAlarm(l, all[0].L); there {
		t.Error("it is found away from home")
	}
}

// roomyStore: parts that are cut out of a greater list, of chains that they share, whose lists are cut likewise (chapter 7).
// All alarms are given, too, and a function that tells whether anything of it, or behind it, was changed.
func roomyStore() ([]impl.Part, []impl.Alarm, func(t *testing.T, what string)) {
	whole, room, check := roomyPart()
	cut := func(chains []impl.Chain) []impl.Part {
		return []impl.Part{
			{Held: 3, Ver: 5, L: chains[:4]},
			{Held: -1, Ver: 0, L: chains[:3]},
			{Held: 9, Ver: -4, L: chains[1:4]},
			{Held: 0, Ver: 7, L: chains[:0]},
			{Held: 4, Ver: 8, L: chains[2:3]},
		}
	}
	parts := cut(whole.L)
	return parts[:4], room, func(t *testing.T, what string) {
		t.Helper()
		check(t, what)
		if want, _, _ := roomyPart(); !sameStores(parts, cut(want.L)) {
			t.Errorf("%s: the parts are now %+v", what, parts)
		}
	}
}

// markParts: as markAll, but of parts, their chains, and the lists of these.
func markParts(l []impl.Part) bool {
	var chains [][]impl.Chain
	var alarms [][]impl.Alarm
	for _, p := range l {
		for _, c := range p.L {
			alarms = append(alarms, c.L)
		}
		chains = append(chains, p.L[:cap(p.L)])
	}
	l = l[:cap(l)]
	for i := range l {
		l[i] = impl.Part{Held: -7 - i, Ver: i}
	}
	for mark, list := range chains {
		for i := range list {
			list[i] = impl.Chain{Finger: 1000*mark + i}
		}
	}
	if !markAll(alarms...) {
		return false
	}
	for i, p := range l {
		if p.Held != -7-i || p.Ver != i || p.L != nil {
			return false
		}
	}
	for mark, list := range chains {
		for i, c := range list {
			if c.Finger != 1000*mark+i || c.L != nil {
				return false
			}
		}
	}
	return true
}

// What PutAlarm answers shares no memory with an argument, nor one of its lists with another, the parts that stay among them.
func TestPutAlarmMakesNewMemory(t *testing.T) {
	for from := range 5 {
		for to := from; to < 5; to++ {
			l, room, check := roomyStore()
			l = l[from:to]
			own := append(slices.Clone(setsByFinger()[20][0]), impl.Label{Name: "behind"})
			kept := slices.Clone(own)
			for _, a := range append(slices.Clone(room), impl.Alarm{L: own[:1], End: 4}, impl.Alarm{L: own[:0]}) {
				q, _ := checkStored(t, l, a)
				check(t, "put")
				if !markParts(q) {
					t.Errorf("%+v, put in %+v: lists of the answer share memory", a, l)
				}
				check(t, "put and marked")
				if !slices.Equal(own, kept) {
					t.Errorf("the alarm's labels are now %q", own)
				}
			}
		}
	}
}

// Nor does what FindAlarm and AllAlarms answer.
func TestFindAlarmAndAllAlarmsMakeNewMemory(t *testing.T) {
	met := 0
	for from := range 5 {
		for to := from; to < 5; to++ {
			l, room, check := roomyStore()
			l = l[from:to]
			for _, a := range append(slices.Clone(room), impl.Alarm{}) {
				got, there := checkFound(t, l, a.L)
				if there {
					met++
				}
				if !markAll([]impl.Alarm{got}) {
					t.Errorf("FindAlarm(%+v, %q)", l, a.L)
				}
				check(t, "found and marked")
			}
			checkAll(t, l)
			if all := impl.AllAlarms(l); !markAll(all) {
				t.Errorf("AllAlarms(%+v): labels share memory", l)
			}
			check(t, "all marked")
		}
	}
	if met < 10 {
		t.Errorf("only %d are found", met)
	}
}

// What lies behind the lists is not read, either.
func TestStoresAreReadToTheirLengthAlone(t *testing.T) {
	sets := setsByFinger()
	whole := append(filled(3, 2), impl.Part{Held: 9})
	l := whole[:3]
	l[2].L = l[2].L[:4]
	l[0].L[1].L = l[0].L[1].L[:1]
	// The Fingers 2, 5, 8 and 11 are left of the part 2, and the first one alone of the Finger 3.
	if !impl.StoreOk(l) || impl.CountOf(l) != 64-2*6-1 || len(impl.AllAlarms(l)) != 51 {
		t.Errorf("%+v is not right", l)
	}
	checkAll(t, l)
	checkNotFound(t, l, sets[14][0], sets[3][1])
	for _, a := range []impl.Alarm{of(sets[14][0], 1, 2, ""), of(sets[3][1], 1, 2, "")} {
		if _, fresh := checkStored(t, l, a); !fresh {
			t.Errorf("%+v is merged with what lies behind", a)
		}
	}
}
