package tests

import (
	"math"
	"slices"
	"testing"

	"loop.example/g00490/impl"
)

// groupsAsTold: GroupsOk in the words of the document, each group against each behind it.
func groupsAsTold(l []impl.Group, by []string) bool {
	if len(l) > 12 {
		return false
	}
	for i, g := range l {
		if !groupAsTold(g, by) {
			return false
		}
		for _, behind := range l[i+1:] {
			if g.N >= behind.N || slices.Equal(g.Key, behind.Key) {
				return false
			}
		}
	}
	return true
}

// groupOfAsTold: GroupOf in the words of the document.
func groupOfAsTold(l []impl.Group, key []impl.Label) int {
	first := -1
	for i := len(l) - 1; i >= 0; i-- {
		if slices.Equal(l[i].Key, key) {
			first = i
		}
	}
	return first
}

// groupAtAsTold: GroupAt in the words of the document.
func groupAtAsTold(l []impl.Group, n int) int {
	first := -1
	for i := len(l) - 1; i >= 0; i-- {
		if l[i].N == n {
			first = i
		}
	}
	return first
}

// joinAllAsTold: JoinAll in the words of the document.
func joinAllAsTold(l []impl.Group, a impl.Alarm, by []string, n, now int) ([]impl.Group, bool) {
	l = keepGroups(l)
	key := projectAsTold(a.L, by)
	if i := groupOfAsTold(l, key); i >= 0 {
		l[i] = joinAsTold(l[i], a)
		return l, false
	}
	return append(l, impl.Group{N: n, Key: key, Born: now, Last: -1, L: []impl.Alarm{keepAlarm(a)}}), true
}

// flushAtAsTold: FlushAt in the words of the document.
func flushAtAsTold(l []impl.Group, n, now int) ([]impl.Group, impl.Batch, bool) {
	l = keepGroups(l)
	i := groupAtAsTold(l, n)
	if i < 0 {
		return l, impl.Batch{}, false
	}
	left, b := flushAsTold(l[i], now)
	if len(left.L) == 0 {
		return slices.Delete(l, i, i+1), b, true
	}
	l[i] = left
	return l, b, true
}

// memberAsTold: MemberOf in the words of the document.
func memberAsTold(l []impl.Group, s []impl.Label) int {
	for _, g := range l {
		for _, a := range g.L {
			if slices.Equal(a.L, s) {
				return g.N
			}
		}
	}
	return -1
}

func sameGroups(a, b []impl.Group) bool {
	return slices.EqualFunc(a, b, sameGroupAsTold)
}

// keepGroups: a copy that shares nothing with the groups, to hold it against later.
func keepGroups(l []impl.Group) []impl.Group {
	var kept []impl.Group
	for _, g := range l {
		kept = append(kept, keepGroup(g))
	}
	return kept
}

// ofApp: a right group by app, whose alarms are of the hosts 1, 2, 3 .. (nine at most), and end then.
func ofApp(n int, app string, ends ...int) impl.Group {
	g := impl.Group{N: n, Key: set("app", app), Born: 3, Last: -1}
	for i, end := range ends {
		g.L = append(g.L, alarm(0, end, "", "app", app, "host", impl.NumText(i+1)))
	}
	return g
}

// threeApps: right groups by app, of a first, a middle and a last number.
func threeApps() []impl.Group {
	return []impl.Group{ofApp(2, "a", 5, 9, 7), ofApp(5, "b", 4), ofApp(9, "c", 6, 6)}
}

// manyApps: right groups by app, of the numbers 0, 2, 4 and so on, of one alarm each.
func manyApps(n int) []impl.Group {
	var l []impl.Group
	for i := range n {
		l = append(l, ofApp(2*i, "x"+impl.NumText(i), i))
	}
	return l
}

// listedGroups: right ones, some of one number, some of one key, some with alarms of one's labels,
// one of an empty key, one of nobody, and such that are not GroupOk.
func listedGroups() []impl.Group {
	return []impl.Group{
		ofApp(2, "a", 5, 9),
		ofApp(5, "b", 4),
		ofApp(2, "b", 6, 6),
		ofApp(7, "a", 8),
		{N: 9, Born: 1, Last: 4, L: []impl.Alarm{alarm(0, 5, "", "host", "1")}},
		{N: 3, Key: set("app", "c"), Last: -1},
		{N: -1, Born: -5, Last: 100000, Key: set("host", "1", "app", "b"), L: []impl.Alarm{alarm(9, 5, "\"", "host", "1", "app", "b"), {}, alarm(0, 5, "", "app", "b", "host", "1")}},
	}
}

// someLists: each short list of these groups, and longer ones.
func someLists() [][]impl.Group {
	return append(allLists(listedGroups(), 3), nil, []impl.Group{}, threeApps(), manyApps(12), manyApps(13), someGroups()[300:330])
}

// joiningAlarms: right ones of several keys, two of them of the same labels, one of no name in by,
// and such that are not AlarmOk.
func joiningAlarms() []impl.Alarm {
	return []impl.Alarm{
		alarm(0, 5, "", "app", "a", "host", "1"),
		alarm(0, 9, "", "app", "a", "host", "2"),
		alarm(0, 4, "", "app", "b", "host", "1"),
		alarm(2, 7, "again", "app", "a", "host", "1"),
		alarm(0, 6, "", "host", "1"),
		alarm(3, 3, "", "job", "scan"),
		alarm(0, 8, "", "app", "b"),
		alarm(8, 5, "\"", "host", "1", "app", "b"),
		{End: 6},
	}
}

// joiningBys: by no name, by one and by two.
func joiningBys() [][]string {
	return [][]string{nil, {}, {"app"}, {"host"}, {"job"}, {"app", "host"}, {"app", "job"}}
}

// checkGroupsOk: that GroupsOk answers as told, and leaves all as it was.
func checkGroupsOk(t *testing.T, l []impl.Group, by []string) bool {
	t.Helper()
	was, wasBy := keepGroups(l), slices.Clone(by)
	got := impl.GroupsOk(l, by)
	if got != groupsAsTold(l, by) {
		t.Fatalf("GroupsOk(%+v, %q) = %v", l, by, got)
	}
	if !sameGroups(l, was) || !slices.Equal(by, wasBy) {
		t.Fatalf("%+v and %q are now %+v and %q", was, wasBy, l, by)
	}
	return got
}

// checkAsked: that what is asked of groups and labels is answered as told, and leaves all as it was.
func checkAsked(t *testing.T, what string, l []impl.Group, s []impl.Label, ask, told func(l []impl.Group, s []impl.Label) int) int {
	t.Helper()
	was, wasS := keepGroups(l), slices.Clone(s)
	got := ask(l, s)
	if want := told(l, s); got != want {
		t.Fatalf("%s(%+v, %q) = %d, not %d", what, l, s, got, want)
	}
	if !sameGroups(l, was) || !slices.Equal(s, wasS) {
		t.Fatalf("%+v and %q are now %+v and %q", was, wasS, l, s)
	}
	return got
}

func checkGroupOf(t *testing.T, l []impl.Group, key []impl.Label) int {
	t.Helper()
	return checkAsked(t, "GroupOf", l, key, impl.GroupOf, groupOfAsTold)
}

func checkMember(t *testing.T, l []impl.Group, s []impl.Label) int {
	t.Helper()
	return checkAsked(t, "MemberOf", l, s, impl.MemberOf, memberAsTold)
}

// checkGroupAt: that GroupAt answers as told, and leaves the groups as they were.
func checkGroupAt(t *testing.T, l []impl.Group, n int) int {
	t.Helper()
	was := keepGroups(l)
	got := impl.GroupAt(l, n)
	if want := groupAtAsTold(l, n); got != want {
		t.Fatalf("GroupAt(%+v, %d) = %d, not %d", l, n, got, want)
	}
	if !sameGroups(l, was) {
		t.Fatalf("%+v are now %+v", was, l)
	}
	return got
}

// checkJoinAll: that JoinAll answers as told, and leaves all as it was.
func checkJoinAll(t *testing.T, l []impl.Group, a impl.Alarm, by []string, n, now int) ([]impl.Group, bool) {
	t.Helper()
	was, wasA, wasBy := keepGroups(l), keepAlarm(a), slices.Clone(by)
	got, isNew := impl.JoinAll(l, a, by, n, now)
	if want, wantNew := joinAllAsTold(l, a, by, n, now); !sameGroups(got, want) || isNew != wantNew {
		t.Fatalf("JoinAll(%+v, %+v, %q, %d, %d) = %+v, %v, not %+v, %v", l, a, by, n, now, got, isNew, want, wantNew)
	}
	if !sameGroups(l, was) || !sameAsTold(a, wasA) || !slices.Equal(by, wasBy) {
		t.Fatalf("%+v, %+v and %q are now %+v, %+v and %q", was, wasA, wasBy, l, a, by)
	}
	return got, isNew
}

// checkFlushAt: that FlushAt answers as told, and leaves the groups as they were.
func checkFlushAt(t *testing.T, l []impl.Group, n, now int) ([]impl.Group, impl.Batch, bool) {
	t.Helper()
	was := keepGroups(l)
	got, b, there := impl.FlushAt(l, n, now)
	if want, wantB, wantThere := flushAtAsTold(l, n, now); !sameGroups(got, want) || !sameBatchAsTold(b, wantB) || there != wantThere {
		t.Fatalf("FlushAt(%+v, %d, %d) = %+v, %+v, %v, not %+v, %+v, %v", l, n, now, got, b, there, want, wantB, wantThere)
	}
	if !sameGroups(l, was) {
		t.Fatalf("%+v are now %+v", was, l)
	}
	return got, b, there
}

// checkOthersStay: that beside the group at this place all stand as they stood.
func checkOthersStay(t *testing.T, was, l []impl.Group, place int) {
	t.Helper()
	for i, g := range was {
		if i != place && (i >= len(l) || !sameGroupAsTold(l[i], g)) {
			t.Fatalf("of %+v there stands %+v, and %d is not as it was", was, l, i)
		}
	}
}

// joinedAll: the groups that all of l have joined, of the numbers 0, 1, 2 .. from 5 on,
// where each one joins that of its key, and the others stay.
func joinedAll(t *testing.T, l []impl.Alarm, by []string) []impl.Group {
	t.Helper()
	var groups []impl.Group
	for i, a := range l {
		got, isNew := checkJoinAll(t, groups, a, by, i, 5+i)
		place := groupOfAsTold(groups, projectAsTold(a.L, by))
		if isNew != (place < 0) || isNew != (len(got) == len(groups)+1) || !isNew && len(got) != len(groups) {
			t.Fatalf("%+v, joined by %+v by %q: %+v, %v", groups, a, by, got, isNew)
		}
		checkOthersStay(t, groups, got, place)
		groups = got
	}
	return groups
}

// checkEachInItsOwn: that just these alarms are in the groups, each once, in the group of its key alone,
// and that there are no two groups of one key.
func checkEachInItsOwn(t *testing.T, groups []impl.Group, l []impl.Alarm, by []string) {
	t.Helper()
	many := 0
	for i, g := range groups {
		many += len(g.L)
		for _, other := range groups[i+1:] {
			if slices.Equal(g.Key, other.Key) {
				t.Fatalf("two of one key: %+v", groups)
			}
		}
	}
	if many != len(l) {
		t.Fatalf("%d alarms are in %+v, not %+v", many, groups, l)
	}
	for _, a := range l {
		key := projectAsTold(a.L, by)
		for _, g := range groups {
			is := slices.ContainsFunc(g.L, func(b impl.Alarm) bool { return slices.Equal(a.L, b.L) })
			stays := slices.ContainsFunc(g.L, func(b impl.Alarm) bool { return sameAsTold(a, b) })
			if own := slices.Equal(g.Key, key); is != own || stays != own {
				t.Fatalf("%+v is, or is not, by %q in %+v", a, by, g)
			}
		}
		place := checkGroupOf(t, groups, key)
		if place < 0 || checkMember(t, groups, a.L) != groups[place].N || checkGroupAt(t, groups, groups[place].N) != place {
			t.Fatalf("%+v is not found by %q in %+v", a, by, groups)
		}
	}
}

// Promise 12: whatever alarms join, each is in the group of its key alone, as it joined last.
func TestPromise12EachAlarmJoinsTheGroupOfItsKey(t *testing.T) {
	met := map[int]int{}
	for _, by := range joiningBys() {
		for _, l := range allLists(joiningAlarms(), 3) {
			groups, last := joinedAll(t, l, by), lastOfEach(l)
			met[len(groups)]++
			checkEachInItsOwn(t, groups, last, by)
			right := !slices.ContainsFunc(l, func(a impl.Alarm) bool { return !alarmAsTold(a) })
			if got := checkGroupsOk(t, groups, by); right && !got {
				t.Fatalf("%+v joined by %q: %+v is not right", l, by, groups)
			}
			for i, g := range groups {
				// Born with the first one of its key, which it has its number of.
				if !slices.Equal(projectAsTold(l[g.N].L, by), g.Key) || g.Born != 5+g.N || g.Last != -1 || i > 0 && groups[i-1].N >= g.N {
					t.Fatalf("%+v joined by %q: %+v", l, by, groups)
				}
			}
		}
	}
	for n := range 4 {
		if met[n] == 0 {
			t.Errorf("never are there %d groups: %v", n, met)
		}
	}
}

// Promise 12, in every order in which six join, of which one is of the labels of another one.
func TestPromise12InEveryOrder(t *testing.T) {
	for _, by := range joiningBys() {
		l, met := joiningAlarms()[:6], 0
		inEveryOrder(l, 0, func() {
			met++
			groups := joinedAll(t, l, by)
			checkEachInItsOwn(t, groups, lastOfEach(l), by)
			if !checkGroupsOk(t, groups, by) {
				t.Fatalf("%+v joined by %q: %+v is not right", l, by, groups)
			}
			for _, g := range groups {
				left, b, _ := checkFlushAt(t, groups, g.N, 6)
				// What is sent on is all of the one group.
				if !sameAlarms(b.L, g.L) || !slices.Equal(b.Key, g.Key) || b.N != g.N {
					t.Fatalf("of %+v there is sent on %+v", groups, b)
				}
				if gone := len(notOver(g.L, 6)) == 0; gone != (len(left) < len(groups)) {
					t.Fatalf("of %+v, sent on by %d, there is left %+v", groups, g.N, left)
				}
			}
		})
		if met != 720 {
			t.Errorf("%d orders", met)
		}
	}
}

// Promise 12, where alarms join and are sent on by turns, in every order of eight turns.
func TestPromise12ByTurns(t *testing.T) {
	alarms, met := joiningAlarms()[:7], map[int]int{}
	for _, by := range joiningBys() {
		for turns := range 1 << 8 {
			var groups []impl.Group
			var stood []impl.Alarm
			for i := range 8 {
				now := 3 + i
				if turns>>i&1 == 1 || len(groups) == 0 {
					a := alarms[(turns+i*3)%len(alarms)]
					a.Start, a.End = now, now+1+i%3
					groups, _ = checkJoinAll(t, groups, a, by, i, now)
					stood = lastOfEach(append(stood, a))
				} else {
					g := groups[(turns+i)%len(groups)]
					left, b, there := checkFlushAt(t, groups, g.N, now)
					if !there || !sameAlarms(b.L, g.L) {
						t.Fatalf("of %+v there is sent on %+v", groups, b)
					}
					stood = slices.DeleteFunc(stood, func(a impl.Alarm) bool {
						return a.End <= now && slices.Equal(projectAsTold(a.L, by), g.Key)
					})
					met[len(groups)-len(left)]++
					groups = left
				}
				checkEachInItsOwn(t, groups, stood, by)
				if !checkGroupsOk(t, groups, by) {
					t.Fatalf("turns %b, %d, by %q: %+v", turns, i, by, groups)
				}
			}
		}
	}
	if met[0] < 500 || met[1] < 500 || len(met) != 2 {
		t.Errorf("so many are gone: %v", met)
	}
}

// Who has nobody any more is gone, at whichever place, and no other one is, not even one all of whose are over.
func TestPromise12WhoHasNobodyIsGone(t *testing.T) {
	by := []string{"app"}
	for n := 1; n <= 12; n++ {
		for place := range n {
			l := manyApps(n)
			l[place] = ofApp(2*place, "x"+impl.NumText(place), 19, 20, 18)
			for now := 17; now <= 21; now++ {
				left, b, there := checkFlushAt(t, l, 2*place, now)
				if !there || len(b.L) != 3 || b.N != 2*place || b.Now != now {
					t.Fatalf("of %+v there is sent on %+v", l, b)
				}
				if now < 20 {
					if len(left) != n || left[place].Last != now || !checkGroupsOk(t, left, by) {
						t.Fatalf("of %+v, sent on at %d, there is left %+v", l, now, left)
					}
					checkOthersStay(t, l, left, place)
					continue
				}
				if want := slices.Delete(keepGroups(l), place, place+1); !sameGroups(left, want) || !checkGroupsOk(t, left, by) {
					t.Fatalf("of %+v, sent on at %d, there is left %+v", l, now, left)
				}
			}
		}
	}
}

// One whose key no group has makes one anew, last: into none, and behind one, several, and MaxGroups but one.
func TestPromise12AGroupThatIsMadeAnew(t *testing.T) {
	for _, n := range []int{0, 1, 2, 3, 11} {
		l := manyApps(n)
		a := alarm(4, 8, "new", "app", "new", "host", "1")
		for _, x := range []struct {
			by  []string
			key []impl.Label
		}{
			{[]string{"app"}, set("app", "new")},
			{[]string{"host"}, set("host", "1")},
			{[]string{"app", "host"}, set("app", "new", "host", "1")},
			{[]string{"app", "job"}, set("app", "new")},
			{[]string{"job"}, nil},
			{[]string{"job", "zone"}, nil},
			{[]string{}, nil},
			{nil, nil},
		} {
			got, isNew := checkJoinAll(t, l, a, x.by, 30, 7)
			if !isNew || len(got) != n+1 {
				t.Fatalf("%+v, joined by %q: %+v", l, x.by, got)
			}
			g := got[n]
			if g.N != 30 || g.Born != 7 || g.Last != -1 || !slices.Equal(g.Key, x.key) || len(g.L) != 1 || !sameAsTold(g.L[0], a) {
				t.Errorf("by %q there is made anew: %+v", x.by, g)
			}
			checkOthersStay(t, l, got, n)
			if !checkGroupOk(t, g, x.by) || checkGroupOf(t, got, x.key) != n || checkMember(t, got, a.L) != 30 {
				t.Errorf("by %q there is made anew: %+v", x.by, g)
			}
			if slices.Equal(x.by, []string{"app"}) && !checkGroupsOk(t, got, x.by) {
				t.Errorf("%+v are not right", got)
			}
		}
	}
}

// One of a key whose group is gone makes it anew: of another number, born then, never sent on.
func TestPromise12AGroupThatWasGone(t *testing.T) {
	by := []string{"app"}
	for place, app := range []string{"a", "b", "c"} {
		l := threeApps()
		l, _, _ = checkFlushAt(t, l, l[place].N, 9)
		if len(l) != 2 || checkGroupOf(t, l, set("app", app)) != -1 {
			t.Fatalf("there is left %+v", l)
		}
		a := alarm(0, 20, "", "app", app, "host", "2")
		got, isNew := checkJoinAll(t, l, a, by, 10, 11)
		if !isNew || len(got) != 3 || !sameGroupAsTold(got[2], impl.Group{N: 10, Key: set("app", app), Born: 11, Last: -1, L: []impl.Alarm{a}}) {
			t.Errorf("made anew: %+v", got)
		}
		checkOthersStay(t, l, got, 2)
		if !checkGroupsOk(t, got, by) || impl.NextDue(got[2], 2, 5) != 13 || checkMember(t, got, set("app", app, "host", "1")) != -1 {
			t.Errorf("made anew: %+v", got)
		}
	}
	// One that is sent on, but has somebody yet, is not made anew.
	l, _, _ := checkFlushAt(t, threeApps(), 2, 5)
	got, isNew := checkJoinAll(t, l, alarm(0, 20, "", "app", "a", "host", "1"), by, 10, 11)
	if isNew || len(got) != 3 || got[0].N != 2 || got[0].Born != 3 || got[0].Last != 5 || hostsOf(got[0]) != "1-20 2-9 3-7 " {
		t.Errorf("joined: %+v", got)
	}
}

// Of one of a key that stands the number and the now are not looked at.
func TestPromise12AGroupThatStands(t *testing.T) {
	by := []string{"app"}
	for place, app := range []string{"a", "b", "c"} {
		for _, n := range []int{math.MinInt, -1, 0, 2, 5, 9, 10, math.MaxInt} {
			for _, now := range someTimes() {
				got, isNew := checkJoinAll(t, threeApps(), alarm(0, 20, "", "app", app, "host", "0"), by, n, now)
				if isNew || len(got) != 3 || !checkGroupsOk(t, got, by) {
					t.Fatalf("joined with %d at %d: %+v, %v", n, now, got, isNew)
				}
				g, was := got[place], threeApps()[place]
				if g.N != was.N || g.Born != 3 || g.Last != -1 || !slices.Equal(g.Key, was.Key) || len(g.L) != len(was.L)+1 || g.L[0].End != 20 {
					t.Errorf("joined with %d at %d: %+v", n, now, g)
				}
				checkOthersStay(t, threeApps(), got, place)
			}
		}
	}
}

// By no name all join one group, and so do those without labels of the names in by.
func TestPromise12AnEmptyKey(t *testing.T) {
	l := joiningAlarms()[:6]
	for _, by := range [][]string{nil, {}, {"zone"}, {"a", "zone"}} {
		groups := joinedAll(t, l, by)
		if len(groups) != 1 || groups[0].N != 0 || len(groups[0].Key) != 0 || len(groups[0].L) != 5 || checkGroupOf(t, groups, nil) != 0 {
			t.Errorf("joined by %q: %+v", by, groups)
		}
	}
	groups := joinedAll(t, append(l, alarm(0, 1, "", "zone", "x")), []string{"app"})
	place := checkGroupOf(t, groups, []impl.Label{})
	if len(groups) != 3 || place != 2 || groups[2].N != 4 || len(groups[2].L) != 3 || !checkGroupsOk(t, groups, []string{"app"}) {
		t.Errorf("joined by app: %+v", groups)
	}
}

func TestMaxGroups(t *testing.T) {
	if impl.MaxGroups != 12 {
		t.Errorf("MaxGroups = %d", impl.MaxGroups)
	}
	by := []string{"app"}
	for n := range 20 {
		if got := checkGroupsOk(t, manyApps(n), by); got != (n <= impl.MaxGroups) {
			t.Errorf("GroupsOk of %d = %v", n, got)
		}
	}
	// That there are MaxGroups, or more, is no refusal of JoinAll.
	for n := 11; n < 16; n++ {
		l := manyApps(n)
		got, isNew := checkJoinAll(t, l, alarm(0, 9, "", "app", "new"), by, 99, 5)
		if !isNew || len(got) != n+1 || checkGroupsOk(t, got, by) != (n == 11) {
			t.Errorf("%d, joined by one of another key: %d, %v", n, len(got), isNew)
		}
		got, isNew = checkJoinAll(t, l, alarm(0, 9, "", "app", "x10"), by, 99, 5)
		if isNew || len(got) != n || checkGroupsOk(t, got, by) != (n <= 12) {
			t.Errorf("%d, joined by one of a key there: %d, %v", n, len(got), isNew)
		}
		if got, _, there := checkFlushAt(t, l, 20, 10); !there || len(got) != n-1 || checkGroupsOk(t, got, by) != (n <= 13) {
			t.Errorf("%d, of which one is sent on: %d, %v", n, len(got), there)
		}
	}
}

func TestGroupsOk(t *testing.T) {
	for name, x := range map[string]struct {
		change func(l []impl.Group) []impl.Group
		want   bool
	}{
		"as they are":       {func(l []impl.Group) []impl.Group { return l }, true},
		"nil":               {func(l []impl.Group) []impl.Group { return nil }, true},
		"none":              {func(l []impl.Group) []impl.Group { return l[:0] }, true},
		"the first":         {func(l []impl.Group) []impl.Group { return l[:1] }, true},
		"the last":          {func(l []impl.Group) []impl.Group { return l[2:] }, true},
		"the first two":     {func(l []impl.Group) []impl.Group { return l[:2] }, true},
		"without a middle":  {func(l []impl.Group) []impl.Group { return slices.Delete(l, 1, 2) }, true},
		"neighbours":        {func(l []impl.Group) []impl.Group { l[0].N, l[1].N, l[2].N = 0, 1, 2; return l }, true},
		"of far numbers":    {func(l []impl.Group) []impl.Group { l[2].N = math.MaxInt; return l }, true},
		"keys descend":      {func(l []impl.Group) []impl.Group { l[0].N, l[2].N = 9, 2; slices.Reverse(l); return l }, true},
		"backwards":         {func(l []impl.Group) []impl.Group { slices.Reverse(l); return l }, false},
		"first two swapped": {func(l []impl.Group) []impl.Group { l[0], l[1] = l[1], l[0]; return l }, false},
		"last two swapped":  {func(l []impl.Group) []impl.Group { l[1], l[2] = l[2], l[1]; return l }, false},
		"the first twice":   {func(l []impl.Group) []impl.Group { return append(l, l[0]) }, false},
		"the last twice":    {func(l []impl.Group) []impl.Group { return append(l, l[2]) }, false},
		"one of no number":  {func(l []impl.Group) []impl.Group { l[0].N = -1; return l }, false},
		"zero ones":         {func(l []impl.Group) []impl.Group { return make([]impl.Group, 2) }, false},
		"one zero one":      {func(l []impl.Group) []impl.Group { return make([]impl.Group, 1) }, false},
	} {
		l := x.change(threeApps())
		if got := checkGroupsOk(t, l, []string{"app"}); got != x.want {
			t.Errorf("%s: GroupsOk(%+v) = %v", name, l, got)
		}
	}
}

// One that is not GroupOk is enough, at the first, a middle and the last place.
func TestGroupsOkWithOneThatIsNotRight(t *testing.T) {
	for name, change := range map[string]func(g *impl.Group){
		"no alarms":        func(g *impl.Group) { g.L = nil },
		"born below 0":     func(g *impl.Group) { g.Born = -1 },
		"born past end":    func(g *impl.Group) { g.Born = 100000 },
		"last below never": func(g *impl.Group) { g.Last = -2 },
		"last below born":  func(g *impl.Group) { g.Last = 2 },
		"last past end":    func(g *impl.Group) { g.Last = 100000 },
		"no key":           func(g *impl.Group) { g.Key = nil },
		"another key":      func(g *impl.Group) { g.Key = set("app", "z") },
		"no SetOk as key":  func(g *impl.Group) { g.Key = append(g.Key, g.Key[0]) },
		"alarm of another": func(g *impl.Group) { g.L = append(g.L, alarm(0, 9, "", "app", "z")) },
		"an alarm twice":   func(g *impl.Group) { g.L = append(g.L, g.L[len(g.L)-1]) },
		"no AlarmOk":       func(g *impl.Group) { g.L[0].End = -1 },
		"no labels":        func(g *impl.Group) { g.L[0].L = nil },
	} {
		for n := 1; n <= 12; n++ {
			for place := range n {
				l := manyApps(n)
				change(&l[place])
				if checkGroupsOk(t, l, []string{"app"}) {
					t.Errorf("%s at %d of %d: %+v are right", name, place, n, l)
				}
			}
		}
	}
}

// Two of one number, or of numbers that descend, or of one key, are enough, neighbours or not.
func TestGroupsOkOfTwoThatDoNotGoTogether(t *testing.T) {
	by := []string{"app"}
	for n := 2; n <= 12; n++ {
		for behind := 1; behind < n; behind++ {
			for ahead := range behind {
				l := manyApps(n)
				l[behind].N = l[ahead].N
				if checkGroupsOk(t, l, by) {
					t.Errorf("%d and %d of %d of one number are right", ahead, behind, n)
				}
				l = manyApps(n)
				l[ahead].N, l[behind].N = l[behind].N, l[ahead].N
				if checkGroupsOk(t, l, by) {
					t.Errorf("%d and %d of %d, swapped, are right", ahead, behind, n)
				}
				l = manyApps(n)
				l[behind].Key, l[behind].L = l[ahead].Key, l[ahead].L
				if checkGroupsOk(t, l, by) {
					t.Errorf("%d and %d of %d of one key are right", ahead, behind, n)
				}
				// One of one key, whose alarm is another one.
				l[behind].L = []impl.Alarm{alarm(0, 9, "", "app", "x"+impl.NumText(ahead), "host", "2")}
				if checkGroupsOk(t, l, by) {
					t.Errorf("%d and %d of %d of one key are right", ahead, behind, n)
				}
			}
		}
	}
	empty := []impl.Group{{N: 1, Key: nil, Last: -1, L: members(5)}, {N: 2, Key: []impl.Label{}, Last: -1, L: members(6)}}
	if checkGroupsOk(t, empty, nil) || !checkGroupsOk(t, empty[:1], nil) || !checkGroupsOk(t, empty[1:], nil) {
		t.Error("of two of an empty key")
	}
}

func TestGroupsOkOfSomeLists(t *testing.T) {
	met := map[bool]int{}
	for _, l := range someLists() {
		for _, by := range append(someBys()[:20], nil, []string{"app", "host"}) {
			met[checkGroupsOk(t, l, by)]++
		}
	}
	if met[true] < 50 || met[false] < 1000 {
		t.Errorf("%d are right, %d are not", met[true], met[false])
	}
}

func TestGroupOf(t *testing.T) {
	l := append(threeApps(), impl.Group{N: 12, L: members(5)}, ofApp(13, "b", 5), impl.Group{N: 14, Key: []impl.Label{}}, ofApp(15, "d"))
	for _, x := range []struct {
		l    []impl.Group
		key  []impl.Label
		want int
	}{
		{nil, nil, -1},
		{nil, set("app", "a"), -1},
		{l[:0], set("app", "a"), -1},
		{l, set("app", "a"), 0},
		{l, set("app", "b"), 1},
		{l, set("app", "c"), 2},
		{l, set("app", "d"), 6},
		{l, nil, 3},
		{l, []impl.Label{}, 3},
		{l[4:], nil, 1},
		{l[2:], set("app", "b"), 2},
		{l[:3], set("app", "d"), -1},
		{l[:3], nil, -1},
		{l[1:3], set("app", "a"), -1},
		{l, set("app", ""), -1},
		{l, set("app", "A"), -1},
		{l, set("app", "ab"), -1},
		{l, set("host", "a"), -1},
		{l, set("app", "a", "host", "1"), -1},
		{l, set("app", "a", "app", "a"), -1},
		{l, []impl.Label{{}}, -1},
		{[]impl.Group{{}}, nil, 0},
		{[]impl.Group{{}}, []impl.Label{{}}, -1},
		{[]impl.Group{{Key: []impl.Label{{}}}, {Key: set("z", "", "a", "\"")}}, set("z", "", "a", "\""), 1},
		{[]impl.Group{{Key: set("z", "", "a", "")}}, set("a", "", "z", ""), -1},
		{[]impl.Group{{Key: set("a", "1", "b", "2")}, {Key: set("a", "1")}}, set("a", "1"), 1},
	} {
		if got := checkGroupOf(t, x.l, x.key); got != x.want {
			t.Errorf("GroupOf(%+v, %q) = %d, not %d", x.l, x.key, got, x.want)
		}
	}
}

func TestGroupAt(t *testing.T) {
	l := append(threeApps(), ofApp(5, "d", 5), ofApp(-1, "e", 5), ofApp(math.MaxInt, "f"), impl.Group{N: math.MinInt})
	for _, x := range []struct {
		l       []impl.Group
		n, want int
	}{
		{nil, 0, -1},
		{nil, -1, -1},
		{l[:0], 2, -1},
		{l, 2, 0},
		{l, 5, 1},
		{l, 9, 2},
		{l[2:], 5, 1},
		{l, -1, 4},
		{l, math.MaxInt, 5},
		{l, math.MinInt, 6},
		{l[:3], -1, -1},
		{l[:3], math.MinInt, -1},
		{l[:3], math.MaxInt, -1},
		{l[:3], 0, -1},
		{l[:3], 1, -1},
		{l[:3], 3, -1},
		{l[:3], -2, -1},
		{l[:3], -5, -1},
		{l[1:3], 2, -1},
		{[]impl.Group{{}}, 0, 0},
		{[]impl.Group{{}, {}}, 0, 0},
		{[]impl.Group{{N: 1}, {}}, 0, 1},
	} {
		if got := checkGroupAt(t, x.l, x.n); got != x.want {
			t.Errorf("GroupAt(%+v, %d) = %d, not %d", x.l, x.n, got, x.want)
		}
	}
}

func TestGroupOfAndGroupAtOfSomeLists(t *testing.T) {
	keys := append(unlikeKeys(), set("app", "a"), set("app", "c"), set("host", "1", "app", "b"), set("app", "b", "host", "1"))
	of, at := map[int]int{}, map[int]int{}
	for _, l := range someLists() {
		for _, key := range keys {
			of[checkGroupOf(t, l, key)]++
		}
		for _, n := range []int{math.MinInt, -2, -1, 0, 1, 2, 3, 5, 7, 9, 12, math.MaxInt} {
			at[checkGroupAt(t, l, n)]++
		}
	}
	for place := -1; place < 3; place++ {
		if of[place] == 0 || at[place] == 0 {
			t.Errorf("never is it at %d: %v, %v", place, of, at)
		}
	}
}

// appsOf: of each group the app of its key, its number and its alarms, put together.
func appsOf(l []impl.Group) string {
	text := ""
	for _, g := range l {
		app, _ := impl.ValOf(g.Key, "app")
		text += app + impl.NumText(g.N) + ": " + hostsOf(g)
	}
	return text
}

func TestJoinAll(t *testing.T) {
	twice := append(threeApps(), ofApp(9, "b", 3), ofApp(1, "a"))
	for _, x := range []struct {
		l     []impl.Group
		a     impl.Alarm
		want  string
		isNew bool
	}{
		{nil, alarm(0, 8, "", "app", "a", "host", "2"), "a30: 2-8 ", true},
		{[]impl.Group{}, alarm(0, 8, "", "app", "a", "host", "2"), "a30: 2-8 ", true},
		{threeApps(), alarm(0, 8, "", "app", "a", "host", "2"), "a2: 1-5 2-8 3-7 b5: 1-4 c9: 1-6 2-6 ", false},
		{threeApps(), alarm(0, 8, "", "app", "a", "host", "25"), "a2: 1-5 2-9 25-8 3-7 b5: 1-4 c9: 1-6 2-6 ", false},
		{threeApps(), alarm(0, 8, "", "app", "b", "host", "2"), "a2: 1-5 2-9 3-7 b5: 1-4 2-8 c9: 1-6 2-6 ", false},
		{threeApps(), alarm(0, 8, "", "app", "b"), "a2: 1-5 2-9 3-7 b5: -8 1-4 c9: 1-6 2-6 ", false},
		{threeApps(), alarm(0, 8, "", "app", "c", "host", "2"), "a2: 1-5 2-9 3-7 b5: 1-4 c9: 1-6 2-8 ", false},
		{threeApps(), alarm(0, 8, "", "app", "d", "host", "2"), "a2: 1-5 2-9 3-7 b5: 1-4 c9: 1-6 2-6 d30: 2-8 ", true},
		{threeApps(), alarm(0, 8, "", "host", "2"), "a2: 1-5 2-9 3-7 b5: 1-4 c9: 1-6 2-6 30: 2-8 ", true},
		{threeApps()[1:], alarm(0, 8, "", "app", "a", "host", "2"), "b5: 1-4 c9: 1-6 2-6 a30: 2-8 ", true},
		// Not GroupsOk: two of the key, of which the first one is joined, and one of nobody.
		{twice, alarm(0, 8, "", "app", "b", "host", "1"), "a2: 1-5 2-9 3-7 b5: 1-8 c9: 1-6 2-6 b9: 1-3 a1: ", false},
		{twice[2:], alarm(0, 8, "", "app", "b", "host", "1"), "c9: 1-6 2-6 b9: 1-8 a1: ", false},
		{twice[3:], alarm(0, 8, "", "app", "a", "host", "1"), "b9: 1-3 a1: 1-8 ", false},
		{[]impl.Group{{N: -7}}, alarm(0, 8, "", "host", "1"), "-7: 1-8 ", false},
		{[]impl.Group{{N: -7}}, alarm(0, 8, "", "app", "a"), "-7: a30: -8 ", true},
		// Of a number that is there: nothing is asked of it.
		{[]impl.Group{ofApp(30, "b", 4)}, alarm(0, 8, "", "app", "a"), "b30: 1-4 a30: -8 ", true},
		{[]impl.Group{ofApp(50, "b", 4)}, alarm(0, 8, "", "app", "a"), "b50: 1-4 a30: -8 ", true},
		// Alarms that are not AlarmOk.
		{threeApps(), impl.Alarm{End: 8}, "a2: 1-5 2-9 3-7 b5: 1-4 c9: 1-6 2-6 30: -8 ", true},
		{threeApps(), alarm(9, -8, "\"", "host", "0", "app", "b"), "a2: 1-5 2-9 3-7 b5: 1-4 0--8 c9: 1-6 2-6 ", false},
		{threeApps(), alarm(0, 8, "", "app", "a", "app", "a"), "a2: 1-5 2-9 3-7 b5: 1-4 c9: 1-6 2-6 a30: -8 ", true},
	} {
		got, isNew := checkJoinAll(t, x.l, x.a, []string{"app"}, 30, 4)
		if appsOf(got) != x.want || isNew != x.isNew {
			t.Errorf("JoinAll(%+v, %+v) = %s, %v", x.l, x.a, appsOf(got), isNew)
		}
	}
}

// A new one is of the number and the time that are handed in, whatever they are.
func TestJoinAllOfAnyNumbers(t *testing.T) {
	for _, l := range [][]impl.Group{nil, threeApps()} {
		for _, n := range someTimes() {
			for _, now := range someTimes() {
				got, isNew := checkJoinAll(t, l, alarm(0, 8, "", "app", "z"), []string{"app"}, n, now)
				if g := got[len(got)-1]; !isNew || g.N != n || g.Born != now || g.Last != -1 {
					t.Errorf("of %d and %d: %+v", n, now, g)
				}
			}
		}
	}
}

func TestJoinAllOfSomeLists(t *testing.T) {
	met := map[bool]int{}
	for _, l := range someLists() {
		for _, a := range joiningAlarms() {
			for _, by := range [][]string{nil, {"app"}, {"host"}, {"app", "host"}, {"host", "app"}, {"app", "app"}, {"App", ""}} {
				got, isNew := checkJoinAll(t, l, a, by, 3, 8)
				met[isNew]++
				// What joins again makes none, and stands where it stood.
				if again, isNew := checkJoinAll(t, got, a, by, 4, 9); isNew || !sameGroups(again, got) {
					t.Fatalf("%+v, joined by %+v again by %q: %+v", got, a, by, again)
				}
			}
		}
	}
	if met[true] < 1000 || met[false] < 1000 {
		t.Errorf("%d are new, %d are not", met[true], met[false])
	}
}

func TestFlushAt(t *testing.T) {
	twice := append(threeApps(), ofApp(5, "d", 3, 9), ofApp(5, "e", 9), ofApp(-1, "f", 9, 1))
	nobody := []impl.Group{{N: 1, Key: set("app", "g"), Born: 2, Last: 3}, ofApp(3, "a", 9)}
	const all = "a2: 1-5 2-9 3-7 b5: 1-4 c9: 1-6 2-6 "
	for _, x := range []struct {
		l      []impl.Group
		n, now int
		want   string
		batch  int
		there  bool
	}{
		{nil, 0, 5, "", 0, false},
		{[]impl.Group{}, 0, 5, "", 0, false},
		// The first: all are left, two, one, and nobody.
		{threeApps(), 2, 4, all, 3, true},
		{threeApps(), 2, 5, "a2: 2-9 3-7 b5: 1-4 c9: 1-6 2-6 ", 3, true},
		{threeApps(), 2, 7, "a2: 2-9 b5: 1-4 c9: 1-6 2-6 ", 3, true},
		{threeApps(), 2, 9, "b5: 1-4 c9: 1-6 2-6 ", 3, true},
		// A middle one.
		{threeApps(), 5, 3, all, 1, true},
		{threeApps(), 5, 4, "a2: 1-5 2-9 3-7 c9: 1-6 2-6 ", 1, true},
		// The last.
		{threeApps(), 9, 5, all, 2, true},
		{threeApps(), 9, 6, "a2: 1-5 2-9 3-7 b5: 1-4 ", 2, true},
		// Numbers that are not there.
		{threeApps(), 0, 99, all, 0, false},
		{threeApps(), 1, 99, all, 0, false},
		{threeApps(), 3, 99, all, 0, false},
		{threeApps(), 10, 99, all, 0, false},
		{threeApps(), -1, 99, all, 0, false},
		{threeApps(), math.MinInt, 99, all, 0, false},
		{threeApps(), math.MaxInt, 99, all, 0, false},
		// At a now that is no time.
		{threeApps(), 2, -1, all, 3, true},
		{threeApps(), 2, math.MinInt, all, 3, true},
		{threeApps(), 2, 100000, "b5: 1-4 c9: 1-6 2-6 ", 3, true},
		{threeApps(), 9, math.MaxInt, "a2: 1-5 2-9 3-7 b5: 1-4 ", 2, true},
		// Two of the number, of which the first one is sent on, and one below 0.
		{twice, 5, 4, "a2: 1-5 2-9 3-7 c9: 1-6 2-6 d5: 1-3 2-9 e5: 1-9 f-1: 1-9 2-1 ", 1, true},
		{twice[2:], 5, 4, "c9: 1-6 2-6 d5: 2-9 e5: 1-9 f-1: 1-9 2-1 ", 2, true},
		{twice[2:], -1, 4, "c9: 1-6 2-6 d5: 1-3 2-9 e5: 1-9 f-1: 1-9 ", 2, true},
		{twice[:2], 2, 99, "b5: 1-4 ", 3, true},
		{twice[:1], 2, 99, "", 3, true},
		// One that has nobody already.
		{nobody, 1, 5, "a3: 1-9 ", 0, true},
		{nobody, 1, -5, "a3: 1-9 ", 0, true},
		{nobody, 3, 9, "g1: ", 1, true},
		{nobody, 3, 8, "g1: a3: 1-9 ", 1, true},
		{[]impl.Group{{}}, 0, 5, "", 0, true},
		{[]impl.Group{{}}, 1, 5, "0: ", 0, false},
	} {
		got, b, there := checkFlushAt(t, x.l, x.n, x.now)
		if appsOf(got) != x.want || len(b.L) != x.batch || there != x.there {
			t.Errorf("FlushAt(%+v, %d, %d) = %s, %+v, %v", x.l, x.n, x.now, appsOf(got), b, there)
		}
		if want := (impl.Batch{}); !there && !sameBatchAsTold(b, want) || there && (b.N != x.n || b.Now != x.now) {
			t.Errorf("FlushAt(%+v, %d, %d): %+v", x.l, x.n, x.now, b)
		}
		if place := groupAtAsTold(got, x.n); there && len(got) == len(x.l) && got[place].Last != x.now {
			t.Errorf("FlushAt(%+v, %d, %d) = %+v", x.l, x.n, x.now, got)
		}
	}
}

func TestFlushAtOfSomeLists(t *testing.T) {
	met := map[int]int{}
	for _, l := range someLists() {
		for _, n := range []int{math.MinInt, -1, 0, 2, 3, 5, 7, 9, 22} {
			for _, now := range someTimes() {
				got, b, there := checkFlushAt(t, l, n, now)
				met[len(l)-len(got)]++
				if !there && !sameGroups(got, l) || there && len(got) == len(l) && len(b.L) == 0 {
					t.Fatalf("FlushAt(%+v, %d, %d) = %+v, %+v", l, n, now, got, b)
				}
			}
		}
	}
	if met[0] < 1000 || met[1] < 1000 || len(met) != 2 {
		t.Errorf("so many are gone: %v", met)
	}
}

// All are sent on, one behind the other, in whatever order, until nobody is there.
func TestAllAreSentOn(t *testing.T) {
	by, ns := []string{"app"}, []int{2, 5, 9}
	inEveryOrder(ns, 0, func() {
		l, sent := threeApps(), 0
		for _, n := range ns {
			left, b, there := checkFlushAt(t, l, n, 9)
			if !there || len(left) != len(l)-1 || !checkGroupsOk(t, left, by) || checkGroupAt(t, left, n) != -1 {
				t.Fatalf("of %+v, sent on by %d, there is left %+v", l, n, left)
			}
			for _, a := range b.L {
				if checkMember(t, l, a.L) != n || checkMember(t, left, a.L) != -1 {
					t.Fatalf("%+v is still in %+v", a, left)
				}
			}
			l, sent = left, sent+len(b.L)
		}
		if len(l) != 0 || sent != 6 {
			t.Errorf("there are left %+v, %d were sent on", l, sent)
		}
	})
}

func TestMemberOf(t *testing.T) {
	l := append(threeApps(), impl.Group{N: 12, L: []impl.Alarm{alarm(0, 9, "", "app", "b", "host", "1"), alarm(0, 8, "", "host", "1")}}, impl.Group{N: -3, L: []impl.Alarm{{}, alarm(0, 7, "", "b", "", "a", "")}})
	for _, x := range []struct {
		l    []impl.Group
		s    []impl.Label
		want int
	}{
		{nil, nil, -1},
		{nil, set("app", "a"), -1},
		{l[:0], set("app", "a", "host", "1"), -1},
		{l, set("app", "a", "host", "1"), 2},
		{l, set("app", "a", "host", "2"), 2},
		{l, set("app", "a", "host", "3"), 2},
		{l, set("app", "a", "host", "4"), -1},
		{l, set("app", "b", "host", "1"), 5},
		{l, set("app", "c", "host", "1"), 9},
		{l, set("app", "c", "host", "2"), 9},
		{l, set("host", "1"), 12},
		// In two of them, the first one.
		{l[2:], set("app", "b", "host", "1"), 12},
		{l[1:], set("app", "b", "host", "1"), 5},
		{[]impl.Group{l[3], l[1]}, set("app", "b", "host", "1"), 12},
		{l[:1], set("app", "b", "host", "1"), -1},
		// The key alone, or more, is not enough.
		{l, set("app", "a"), -1},
		{l, set("app", "a", "host", "1", "zone", "x"), -1},
		{l, set("host", "1", "app", "a"), -1},
		{l, set("app", "d", "host", "1"), -1},
		// Of no labels, and of such that are not SetOk.
		{l[:4], nil, -1},
		{l[:4], []impl.Label{}, -1},
		{l, nil, -3},
		{l, []impl.Label{}, -3},
		{l, []impl.Label{{}}, -1},
		{l, set("b", "", "a", ""), -3},
		{l, set("a", "", "b", ""), -1},
		{[]impl.Group{{}}, nil, -1},
		{[]impl.Group{{N: 4, L: []impl.Alarm{{}}}}, nil, 4},
		{[]impl.Group{{L: []impl.Alarm{{}}}}, nil, 0},
		{[]impl.Group{{N: math.MinInt, L: members(5)}}, set("app", "a", "host", "1"), math.MinInt},
		{[]impl.Group{{N: math.MaxInt, Key: set("app", "b"), L: members(5)}}, set("app", "a", "host", "1"), math.MaxInt},
	} {
		if got := checkMember(t, x.l, x.s); got != x.want {
			t.Errorf("MemberOf(%+v, %q) = %d, not %d", x.l, x.s, got, x.want)
		}
	}
}

func TestMemberOfSomeLists(t *testing.T) {
	met := map[int]int{}
	for _, l := range someLists() {
		for _, a := range append(joiningAlarms(), alarm(0, 0, "", "app", "x3", "host", "1"), member("2", 5), impl.Alarm{L: []impl.Label{{}}}) {
			n := checkMember(t, l, a.L)
			met[n]++
			if at := checkGroupAt(t, l, n); n != -1 && at < 0 {
				t.Fatalf("MemberOf(%+v, %q) = %d", l, a.L, n)
			}
		}
	}
	for _, n := range []int{-1, 2, 5, 7, 9, 6} {
		if met[n] == 0 {
			t.Errorf("it is never in %d: %v", n, met)
		}
	}
}

// As often as it is asked, the answer is one, in one order.
func TestGroupsStandInOneOrder(t *testing.T) {
	l, by := manyApps(12), []string{"app"}
	for range 300 {
		for _, app := range []string{"x0", "x5", "x11", "new"} {
			checkJoinAll(t, l, alarm(0, 40, "", "app", app), by, 40, 5)
		}
		for _, n := range []int{0, 10, 22, 1} {
			checkFlushAt(t, l, n, 5)
		}
	}
}

// Many groups, of many alarms, are joined and sent on, too, but they are not right.
func TestManyGroups(t *testing.T) {
	l, by := manyApps(20000), []string{"app"}
	if impl.GroupsOk(l, by) {
		t.Error("many are right")
	}
	for _, i := range []int{0, 1, 9999, 19999} {
		app := "x" + impl.NumText(i)
		if impl.GroupOf(l, set("app", app)) != i || impl.GroupAt(l, 2*i) != i || impl.GroupAt(l, 2*i+1) != -1 || impl.MemberOf(l, set("app", app, "host", "1")) != 2*i {
			t.Errorf("the one at %d is not found", i)
		}
		got, isNew := impl.JoinAll(l, alarm(0, 9, "", "app", app), by, 7, 8)
		if isNew || len(got) != 20000 || len(got[i].L) != 2 || len(got[19999-i].L) != 1 {
			t.Errorf("joined at %d: %d, %v", i, len(got), isNew)
		}
		got, b, there := impl.FlushAt(l, 2*i, i)
		if !there || len(b.L) != 1 || len(got) != 19999 || impl.GroupAt(got, 2*i) != -1 {
			t.Errorf("sent on at %d: %d, %v", i, len(got), there)
		}
		for j := range 19998 {
			if got[j].N >= got[j+1].N {
				t.Fatalf("%d stands ahead of %d", got[j].N, got[j+1].N)
			}
		}
	}
	got, isNew := impl.JoinAll(l, alarm(0, 9, "", "app", "new"), by, 7, 8)
	if !isNew || len(got) != 20001 || got[20000].N != 7 || got[19999].N != 39998 {
		t.Errorf("joined behind many: %d, %v", len(got), isNew)
	}
	long := ofApp(1, "a")
	for i := range 30000 {
		long.L = append(long.L, member(impl.NumText(100000+i), i%100))
	}
	groups := []impl.Group{long, ofApp(2, "b", 5)}
	if !impl.GroupsOk(groups, by) || impl.MemberOf(groups, set("app", "a", "host", "129999")) != 1 {
		t.Error("of many alarms")
	}
	if left, b, _ := impl.FlushAt(groups, 1, 49); len(b.L) != 30000 || len(left) != 2 || len(left[0].L) != 15000 {
		t.Errorf("of many alarms there are sent on %d", len(b.L))
	}
}

// markGroups: writes a mark of its own all over each list of the groups, and over them, and tells whether all marks stay.
func markGroups(l []impl.Group, lists ...[]impl.Alarm) bool {
	for _, g := range l {
		lists = append(lists, g.L, keyed(g.Key))
	}
	whole := l[:cap(l)]
	for i := range whole {
		whole[i] = impl.Group{N: -1 - i, Born: i, Last: -9}
	}
	stay := markAll(lists...)
	for i, g := range whole {
		stay = stay && sameGroupAsTold(g, impl.Group{N: -1 - i, Born: i, Last: -9})
	}
	return stay
}

// What JoinAll answers shares no memory with an argument, nor one of its lists with another.
func TestJoinAllMakesNewMemory(t *testing.T) {
	groups, room, check := roomyGroups()
	alarms, own := roomyAlarms(room)
	kept := slices.Clone(own)
	names := []string{"app", "host", "zone"}
	met := map[bool]int{}
	for from := range len(groups) {
		for to := from; to <= min(from+3, len(groups)); to++ {
			l := groups[from:to]
			// Labels that are a key's own memory, too.
			for _, a := range append(alarms, impl.Alarm{L: groups[1].Key, End: 5}, impl.Alarm{L: groups[3].Key}) {
				for _, by := range [][]string{nil, names[:0], names[:1], names[:2], names[1:2], {"zone"}, {"job"}} {
					got, isNew := checkJoinAll(t, l, a, by, 9, 5)
					met[isNew]++
					if !markGroups(got) {
						t.Errorf("JoinAll(%+v, %+v, %q): lists of the answer share memory", l, a, by)
					}
					check(t, "joined and marked")
					if !slices.Equal(own, kept) || !slices.Equal(names, []string{"app", "host", "zone"}) {
						t.Fatalf("the labels are now %q, the names %q", own, names)
					}
				}
			}
		}
	}
	if met[true] < 100 || met[false] < 100 {
		t.Errorf("%d are new, %d are not", met[true], met[false])
	}
}

// Nor does what FlushAt answers, and neither the groups with the Batch, also where they stay as they are.
func TestFlushAtMakesNewMemory(t *testing.T) {
	groups, _, check := roomyGroups()
	met := map[string]int{}
	for from := range len(groups) {
		for to := from; to <= min(from+3, len(groups)); to++ {
			l := groups[from:to]
			for n := range 10 {
				for _, now := range []int{-1, 2, 8, 20} {
					got, b, there := checkFlushAt(t, l, n, now)
					if !there {
						met["stay"]++
					} else if len(got) < len(l) {
						met["gone"]++
					} else {
						met["left"]++
					}
					if !markGroups(got, b.L, keyed(b.Key)) {
						t.Errorf("FlushAt(%+v, %d, %d): lists of the answer share memory", l, n, now)
					}
					check(t, "sent on and marked")
				}
			}
		}
	}
	if met["stay"] < 50 || met["gone"] < 50 || met["left"] < 50 {
		t.Errorf("so often: %v", met)
	}
}

// Of groups that share memory among them none is shared by the answer.
func TestGroupsThatShareMemory(t *testing.T) {
	g := ofApp(2, "a", 5, 9)
	for _, l := range [][]impl.Group{{g, g}, {g, g, g}} {
		was := keepGroups(l)
		got, _ := checkJoinAll(t, l, g.L[0], []string{"app"}, 4, 5)
		if !markGroups(got) || !sameGroups(l, was) {
			t.Errorf("joined, they share memory: %+v", l)
		}
		got, _ = checkJoinAll(t, l, g.L[0], []string{"app", "host"}, 4, 5)
		if !markGroups(got) || !sameGroups(l, was) {
			t.Errorf("with a new one, they share memory: %+v", l)
		}
		for _, n := range []int{2, 3} {
			got, b, _ := checkFlushAt(t, l, n, 5)
			if !markGroups(got, b.L, keyed(b.Key)) || !sameGroups(l, was) {
				t.Errorf("sent on, they share memory: %+v", l)
			}
		}
	}
}

// What is gone is not handed out behind the list's length, either.
func TestNoGroupThatIsGoneIsLeftBehind(t *testing.T) {
	for n := 1; n <= 12; n++ {
		for place := range n {
			got, _, _ := checkFlushAt(t, manyApps(n), 2*place, 50)
			again, _ := checkJoinAll(t, got, alarm(0, 9, "", "app", "z"), []string{"app"}, 40, 5)
			for _, l := range [][]impl.Group{got, again} {
				for _, g := range l[len(l):cap(l)] {
					if !sameGroupAsTold(g, impl.Group{}) {
						t.Errorf("there lies %+v behind %+v", g, l)
					}
				}
			}
		}
	}
}

// What lies behind the lists is not read, either.
func TestListsOfGroupsAreReadToTheirLengthAlone(t *testing.T) {
	whole := append(manyApps(12), manyApps(1)...)
	by := []string{"app", "host"}[:1]
	l := whole[:12]
	if !checkGroupsOk(t, l, by) || !checkGroupsOk(t, l[:4], by) || checkGroupsOk(t, whole, by) {
		t.Errorf("%+v is not right", l)
	}
	if l = whole[:4]; checkGroupOf(t, l, set("app", "x4")) != -1 || checkGroupAt(t, l, 8) != -1 || checkMember(t, l, whole[4].L[0].L) != -1 {
		t.Errorf("what lies behind %+v is found", l)
	}
	got, isNew := checkJoinAll(t, l, whole[4].L[0], by, 40, 5)
	if !isNew || appsOf(got[3:]) != "x36: 1-3 x440: 1-4 " {
		t.Errorf("joined behind %+v: %+v", l, got)
	}
	if got, b, there := checkFlushAt(t, l, 8, 5); there || len(got) != 4 || len(b.L) != 0 {
		t.Errorf("of %+v there is sent on %+v", l, b)
	}
	key := set("app", "x1", "app", "x2")
	if checkGroupOf(t, whole, key[:1]) != 1 || checkMember(t, whole, set("app", "x2", "host", "1", "host", "2")[:2]) != 4 {
		t.Error("what lies behind labels counts")
	}
	if !sameGroups(whole, append(manyApps(12), manyApps(1)...)) {
		t.Errorf("the groups are now %+v", whole)
	}
}
