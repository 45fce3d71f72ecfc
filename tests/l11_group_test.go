package tests

import (
	"math"
	"slices"
	"testing"

	"loop.example/g00490/impl"
)

// groupAsTold: GroupOk in the words of the document, each alarm against each behind it.
func groupAsTold(g impl.Group, by []string) bool {
	if g.N < 0 || !setAsTold(g.Key) || g.Born < 0 || g.Born > 99999 || len(g.L) < 1 {
		return false
	}
	if g.Last != -1 && (g.Last < g.Born || g.Last > 99999) {
		return false
	}
	for i, a := range g.L {
		if !alarmAsTold(a) || !slices.Equal(projectAsTold(a.L, by), g.Key) {
			return false
		}
		for _, behind := range g.L[i+1:] {
			if !setLessAsTold(a.L, behind.L) || slices.Equal(a.L, behind.L) {
				return false
			}
		}
	}
	return true
}

func sameGroupAsTold(a, b impl.Group) bool {
	return a.N == b.N && slices.Equal(a.Key, b.Key) && a.Born == b.Born && a.Last == b.Last && sameAlarms(a.L, b.L)
}

func sameBatchAsTold(a, b impl.Batch) bool {
	return a.N == b.N && slices.Equal(a.Key, b.Key) && a.Now == b.Now && sameAlarms(a.L, b.L)
}

// keepGroup: a copy that shares nothing with the group, to hold it against later.
func keepGroup(g impl.Group) impl.Group {
	return impl.Group{N: g.N, Key: slices.Clone(g.Key), Born: g.Born, Last: g.Last, L: keepAlarms(g.L)}
}

// joinAsTold: JoinIn in the words of the document.
func joinAsTold(g impl.Group, a impl.Alarm) impl.Group {
	g = keepGroup(g)
	for i, b := range g.L {
		if slices.Equal(b.L, a.L) {
			g.L[i] = keepAlarm(a)
			return g
		}
	}
	for i, b := range g.L {
		if setLessAsTold(a.L, b.L) {
			g.L = slices.Insert(g.L, i, keepAlarm(a))
			return g
		}
	}
	g.L = append(g.L, keepAlarm(a))
	return g
}

// flushAsTold: Flush in the words of the document.
func flushAsTold(g impl.Group, now int) (impl.Group, impl.Batch) {
	left, b := keepGroup(g), impl.Batch{N: g.N, Key: slices.Clone(g.Key), Now: now, L: keepAlarms(g.L)}
	left.L, left.Last = nil, now
	for _, a := range g.L {
		if a.End > now {
			left.L = append(left.L, keepAlarm(a))
		}
	}
	return left, b
}

// member: one of the group of app="a", which are ascending by host.
func member(host string, end int) impl.Alarm {
	return alarm(0, end, "to "+impl.NumText(end), "app", "a", "host", host)
}

// members: of the hosts 1, 2, 3 .. (nine at most), which end then.
func members(ends ...int) []impl.Alarm {
	var l []impl.Alarm
	for i, end := range ends {
		l = append(l, member(impl.NumText(i+1), end))
	}
	return l
}

// groupOfApp: a right one by app, where these alarms are.
func groupOfApp(l ...impl.Alarm) impl.Group {
	return impl.Group{N: 2, Key: set("app", "a"), Born: 3, Last: -1, L: l}
}

// groupedAlarms: right ones of the key app="a", two of them of the same labels, of another key,
// of the fewest labels, and such that are not AlarmOk.
func groupedAlarms() []impl.Alarm {
	return []impl.Alarm{
		member("2", 5),
		member("1", 6),
		alarm(4, 4, "again", "app", "a", "host", "2"),
		alarm(0, 7, "", "app", "a"),
		alarm(0, 99999, "", "app", "b", "host", "2"),
		alarm(8, 5, "\"", "host", "3", "app", "a"),
		{},
	}
}

// someGroups: of each short list of these alarms, of long ones, and of numbers, keys and times that are none.
func someGroups() []impl.Group {
	var groups []impl.Group
	for _, l := range append(allLists(groupedAlarms(), 3), []impl.Alarm{}, members(5, 6, 7, 4, 5, 6, 5, 9, 1), numbered(40)) {
		groups = append(groups, groupOfApp(l...))
	}
	for i, n := range someTimes() {
		groups = append(groups,
			impl.Group{N: n, Born: 5, Last: 6, L: members(4, 5, 6)},
			impl.Group{N: i, Born: n, Last: -1, Key: set("b", "", "a", "")},
			impl.Group{N: i, Born: 5, Last: n, Key: set("app", "a"), L: members(5, 4)},
		)
	}
	return groups
}

// checkGroupOk: that GroupOk answers as told, and leaves all as it was.
func checkGroupOk(t *testing.T, g impl.Group, by []string) bool {
	t.Helper()
	was, wasBy := keepGroup(g), slices.Clone(by)
	got := impl.GroupOk(g, by)
	if got != groupAsTold(g, by) {
		t.Fatalf("GroupOk(%+v, %q) = %v", g, by, got)
	}
	if !sameGroupAsTold(g, was) || !slices.Equal(by, wasBy) {
		t.Fatalf("%+v and %q are now %+v and %q", was, wasBy, g, by)
	}
	return got
}

// checkJoin: that JoinIn answers as told, and leaves all as it was.
func checkJoin(t *testing.T, g impl.Group, a impl.Alarm) impl.Group {
	t.Helper()
	was, wasA := keepGroup(g), keepAlarm(a)
	got := impl.JoinIn(g, a)
	if want := joinAsTold(g, a); !sameGroupAsTold(got, want) {
		t.Fatalf("JoinIn(%+v, %+v) = %+v, not %+v", g, a, got, want)
	}
	if !sameGroupAsTold(g, was) || !sameAsTold(a, wasA) {
		t.Fatalf("%+v and %+v are now %+v and %+v", was, wasA, g, a)
	}
	return got
}

// checkFlush: that Flush answers as told, and leaves the group as it was.
func checkFlush(t *testing.T, g impl.Group, now int) (impl.Group, impl.Batch) {
	t.Helper()
	was := keepGroup(g)
	left, b := impl.Flush(g, now)
	if want, wantB := flushAsTold(g, now); !sameGroupAsTold(left, want) || !sameBatchAsTold(b, wantB) {
		t.Fatalf("Flush(%+v, %d) = %+v, %+v, not %+v, %+v", g, now, left, b, want, wantB)
	}
	if !sameGroupAsTold(g, was) {
		t.Fatalf("%+v is now %+v", was, g)
	}
	return left, b
}

// joined: the group that all of l have joined, one behind the other.
func joined(t *testing.T, g impl.Group, l []impl.Alarm) impl.Group {
	t.Helper()
	for _, a := range l {
		g = checkJoin(t, g, a)
	}
	return g
}

// lastOfEach: of alarms of the same labels the one that came last, ascending by their labels.
func lastOfEach(l []impl.Alarm) []impl.Alarm {
	var last []impl.Alarm
	for i, a := range l {
		again := slices.ContainsFunc(l[i+1:], func(b impl.Alarm) bool { return slices.Equal(a.L, b.L) })
		if !again {
			last = append(last, a)
		}
	}
	slices.SortFunc(last, func(a, b impl.Alarm) int {
		if setLessAsTold(a.L, b.L) {
			return -1
		}
		return 1
	})
	return last
}

// notOver: those of l that are not over now.
func notOver(l []impl.Alarm, now int) []impl.Alarm {
	var left []impl.Alarm
	for _, a := range l {
		if a.End > now {
			left = append(left, a)
		}
	}
	return left
}

// checkSentOn: that all of l, just as they are, are in the Batch, and in the group that is left those that are not over.
func checkSentOn(t *testing.T, g impl.Group, l []impl.Alarm, now int) impl.Group {
	t.Helper()
	left, b := checkFlush(t, g, now)
	if b.N != g.N || b.Now != now || !slices.Equal(b.Key, g.Key) || !sameAlarms(b.L, l) {
		t.Fatalf("of %+v there is sent on at %d: %+v, not all of %+v", g, now, b, l)
	}
	if left.N != g.N || left.Born != g.Born || left.Last != now || !slices.Equal(left.Key, g.Key) || !sameAlarms(left.L, notOver(l, now)) {
		t.Fatalf("of %+v there is left at %d: %+v", g, now, left)
	}
	return left
}

// Promise 11: whatever joined a group is in it once, as it joined last, and sent on all of it is in the Batch.
func TestPromise11SentOnAllOfAGroupIsInTheBatch(t *testing.T) {
	by, met := []string{"app"}, map[int]int{}
	for _, l := range allLists(groupedAlarms(), 4) {
		want := lastOfEach(l)
		g := joined(t, groupOfApp(), l)
		if !sameAlarms(g.L, want) || g.N != 2 || g.Born != 3 || g.Last != -1 || !slices.Equal(g.Key, set("app", "a")) {
			t.Fatalf("%+v joined: %+v", l, g)
		}
		for _, now := range []int{3, 4, 5, 6, 7, 99999} {
			left := checkSentOn(t, g, want, now)
			met[len(want)-len(left.L)]++
			if len(left.L) > 0 && checkGroupOk(t, g, by) && !checkGroupOk(t, left, by) {
				t.Fatalf("%+v, left of %+v, is not right", left, g)
			}
		}
		if checkGroupOk(t, g, by) && !checkGroupOk(t, impl.JoinIn(g, member("9", 9)), by) {
			t.Fatalf("%+v, joined by one more, is not right", g)
		}
	}
	for n := range 5 {
		if met[n] == 0 {
			t.Errorf("never are %d over: %v", n, met)
		}
	}
}

// Promise 11, in every order in which six join, of which one is of the labels of another one.
func TestPromise11InEveryOrder(t *testing.T) {
	l := append(members(9, 4, 7, 5), alarm(0, 8, "", "app", "a"), alarm(3, 3, "again", "app", "a", "host", "3"))
	met := 0
	inEveryOrder(l, 0, func() {
		met++
		g := joined(t, groupOfApp(), l)
		if len(g.L) != 5 || !checkGroupOk(t, g, []string{"app"}) || !sameAlarms(g.L, lastOfEach(l)) {
			t.Fatalf("%+v joined: %+v", l, g)
		}
		for now := 2; now < 10; now++ {
			checkSentOn(t, g, g.L, now)
		}
	})
	if met != 720 {
		t.Errorf("%d orders", met)
	}
}

// inEveryOrder: does so with each order of what stands from a place on.
func inEveryOrder[T any](l []T, from int, do func()) {
	if from == len(l) {
		do()
		return
	}
	for i := from; i < len(l); i++ {
		l[from], l[i] = l[i], l[from]
		inEveryOrder(l, from+1, do)
		l[from], l[i] = l[i], l[from]
	}
}

// Promise 11, where alarms join and are sent on by turns, in every order of nine turns.
func TestPromise11ByTurns(t *testing.T) {
	by, met := []string{"app"}, map[int]int{}
	for turns := range 1 << 9 {
		g, stood := groupOfApp(), []impl.Alarm(nil)
		for i := range 9 {
			now := 3 + i
			if turns>>i&1 == 1 {
				a := member(impl.NumText(i*5%4), now+1+i%4)
				g = checkJoin(t, g, a)
				stood = lastOfEach(append(stood, a))
			} else {
				g = checkSentOn(t, g, stood, now)
				met[len(stood)]++
				stood = notOver(stood, now)
			}
			if !sameAlarms(g.L, stood) || checkGroupOk(t, g, by) != (len(stood) > 0) {
				t.Fatalf("turns %b, %d: %+v", turns, i, g)
			}
		}
	}
	if met[0] < 100 || met[1] < 100 || met[2] < 100 || met[3] < 50 {
		t.Errorf("so many are sent on: %v", met)
	}
}

// The last one that is over: at the first, a middle and the last place, just at now, and one beside it.
func TestPromise11TheLastThatIsOver(t *testing.T) {
	const now = 20
	by := []string{"app"}
	for _, others := range []int{now - 9, now, now + 1, now + 9} {
		for place := range 5 {
			for end := now - 1; end <= now+1; end++ {
				ends := slices.Repeat([]int{others}, 5)
				ends[place] = end
				g := groupOfApp(members(ends...)...)
				left := checkSentOn(t, g, members(ends...), now)
				is := slices.ContainsFunc(left.L, func(a impl.Alarm) bool { return impl.SameAlarm(a, g.L[place]) })
				if is != (end == now+1) || !checkGroupOk(t, g, by) || checkGroupOk(t, left, by) != (len(left.L) > 0) {
					t.Errorf("of %v, at %d, there is left %+v", ends, now, left)
				}
			}
		}
	}
}

// Where the last one that is left is over, too, nobody is; from then on there is nothing to be sent on, until one joins.
func TestPromise11WhereNobodyIsLeft(t *testing.T) {
	by := []string{"app"}
	for _, ends := range [][]int{{5}, {5, 5}, {3, 4, 5}, {5, 4, 3, 2, 1}, {1, 1, 1, 1, 1, 1, 5, 1, 1}} {
		g := groupOfApp(members(ends...)...)
		g = checkSentOn(t, g, g.L, 4)
		if len(g.L) == 0 || !checkGroupOk(t, g, by) {
			t.Fatalf("%v, sent on at 4: %+v", ends, g)
		}
		g = checkSentOn(t, g, g.L, 5)
		if len(g.L) != 0 || checkGroupOk(t, g, by) || g.Last != 5 || g.N != 2 || g.Born != 3 || len(g.Key) != 1 {
			t.Fatalf("%v, sent on at 5: %+v", ends, g)
		}
		for now := 5; now < 8; now++ {
			g = checkSentOn(t, g, nil, now)
			if _, b := checkFlush(t, g, now); len(b.L) != 0 || b.N != 2 || b.Now != now || len(b.Key) != 1 || checkGroupOk(t, g, by) {
				t.Fatalf("of nobody there is sent on: %+v", b)
			}
		}
		if g = checkJoin(t, g, member("3", 8)); !checkGroupOk(t, g, by) || len(g.L) != 1 || impl.NextDue(g, 2, 5) != 12 {
			t.Fatalf("with one that joined: %+v", g)
		}
		checkSentOn(t, g, []impl.Alarm{member("3", 8)}, 8)
	}
}

func TestGroupOk(t *testing.T) {
	for name, x := range map[string]struct {
		change func(g *impl.Group)
		want   bool
	}{
		"as it is":              {func(g *impl.Group) {}, true},
		"number 0":              {func(g *impl.Group) { g.N = 0 }, true},
		"number 1":              {func(g *impl.Group) { g.N = 1 }, true},
		"greatest number":       {func(g *impl.Group) { g.N = math.MaxInt }, true},
		"number -1":             {func(g *impl.Group) { g.N = -1 }, false},
		"least number":          {func(g *impl.Group) { g.N = math.MinInt }, false},
		"born 0":                {func(g *impl.Group) { g.Born = 0 }, true},
		"born at the end":       {func(g *impl.Group) { g.Born = 99999 }, true},
		"born behind the end":   {func(g *impl.Group) { g.Born = 100000 }, false},
		"born -1":               {func(g *impl.Group) { g.Born = -1 }, false},
		"born least":            {func(g *impl.Group) { g.Born = math.MinInt }, false},
		"born greatest":         {func(g *impl.Group) { g.Born = math.MaxInt }, false},
		"born and last 0":       {func(g *impl.Group) { g.Born, g.Last = 0, 0 }, true},
		"born and last the end": {func(g *impl.Group) { g.Born, g.Last = 99999, 99999 }, true},
		"born and last behind":  {func(g *impl.Group) { g.Born, g.Last = 100000, 100000 }, false},
		"born and last -1":      {func(g *impl.Group) { g.Born, g.Last = -1, -1 }, false},
		"born -1, last 0":       {func(g *impl.Group) { g.Born, g.Last = -1, 0 }, false},
		"last -2":               {func(g *impl.Group) { g.Last = -2 }, false},
		"last 0":                {func(g *impl.Group) { g.Last = 0 }, false},
		"last ahead of born":    {func(g *impl.Group) { g.Last = 2 }, false},
		"last at born":          {func(g *impl.Group) { g.Last = 3 }, true},
		"last behind born":      {func(g *impl.Group) { g.Last = 4 }, true},
		"last at the end":       {func(g *impl.Group) { g.Last = 99999 }, true},
		"last behind the end":   {func(g *impl.Group) { g.Last = 100000 }, false},
		"last least":            {func(g *impl.Group) { g.Last = math.MinInt }, false},
		"last greatest":         {func(g *impl.Group) { g.Last = math.MaxInt }, false},
		"no key":                {func(g *impl.Group) { g.Key = nil }, false},
		"another key":           {func(g *impl.Group) { g.Key = set("app", "b") }, false},
		"key of another name":   {func(g *impl.Group) { g.Key = set("host", "a") }, false},
		"key of more":           {func(g *impl.Group) { g.Key = set("app", "a", "host", "1") }, false},
		"key with a name twice": {func(g *impl.Group) { g.Key = set("app", "a", "app", "a") }, false},
		"key of too many":       {func(g *impl.Group) { g.Key = set("a", "", "b", "", "c", "", "d", "", "e", "") }, false},
		"no alarms":             {func(g *impl.Group) { g.L = nil }, false},
		"no alarms, but room":   {func(g *impl.Group) { g.L = g.L[:0] }, false},
		"one alarm":             {func(g *impl.Group) { g.L = g.L[:1] }, true},
		"two alarms":            {func(g *impl.Group) { g.L = g.L[:2] }, true},
		"the last two":          {func(g *impl.Group) { g.L = g.L[1:] }, true},
		"first and last":        {func(g *impl.Group) { g.L = append(g.L[:1], g.L[2]) }, true},
		"one of app alone":      {func(g *impl.Group) { g.L = append([]impl.Alarm{alarm(0, 1, "", "app", "a")}, g.L...) }, true},
		"the last one twice":    {func(g *impl.Group) { g.L = append(g.L, g.L[2]) }, false},
		"the first one twice":   {func(g *impl.Group) { g.L = append(g.L, g.L[0]) }, false},
		"same labels, changed":  {func(g *impl.Group) { g.L[1] = alarm(3, 4, "", "app", "a", "host", "1") }, false},
		"first two out of order": {func(g *impl.Group) {
			g.L[0], g.L[1] = g.L[1], g.L[0]
		}, false},
		"last two out of order": {func(g *impl.Group) {
			g.L[1], g.L[2] = g.L[2], g.L[1]
		}, false},
		"descending": {func(g *impl.Group) { slices.Reverse(g.L) }, false},
		"zero":       {func(g *impl.Group) { *g = impl.Group{} }, false},
	} {
		g := groupOfApp(members(9, 4, 7)...)
		x.change(&g)
		if got := checkGroupOk(t, g, []string{"app"}); got != x.want {
			t.Errorf("%s: GroupOk(%+v) = %v", name, g, got)
		}
	}
}

// One alarm that is not AlarmOk, or not of the key, is enough, at whichever place.
func TestGroupOkWithOneThatIsNotRight(t *testing.T) {
	for name, change := range map[string]func(a *impl.Alarm){
		"no labels":        func(a *impl.Alarm) { a.L = nil },
		"too many":         func(a *impl.Alarm) { a.L = append(a.L, set("x", "", "y", "", "z", "")...) },
		"name":             func(a *impl.Alarm) { a.L[1].Name = "Host" },
		"val":              func(a *impl.Alarm) { a.L[1].Val += "\\" },
		"a name twice":     func(a *impl.Alarm) { a.L = append(a.L, a.L[1]) },
		"out of order":     func(a *impl.Alarm) { a.L = append(a.L, set("a", "")...) },
		"start below 0":    func(a *impl.Alarm) { a.Start = -1 },
		"start past end":   func(a *impl.Alarm) { a.Start = a.End + 1 },
		"end":              func(a *impl.Alarm) { a.End = 100000 },
		"greatest end":     func(a *impl.Alarm) { a.End = math.MaxInt },
		"note":             func(a *impl.Alarm) { a.Note = "\"" },
		"long note":        func(a *impl.Alarm) { a.Note = "thirteenbytes" },
		"zero":             func(a *impl.Alarm) { *a = impl.Alarm{} },
		"another key":      func(a *impl.Alarm) { a.L[0].Val = "b" },
		"the key cut":      func(a *impl.Alarm) { a.L[0].Val = "" },
		"no key":           func(a *impl.Alarm) { a.L = a.L[1:] },
		"key of other app": func(a *impl.Alarm) { a.L[0].Name = "apps" },
	} {
		for n := 1; n <= 5; n++ {
			for i := range n {
				g := groupOfApp(members(slices.Repeat([]int{9}, n)...)...)
				if !checkGroupOk(t, g, []string{"app"}) {
					t.Fatalf("%+v is not right", g)
				}
				change(&g.L[i])
				if checkGroupOk(t, g, []string{"app"}) {
					t.Errorf("%s at %d of %d: %+v is right", name, i, n, g)
				}
			}
		}
	}
}

// Those of no name in by, of one and of two, and of a by that is not ByOk, which is asked as it is.
func TestGroupOkByWhat(t *testing.T) {
	two := []impl.Alarm{alarm(0, 9, "", "app", "a", "host", "1", "zone", "x"), alarm(0, 9, "", "app", "a", "host", "1", "zone", "y")}
	for _, x := range []struct {
		key  []impl.Label
		by   []string
		want bool
	}{
		{nil, nil, true},
		{nil, []string{}, true},
		{[]impl.Label{}, []string{}, true},
		{nil, []string{"job"}, true},
		{nil, []string{"app"}, false},
		{set("app", "a"), nil, false},
		{set("app", "a"), []string{"app"}, true},
		{set("app", "a"), []string{"app", "job"}, true},
		{set("app", "a"), []string{"host"}, false},
		{set("app", "a"), []string{"app", "host"}, false},
		{set("app", "a", "host", "1"), []string{"app", "host"}, true},
		{set("app", "a", "host", "1"), []string{"app"}, false},
		{set("app", "a", "host", "1"), []string{"host", "app"}, true},
		{set("host", "1", "app", "a"), []string{"host", "app"}, false},
		{set("host", "1"), []string{"host", "host"}, true},
		{set("zone", "x"), []string{"zone"}, false},
		{set("zone", "y"), []string{"zone"}, false},
		{nil, []string{"App", ""}, true},
		{set("app", "a"), []string{"", "app", "app", "App"}, true},
		{set("app", "a", "host", "1"), []string{"job", "host", "app", "apps"}, true},
	} {
		g := impl.Group{Key: x.key, Last: -1, L: two}
		if got := checkGroupOk(t, g, x.by); got != x.want {
			t.Errorf("of the key %q by %q: %v", x.key, x.by, got)
		}
	}
	// Of one alarm all of whose labels are the key, as many as there may be.
	four := alarm(0, 9, "", "a", "1", "b", "2", "c", "3", "d", "4")
	if !checkGroupOk(t, impl.Group{Key: four.L, L: []impl.Alarm{four}}, []string{"a", "b", "c", "d"}) {
		t.Error("a key of MaxLabels is not right")
	}
}

func TestGroupOkOfSomeGroups(t *testing.T) {
	met := map[bool]int{}
	keys := [][]impl.Label{nil, {}, set("app", "a"), set("app", "b"), set("host", "2"), set("app", "a", "host", "2"), set("host", "2", "app", "a")}
	for _, g := range someGroups() {
		for _, key := range append(keys, g.Key) {
			for _, by := range [][]string{nil, {}, {"app"}, {"host"}, {"app", "host"}, {"host", "app"}, {"app", "app"}, {"App"}} {
				g.Key = key
				met[checkGroupOk(t, g, by)]++
			}
		}
	}
	if met[true] < 50 || met[false] < 1000 {
		t.Errorf("%d are right, %d are not", met[true], met[false])
	}
}

// unlikeLists: what makes a list of three of members unlike, each in one thing alone.
func unlikeLists() map[string]func(l []impl.Alarm) []impl.Alarm {
	unlike := map[string]func(l []impl.Alarm) []impl.Alarm{
		"one more": func(l []impl.Alarm) []impl.Alarm { return append(l, impl.Alarm{}) },
		"one less": func(l []impl.Alarm) []impl.Alarm { return l[:2] },
		"none":     func(l []impl.Alarm) []impl.Alarm { return nil },
		"behind":   func(l []impl.Alarm) []impl.Alarm { return l[1:] },
		"swapped":  func(l []impl.Alarm) []impl.Alarm { l[0], l[2] = l[2], l[0]; return l },
	}
	for i := range 3 {
		place := " at " + impl.NumText(i)
		for name, change := range map[string]func(a *impl.Alarm){
			"start":      func(a *impl.Alarm) { a.Start++ },
			"end":        func(a *impl.Alarm) { a.End-- },
			"note":       func(a *impl.Alarm) { a.Note += " " },
			"name":       func(a *impl.Alarm) { a.L[1].Name = "hosts" },
			"val":        func(a *impl.Alarm) { a.L[1].Val += "0" },
			"one label":  func(a *impl.Alarm) { a.L = a.L[:1] },
			"more label": func(a *impl.Alarm) { a.L = append(a.L, impl.Label{}) },
			"no label":   func(a *impl.Alarm) { a.L = nil },
		} {
			unlike[name+place] = func(l []impl.Alarm) []impl.Alarm {
				change(&l[i])
				return l
			}
		}
	}
	return unlike
}

// unlikeKeys: what makes the key app="a" unlike, each in one thing alone.
func unlikeKeys() [][]impl.Label {
	return [][]impl.Label{nil, {}, {{}}, set("app", ""), set("app", "b"), set("app", "A"), set("ap", "a"), set("app", "a", "host", "1"), set("app", "a", "app", "a"), set("app", "a", "", "")}
}

func TestSameGroup(t *testing.T) {
	is := func() impl.Group { return groupOfApp(members(9, 4, 7)...) }
	check := func(name string, other impl.Group, want bool) {
		t.Helper()
		g, was := is(), keepGroup(other)
		if impl.SameGroup(g, other) != want || impl.SameGroup(other, g) != want || !impl.SameGroup(other, keepGroup(other)) {
			t.Errorf("%s: %+v", name, other)
		}
		if !sameGroupAsTold(g, is()) || !sameGroupAsTold(other, was) {
			t.Errorf("%s: %+v and %+v are changed", name, g, other)
		}
	}
	check("the same", is(), true)
	check("zero", impl.Group{}, false)
	for name, change := range map[string]func(g *impl.Group){
		"number":         func(g *impl.Group) { g.N++ },
		"number below 0": func(g *impl.Group) { g.N = -g.N },
		"born":           func(g *impl.Group) { g.Born++ },
		"least born":     func(g *impl.Group) { g.Born = math.MinInt },
		"last":           func(g *impl.Group) { g.Last = 3 },
		"last below":     func(g *impl.Group) { g.Last-- },
		"born and last":  func(g *impl.Group) { g.Born, g.Last = g.Last, g.Born },
		"number, born":   func(g *impl.Group) { g.N, g.Born = g.Born, g.N },
	} {
		g := is()
		change(&g)
		check(name, g, false)
	}
	for _, key := range unlikeKeys() {
		g := is()
		g.Key = key
		check("key "+impl.SetText(key), g, false)
	}
	for name, change := range unlikeLists() {
		g := is()
		g.L = change(g.L)
		check(name, g, false)
	}
	empty := impl.Group{Key: []impl.Label{}, L: []impl.Alarm{}}
	if !impl.SameGroup(empty, impl.Group{}) || !impl.SameGroup(impl.Group{}, empty) {
		t.Error("nil is an empty list")
	}
}

func TestSameBatch(t *testing.T) {
	is := func() impl.Batch {
		return impl.Batch{N: 2, Key: set("app", "a"), Now: 6, L: members(9, 4, 7)}
	}
	check := func(name string, other impl.Batch, want bool) {
		t.Helper()
		b, wasL, wasKey := is(), keepAlarms(other.L), slices.Clone(other.Key)
		again := impl.Batch{N: other.N, Key: wasKey, Now: other.Now, L: wasL}
		if impl.SameBatch(b, other) != want || impl.SameBatch(other, b) != want || !impl.SameBatch(other, again) {
			t.Errorf("%s: %+v", name, other)
		}
		if !sameBatchAsTold(b, is()) || !sameAlarms(other.L, wasL) || !slices.Equal(other.Key, wasKey) {
			t.Errorf("%s: %+v and %+v are changed", name, b, other)
		}
	}
	check("the same", is(), true)
	check("zero", impl.Batch{}, false)
	for name, change := range map[string]func(b *impl.Batch){
		"number":         func(b *impl.Batch) { b.N++ },
		"number below 0": func(b *impl.Batch) { b.N = -b.N },
		"now":            func(b *impl.Batch) { b.Now-- },
		"least now":      func(b *impl.Batch) { b.Now = math.MinInt },
		"number and now": func(b *impl.Batch) { b.N, b.Now = b.Now, b.N },
	} {
		b := is()
		change(&b)
		check(name, b, false)
	}
	for _, key := range unlikeKeys() {
		b := is()
		b.Key = key
		check("key "+impl.SetText(key), b, false)
	}
	for name, change := range unlikeLists() {
		b := is()
		b.L = change(b.L)
		check(name, b, false)
	}
	empty := impl.Batch{Key: []impl.Label{}, L: []impl.Alarm{}}
	if !impl.SameBatch(empty, impl.Batch{}) || !impl.SameBatch(impl.Batch{}, empty) {
		t.Error("nil is an empty list")
	}
}

func TestSameGroupAndSameBatchOfSomeGroups(t *testing.T) {
	groups := someGroups()[:120]
	groups = append(groups, someGroups()[len(someGroups())-35:]...)
	met := map[bool]int{}
	for _, g := range groups {
		for _, other := range groups {
			want := sameGroupAsTold(g, other)
			if impl.SameGroup(g, other) != want {
				t.Fatalf("SameGroup(%+v, %+v) = %v", g, other, !want)
			}
			met[want]++
			b := impl.Batch{N: g.N, Key: g.Key, Now: g.Last, L: g.L}
			otherB := impl.Batch{N: other.N, Key: other.Key, Now: other.Last, L: other.L}
			if impl.SameBatch(b, otherB) != sameBatchAsTold(b, otherB) {
				t.Fatalf("SameBatch(%+v, %+v) = %v", b, otherB, impl.SameBatch(b, otherB))
			}
		}
	}
	if met[true] < 100 || met[false] < 1000 {
		t.Errorf("%d are the same, %d are not", met[true], met[false])
	}
}

// hostsOf: the host and the end of each, put together.
func hostsOf(g impl.Group) string {
	text := ""
	for _, a := range g.L {
		host, _ := impl.ValOf(a.L, "host")
		text += host + "-" + impl.NumText(a.End) + " "
	}
	return text
}

func TestJoinIn(t *testing.T) {
	three := func() []impl.Alarm { return []impl.Alarm{member("2", 1), member("4", 2), member("6", 3)} }
	for _, x := range []struct {
		l    []impl.Alarm
		a    impl.Alarm
		want string
	}{
		{nil, member("3", 9), "3-9 "},
		{[]impl.Alarm{}, member("3", 9), "3-9 "},
		{three(), member("1", 9), "1-9 2-1 4-2 6-3 "},
		{three(), member("3", 9), "2-1 3-9 4-2 6-3 "},
		{three(), member("5", 9), "2-1 4-2 5-9 6-3 "},
		{three(), member("7", 9), "2-1 4-2 6-3 7-9 "},
		{three(), member("2", 9), "2-9 4-2 6-3 "},
		{three(), member("4", 9), "2-1 4-9 6-3 "},
		{three(), member("6", 9), "2-1 4-2 6-9 "},
		{three(), member("4", 2), "2-1 4-2 6-3 "},
		{three(), member("", 9), "-9 2-1 4-2 6-3 "},
		{three(), member("40", 9), "2-1 4-2 40-9 6-3 "},
		{three(), alarm(0, 9, "", "app", "a"), "-9 2-1 4-2 6-3 "},
		{three(), alarm(0, 9, "", "app", "a", "host", "4", "zone", "x"), "2-1 4-2 4-9 6-3 "},
		{three()[:1], member("2", 9), "2-9 "},
		{three()[:1], member("3", 9), "2-1 3-9 "},
		// Not of the key, and not AlarmOk, either.
		{three(), alarm(0, 9, "", "app", "b", "host", "1"), "2-1 4-2 6-3 1-9 "},
		{three(), alarm(0, 9, "", "a", "", "host", "9"), "9-9 2-1 4-2 6-3 "},
		{three(), alarm(9, -9, "\"", "app", "a", "host", "4"), "2-1 4--9 6-3 "},
		{three(), impl.Alarm{End: 9}, "-9 2-1 4-2 6-3 "},
		{[]impl.Alarm{{}, member("4", 2), {}}, impl.Alarm{End: 9}, "-9 4-2 -0 "},
		// Groups out of order, or of the same labels twice.
		{[]impl.Alarm{member("6", 1), member("4", 2), member("2", 3)}, member("5", 9), "5-9 6-1 4-2 2-3 "},
		{[]impl.Alarm{member("2", 1), member("6", 2), member("4", 3)}, member("5", 9), "2-1 5-9 6-2 4-3 "},
		{[]impl.Alarm{member("6", 1), member("4", 2), member("2", 3)}, member("2", 9), "6-1 4-2 2-9 "},
		{[]impl.Alarm{member("4", 1), member("2", 2), member("2", 3)}, member("2", 9), "4-1 2-9 2-3 "},
		{[]impl.Alarm{member("2", 1), member("4", 2), member("2", 3)}, member("2", 9), "2-9 4-2 2-3 "},
		{[]impl.Alarm{member("4", 1), member("4", 2), member("4", 3)}, member("4", 9), "4-9 4-2 4-3 "},
	} {
		for _, g := range []impl.Group{
			groupOfApp(x.l...),
			{N: 7, Born: 9, Last: 9, L: x.l},
			{N: math.MinInt, Born: -1, Last: math.MaxInt, Key: set("z", "", "a", ""), L: x.l},
		} {
			got := checkJoin(t, g, x.a)
			if hostsOf(got) != x.want || got.N != g.N || got.Born != g.Born || got.Last != g.Last || !slices.Equal(got.Key, g.Key) {
				t.Errorf("JoinIn(%+v, %+v) = %+v", g, x.a, got)
			}
		}
	}
}

func TestJoinInOfSomeGroups(t *testing.T) {
	alarms := append(groupedAlarms(), member("3", 4), alarm(1, 9, "", "app", "a", "host", "1", "zone", "x"), alarm(-1, math.MinInt, "", "zone", "1"), rightAlarm(2))
	for _, g := range someGroups() {
		for _, a := range alarms {
			got := checkJoin(t, g, a)
			// What joins again stands where it stood.
			if again := checkJoin(t, got, a); !impl.SameGroup(again, got) {
				t.Fatalf("%+v, joined by %+v again: %+v", got, a, again)
			}
		}
	}
}

func TestFlush(t *testing.T) {
	g := groupOfApp(members(0, 99999, 5, 100000, -7, 99998, math.MaxInt, math.MinInt, 1)...)
	for _, x := range []struct {
		now  int
		want string
	}{
		{math.MinInt, "1-0 2-99999 3-5 4-100000 5--7 6-99998 7-9223372036854775807 9-1 "},
		{-8, "1-0 2-99999 3-5 4-100000 5--7 6-99998 7-9223372036854775807 9-1 "},
		{-7, "1-0 2-99999 3-5 4-100000 6-99998 7-9223372036854775807 9-1 "},
		{-1, "1-0 2-99999 3-5 4-100000 6-99998 7-9223372036854775807 9-1 "},
		{0, "2-99999 3-5 4-100000 6-99998 7-9223372036854775807 9-1 "},
		{1, "2-99999 3-5 4-100000 6-99998 7-9223372036854775807 "},
		{99998, "2-99999 4-100000 7-9223372036854775807 "},
		{99999, "4-100000 7-9223372036854775807 "},
		{100000, "7-9223372036854775807 "},
		{math.MaxInt - 1, "7-9223372036854775807 "},
		{math.MaxInt, ""},
	} {
		left := checkSentOn(t, g, g.L, x.now)
		if hostsOf(left) != x.want || left.Last != x.now {
			t.Errorf("Flush at %d: %s, not %s", x.now, hostsOf(left), x.want)
		}
	}
}

func TestFlushOfSomeGroups(t *testing.T) {
	for _, g := range someGroups() {
		for _, now := range append(someTimes(), 7, 8) {
			left := checkSentOn(t, g, g.L, now)
			// Sent on again at once, just those that were left are.
			if again := checkSentOn(t, left, left.L, now); !impl.SameGroup(again, left) {
				t.Fatalf("%+v, sent on again at %d: %+v", left, now, again)
			}
		}
	}
}

func TestNextDue(t *testing.T) {
	for _, x := range []struct{ born, last, wait, every, want int }{
		{3, -1, 2, 5, 5},
		{3, -1, 0, 5, 3},
		{0, -1, 0, 0, 0},
		{99999, -1, 2, 5, 100001},
		{3, 3, 2, 5, 8},
		{3, 0, 2, 5, 5},
		{0, 0, 2, 5, 5},
		{3, 20, 2, 5, 25},
		{3, 20, 2, 0, 20},
		{3, 20, 0, 0, 20},
		{3, 99999, 2, 5, 100004},
		{0, math.MaxInt, 9, 0, math.MaxInt},
		{math.MaxInt, -1, 0, 9, math.MaxInt},
		{0, -1, math.MaxInt, 9, math.MaxInt},
		{0, 0, 9, math.MaxInt, math.MaxInt},
		// -1 alone is never.
		{3, -2, 2, 5, 3},
		{3, math.MinInt, 2, 0, math.MinInt},
		{-9, -1, 2, 5, -7},
		{3, -1, -7, 5, -4},
		{3, 20, 2, -30, -10},
	} {
		for _, g := range []impl.Group{{Born: x.born, Last: x.last}, {N: 4, Key: set("app", "a"), Born: x.born, Last: x.last, L: members(1, 99999)}} {
			was := keepGroup(g)
			if got := impl.NextDue(g, x.wait, x.every); got != x.want {
				t.Errorf("NextDue(%+v, %d, %d) = %d, not %d", g, x.wait, x.every, got, x.want)
			}
			if !sameGroupAsTold(g, was) {
				t.Errorf("%+v is now %+v", was, g)
			}
		}
	}
}

// At numbers that are no times, too, and where the sum is past the greatest number there is an answer.
func TestNextDueOfAnyNumbers(t *testing.T) {
	for _, born := range someTimes() {
		for _, last := range someTimes() {
			for _, wait := range someTimes() {
				for _, every := range []int{math.MinInt, -1, 0, 1, 7, math.MaxInt} {
					want := last + every
					if last == -1 {
						want = born + wait
					}
					if got := impl.NextDue(impl.Group{Born: born, Last: last}, wait, every); got != want {
						t.Fatalf("NextDue of %d, %d, with %d, %d = %d", born, last, wait, every, got)
					}
				}
			}
		}
	}
}

// Many alarms are joined and sent on, too.
func TestGroupsOfMany(t *testing.T) {
	var l []impl.Alarm
	for i := range 30000 {
		l = append(l, member(impl.NumText(100000+2*i), i%100))
	}
	g, by := groupOfApp(l...), []string{"app"}
	if !impl.GroupOk(g, by) || !impl.SameGroup(g, keepGroup(g)) {
		t.Error("many are not right")
	}
	for _, i := range []int{0, 1, 15000, 29999} {
		got := impl.JoinIn(g, member(impl.NumText(100001+2*i), 7))
		if len(got.L) != 30001 || got.L[i+1].End != 7 || !sameAsTold(got.L[i], l[i]) || !impl.GroupOk(got, by) {
			t.Errorf("joined behind %d: %d, %+v", i, len(got.L), got.L[i+1])
		}
		got = impl.JoinIn(g, member(impl.NumText(100000+2*i), 777))
		if len(got.L) != 30000 || got.L[i].End != 777 || !impl.GroupOk(got, by) {
			t.Errorf("joined at %d: %d, %+v", i, len(got.L), got.L[i])
		}
	}
	if left, b := impl.Flush(g, 49); len(left.L) != 15000 || !sameAlarms(b.L, l) || !impl.GroupOk(left, by) {
		t.Errorf("sent on: %d, left: %d", len(b.L), len(left.L))
	}
	g.L = append(g.L, g.L[0])
	if impl.GroupOk(g, by) || impl.SameGroup(g, groupOfApp(l...)) {
		t.Error("many with the first one again are right")
	}
}

// roomyGroups: groups cut out of a roomy list, their keys out of one, too, and a check that all of it is as it was.
func roomyGroups() ([]impl.Group, []impl.Alarm, func(t *testing.T, what string)) {
	_, room, rooms := roomy()
	keys := func() []impl.Label { return set("app", "a", "host", "1", "zone", "x") }
	key := keys()
	cut := func(room []impl.Alarm, key []impl.Label) []impl.Group {
		return []impl.Group{
			{N: 1, Born: 2, Last: -1, Key: key[:1], L: room[:2]},
			{N: 2, Born: 2, Last: 4, Key: key[:2], L: room[1:3]},
			{N: 3, Key: key[1:2], L: room[:4]},
			{N: 4, Key: key[:0], L: room[2:2]},
			{N: 5, Key: key[2:2], L: room[:0]},
			{N: 6, Key: key[:3], L: room[2:4]},
			{N: 7, Key: key[:1], L: room[:1]},
			{N: 8, Key: key[:1], L: room[1:5]},
		}
	}
	groups := cut(room, key)
	return groups, room, func(t *testing.T, what string) {
		t.Helper()
		_, want, _ := roomy()
		checkRoom(t, what, room, rooms)
		if !slices.Equal(key, keys()) || !slices.EqualFunc(groups, cut(want, keys()), sameGroupAsTold) {
			t.Errorf("%s: the groups are now %+v, their keys %q", what, groups, key)
		}
	}
}

// keyed: a key as the labels of an alarm, so that it may be marked with others.
func keyed(key []impl.Label) []impl.Alarm {
	return []impl.Alarm{{L: key}}
}

// What JoinIn answers shares no memory with the group or the alarm, nor one of its lists with another.
func TestJoinInMakesNewMemory(t *testing.T) {
	groups, room, check := roomyGroups()
	alarms, own := roomyAlarms(room)
	kept := slices.Clone(own)
	for _, g := range groups {
		for _, a := range alarms {
			if got := checkJoin(t, g, a); !markAll(got.L, keyed(got.Key)) {
				t.Errorf("JoinIn(%+v, %+v): lists of the answer share memory", g, a)
			}
			check(t, "joined and marked")
			if !slices.Equal(own, kept) {
				t.Errorf("the alarm's labels are now %q", own)
			}
		}
		// Labels that are the key's own memory.
		if got := checkJoin(t, g, impl.Alarm{L: g.Key, End: 5}); !markAll(got.L, keyed(got.Key)) {
			t.Errorf("JoinIn(%+v, of its key): lists of the answer share memory", g)
		}
		check(t, "joined by its key and marked")
	}
}

// Nor does what Flush answers, and neither the group with the Batch, also where all stay.
func TestFlushMakesNewMemory(t *testing.T) {
	groups, _, check := roomyGroups()
	met := map[int]int{}
	for _, g := range groups {
		for _, now := range []int{-1, 1, 2, 7, 8, 9, 19, 20, 99999} {
			left, b := checkFlush(t, g, now)
			met[len(left.L)]++
			if !markAll(left.L, b.L, keyed(left.Key), keyed(b.Key)) {
				t.Errorf("Flush(%+v, %d): lists of the answer share memory", g, now)
			}
			check(t, "sent on and marked")
		}
	}
	for n := range 5 {
		if met[n] == 0 {
			t.Errorf("never are %d left: %v", n, met)
		}
	}
}

// What is over, or replaced, is not handed out behind the list's length, either.
func TestNothingOverIsLeftBehind(t *testing.T) {
	for _, ends := range [][]int{{1, 9, 1}, {9, 1, 1, 1, 1}, {1, 1, 1, 9}, {1, 1, 1}, {9, 9, 9}, {9, 1, 9, 1, 9, 1, 9}} {
		g := groupOfApp(members(ends...)...)
		left, b := impl.Flush(g, 1)
		for _, l := range [][]impl.Alarm{left.L, b.L, impl.JoinIn(g, member("2", 5)).L, impl.JoinIn(g, member("20", 5)).L} {
			for _, a := range l[len(l):cap(l)] {
				if !sameAsTold(a, impl.Alarm{}) {
					t.Errorf("of %v there lies %+v behind %+v", ends, a, l)
				}
			}
		}
	}
}

// What lies behind the lists is not read, either.
func TestGroupsAreReadToTheirLengthAlone(t *testing.T) {
	whole := append(members(5, 6, 7), impl.Alarm{}, member("1", 1))
	key := set("app", "a", "app", "b")
	g := groupOfApp(whole[:2]...)
	g.L, g.Key = whole[:2], key[:1]
	by := []string{"app", "host"}[:1]
	if !checkGroupOk(t, g, by) || !impl.SameGroup(g, groupOfApp(members(5, 6)...)) || !impl.SameGroup(groupOfApp(members(5, 6)...), g) {
		t.Errorf("%+v is not right", g)
	}
	if got := checkJoin(t, g, member("3", 8)); hostsOf(got) != "1-5 2-6 3-8 " {
		t.Errorf("%+v, joined by one more: %+v", g, got)
	}
	if left, b := checkFlush(t, g, 5); hostsOf(left) != "2-6 " || len(b.L) != 2 || len(b.Key) != 1 {
		t.Errorf("%+v, sent on: %+v, %+v", g, left, b)
	}
	none := groupOfApp()
	none.L = whole[:0]
	if checkGroupOk(t, none, by) || len(checkJoin(t, none, whole[0]).L) != 1 || len(checkSentOn(t, none, nil, 3).L) != 0 {
		t.Errorf("what lies behind %+v counts", none)
	}
	if !sameAlarms(whole, append(members(5, 6, 7), impl.Alarm{}, member("1", 1))) || !slices.Equal(key, set("app", "a", "app", "b")) {
		t.Errorf("the lists are now %+v, %q", whole, key)
	}
}
