package tests

import (
	"math"
	"slices"
	"strings"
	"testing"

	"loop.example/g00490/impl"
)

// byAsTold: ByOk in the words of the document.
func byAsTold(by []string) bool {
	for i, name := range by {
		if name == "" || len(name) > 8 || !onlyBytes(name, smallByte) {
			return false
		}
		for _, behind := range by[i+1:] {
			if !lessAsTold(name, behind) {
				return false
			}
		}
	}
	return len(by) <= 2
}

// projectAsTold: Project in the words of the document.
func projectAsTold(l []impl.Label, by []string) []impl.Label {
	var got []impl.Label
	for _, x := range l {
		counts := false
		for _, name := range by {
			counts = counts || name == x.Name
		}
		if counts {
			got = append(got, x)
		}
	}
	return got
}

// keysAsTold: Keys in the words of the document.
func keysAsTold(l []impl.Alarm, by []string) [][]impl.Label {
	var keys [][]impl.Label
	for i, a := range l {
		first := true
		for _, ahead := range l[:i] {
			first = first && !slices.Equal(projectAsTold(ahead.L, by), projectAsTold(a.L, by))
		}
		if first {
			keys = append(keys, projectAsTold(a.L, by))
		}
	}
	return keys
}

func sameSets(a, b [][]impl.Label) bool {
	return slices.EqualFunc(a, b, slices.Equal[[]impl.Label])
}

func keepAlarms(l []impl.Alarm) []impl.Alarm {
	var kept []impl.Alarm
	for _, a := range l {
		kept = append(kept, keepAlarm(a))
	}
	return kept
}

func sameAlarms(a, b []impl.Alarm) bool {
	return slices.EqualFunc(a, b, sameAsTold)
}

// howOften: how many of the keys are this one.
func howOften(keys [][]impl.Label, key []impl.Label) int {
	n := 0
	for _, k := range keys {
		if slices.Equal(k, key) {
			n++
		}
	}
	return n
}

// keyedAlarms: alarms with all labels that count, some of them, others, none, and such that are not AlarmOk.
func keyedAlarms() []impl.Alarm {
	return []impl.Alarm{
		alarm(0, 1, "", "app", "x", "host", "1"),
		alarm(2, 3, "late", "app", "x", "host", "2"),
		alarm(0, 1, "", "app", "y", "host", "1"),
		alarm(0, 1, "", "app", "x"),
		alarm(0, 1, "", "host", "1"),
		alarm(0, 1, "", "job", "scan"),
		alarm(-1, math.MinInt, "\"", "host", "1", "app", "x"),
		alarm(9, 3, "", "app", "x", "app", "x"),
		{},
	}
}

// someBys: right and wrong ones, by no name at all, by a name of none, out of order, and twice by one.
func someBys() [][]string {
	return append(allLists([]string{"app", "host", "zone", ""}, 3), nil, []string{}, []string{"App", "hos", "hosts", "ho\x00"}, []string{"job"})
}

// checkKeys: that Keys answers as told, that each alarm's key is once among the keys, and that those Together have one.
func checkKeys(t *testing.T, l []impl.Alarm, by []string) [][]impl.Label {
	t.Helper()
	was, wasBy := keepAlarms(l), slices.Clone(by)
	keys := impl.Keys(l, by)
	if want := keysAsTold(l, by); !sameSets(keys, want) {
		t.Fatalf("Keys(%+v, %q) = %q, not %q", l, by, keys, want)
	}
	for _, a := range l {
		key := impl.KeyOf(a, by)
		if howOften(keys, key) != 1 {
			t.Fatalf("%q of %+v by %q is not once among %q", key, a, by, keys)
		}
		for _, b := range l {
			if got := impl.Together(a, b, by); got != slices.Equal(key, impl.KeyOf(b, by)) {
				t.Fatalf("Together(%+v, %+v, %q) = %v", a, b, by, got)
			}
		}
	}
	for i, x := range keys {
		for j, y := range keys {
			if impl.SameSet(x, y) != (i == j) {
				t.Fatalf("%q of %q and %q of it are the same", x, keys, y)
			}
		}
	}
	if !sameAlarms(l, was) || !slices.Equal(by, wasBy) {
		t.Fatalf("%+v, %q is now %+v, %q", was, wasBy, l, by)
	}
	return keys
}

// Promise 5: each alarm's key is among the keys.
func TestPromise5EachKeyIsAmongTheKeys(t *testing.T) {
	counts := map[int]int{}
	for _, l := range allLists(keyedAlarms(), 3) {
		for _, by := range someBys() {
			counts[len(checkKeys(t, l, by))]++
		}
	}
	for n := range 4 {
		if counts[n] == 0 {
			t.Errorf("nothing has %d keys", n)
		}
	}
}

// All of them at once, and each turned round, so that other keys come first.
func TestPromise5OfManyAlarms(t *testing.T) {
	l := append(someAlarms()[:60], keyedAlarms()...)
	for _, by := range someBys() {
		keys := checkKeys(t, l, by)
		back := slices.Clone(l)
		slices.Reverse(back)
		turned := checkKeys(t, back, by)
		if len(turned) != len(keys) {
			t.Errorf("by %q: %q and %q", by, keys, turned)
		}
		for _, key := range keys {
			if howOften(turned, key) != 1 {
				t.Errorf("by %q: %q is not among %q", by, key, turned)
			}
		}
	}
}

// By no name at all any two belong together, and there is one key, which is empty.
func TestByNoNameAtAll(t *testing.T) {
	names := []string{"app", "host"}
	for _, by := range [][]string{nil, {}, names[:0], names[1:1]} {
		if !impl.ByOk(by) {
			t.Errorf("not ByOk(%#v)", by)
		}
		for _, a := range keyedAlarms() {
			if got := impl.Project(a.L, by); len(got) != 0 {
				t.Errorf("Project(%q, %#v) = %q", a.L, by, got)
			}
			if got := impl.KeyOf(a, by); len(got) != 0 {
				t.Errorf("KeyOf(%+v, %#v) = %q", a, by, got)
			}
			if got := impl.Keys([]impl.Alarm{a}, by); len(got) != 1 || len(got[0]) != 0 {
				t.Errorf("Keys of %+v by %#v = %q", a, by, got)
			}
			for _, b := range keyedAlarms() {
				if !impl.Together(a, b, by) {
					t.Errorf("not Together(%+v, %+v, %#v)", a, b, by)
				}
			}
		}
		if got := impl.Keys(keyedAlarms(), by); len(got) != 1 || len(got[0]) != 0 {
			t.Errorf("Keys by %#v = %q", by, got)
		}
		if got := impl.Keys(nil, by); len(got) != 0 {
			t.Errorf("Keys(nil, %#v) = %q", by, got)
		}
	}
}

func TestByOk(t *testing.T) {
	for _, c := range []struct {
		by   []string
		want bool
	}{
		{nil, true},
		{[]string{}, true},
		{[]string{"a"}, true},
		{[]string{"app"}, true},
		{[]string{"zzzzzzzz"}, true},
		{[]string{"app", "host"}, true},
		{[]string{"a", "aa"}, true},
		{[]string{"abcdefgh", "zzzzzzzz"}, true},
		{[]string{"host", "app"}, false},
		{[]string{"aa", "a"}, false},
		{[]string{"app", "app"}, false},
		{[]string{"a", "b", "c"}, false},
		{[]string{"a", "b", "c", "d"}, false},
		{[]string{"a", "a", "a"}, false},
		{[]string{""}, false},
		{[]string{"", "a"}, false},
		{[]string{"a", ""}, false},
		{[]string{"", "", ""}, false},
		{[]string{"abcdefghi"}, false},
		{[]string{"a", "abcdefghi"}, false},
		{[]string{"App"}, false},
		{[]string{"A", "a"}, false},
		{[]string{"a", "bC"}, false},
		{[]string{"a1"}, false},
		{[]string{" a"}, false},
		{[]string{"a", "b "}, false},
		{[]string{"a", "{"}, false},
		{[]string{"`", "a"}, false},
		{[]string{"a\x00"}, false},
		{[]string{"\xff"}, false},
		{[]string{"a", "caf\u00e9"}, false},
		{[]string{strings.Repeat("a", 100000)}, false},
		{make([]string, 100000), false},
	} {
		was := slices.Clone(c.by)
		if got := impl.ByOk(c.by); got != c.want {
			t.Errorf("ByOk(%.200q) = %v", c.by, got)
		}
		if !slices.Equal(c.by, was) {
			t.Errorf("%.200q is now %.200q", was, c.by)
		}
	}
}

func TestByOkOfAllShortLists(t *testing.T) {
	words := []string{"", "a", "aa", "b", "zzzzzzzz", "zzzzzzzzz", "A", "a1", "\xff"}
	for _, by := range allLists(words, 4) {
		if got := impl.ByOk(by); got != byAsTold(by) {
			t.Fatalf("ByOk(%q) = %v", by, got)
		}
	}
	for _, name := range shortTexts(everyByte(), 2) {
		if by := []string{name}; impl.ByOk(by) != byAsTold(by) {
			t.Errorf("ByOk(%q) = %v", by, impl.ByOk(by))
		}
	}
}

func TestProject(t *testing.T) {
	l := set("app", "x", "host", "1", "job", "scan", "zone", "")
	for _, c := range []struct {
		l    []impl.Label
		by   []string
		want []impl.Label
	}{
		{l, nil, nil},
		{l, []string{}, nil},
		{l, []string{"sev"}, nil},
		{l, []string{"app"}, set("app", "x")},
		{l, []string{"host"}, set("host", "1")},
		{l, []string{"zone"}, set("zone", "")},
		{l, []string{"app", "zone"}, set("app", "x", "zone", "")},
		{l, []string{"host", "sev"}, set("host", "1")},
		{l, []string{"app", "host", "job", "zone"}, l},
		// The order is that of the labels, not of by; a name that stands twice in by counts once.
		{l, []string{"zone", "app"}, set("app", "x", "zone", "")},
		{l, []string{"zone", "job", "host", "app"}, l},
		{l, []string{"host", "host"}, set("host", "1")},
		{l, []string{"host", "app", "host", "app"}, set("app", "x", "host", "1")},
		// A name counts as a whole, and no Val does.
		{l, []string{"ho", "hosts", "ost", "Host", "host ", "host\x00", ""}, nil},
		{l, []string{"x", "1", "scan"}, nil},
		{nil, nil, nil},
		{nil, []string{"app"}, nil},
		{[]impl.Label{}, []string{"app"}, nil},
		// Labels that are not SetOk: each as often as it stands there, in their order.
		{set("host", "1", "app", "x"), []string{"app", "host"}, set("host", "1", "app", "x")},
		{set("app", "x", "app", "y", "host", "1"), []string{"app"}, set("app", "x", "app", "y")},
		{set("app", "y", "host", "1", "app", "x"), []string{"app"}, set("app", "y", "app", "x")},
		{set("app", "x", "app", "x"), []string{"app"}, set("app", "x", "app", "x")},
		{set("app", "x", "app", "x"), []string{"app", "app"}, set("app", "x", "app", "x")},
		{set("app", "x", "app", "x"), []string{"host"}, nil},
		{set("a", "", "b", "", "c", "", "d", "", "e", "", "f", ""), []string{"a", "f"}, set("a", "", "f", "")},
		// Names that are none count, too, where both have them.
		{set("", "none", "App", "\"", "app", "\xff"), []string{"App", ""}, set("", "none", "App", "\"")},
		{set("abcdefghi", "1", "\xff", "2"), []string{"\xff", "abcdefghi"}, set("abcdefghi", "1", "\xff", "2")},
	} {
		was, wasBy := slices.Clone(c.l), slices.Clone(c.by)
		if got := impl.Project(c.l, c.by); !slices.Equal(got, c.want) {
			t.Errorf("Project(%q, %q) = %q", c.l, c.by, got)
		}
		for _, a := range []impl.Alarm{{L: c.l, Start: 3, End: 8, Note: "one"}, {L: c.l, Start: 8, End: -3, Note: "\""}} {
			if got := impl.KeyOf(a, c.by); !slices.Equal(got, c.want) {
				t.Errorf("KeyOf(%+v, %q) = %q", a, c.by, got)
			}
		}
		if !slices.Equal(c.l, was) || !slices.Equal(c.by, wasBy) {
			t.Errorf("%q, %q is now %q, %q", was, wasBy, c.l, c.by)
		}
	}
}

func TestProjectOfAllShortLists(t *testing.T) {
	for _, l := range allLists(set("a", "1", "a", "2", "b", "", "c", "\"", "", "x"), 4) {
		for _, by := range allLists([]string{"a", "b", "", "z"}, 3) {
			if got := impl.Project(l, by); !slices.Equal(got, projectAsTold(l, by)) {
				t.Fatalf("Project(%q, %q) = %q", l, by, got)
			}
		}
	}
}

func TestProjectOfManyLabels(t *testing.T) {
	l := make([]impl.Label, 100000)
	for i := range l {
		l[i] = impl.Label{Name: []string{"app", "host", "job"}[i%3]}
	}
	if got := impl.Project(l, []string{"host", "zone", "app"}); len(got) != 66667 || got[66666].Name != "app" || got[66665].Name != "host" {
		t.Errorf("%d of 100000", len(got))
	}
}

func TestTogether(t *testing.T) {
	one := alarm(3, 8, "one", "app", "x", "host", "1")
	for _, c := range []struct {
		a, b impl.Alarm
		by   []string
		want bool
	}{
		{one, one, []string{"app"}, true},
		{one, one, []string{"app", "host"}, true},
		{one, one, []string{"zone"}, true},
		// Alike in the labels that count, unlike in the others, in times and in note.
		{one, alarm(3, 8, "one", "app", "x", "host", "2"), []string{"app"}, true},
		{one, alarm(50, 60, "two", "app", "x", "job", "scan"), []string{"app"}, true},
		{one, alarm(8, -3, "\"", "app", "x", "host", "1"), []string{"app", "host"}, true},
		{one, alarm(3, 8, "one", "app", "x", "host", "2"), []string{"app", "host"}, false},
		{one, alarm(3, 8, "one", "app", "x", "host", "2"), []string{"host"}, false},
		{one, alarm(3, 8, "one", "app", "X", "host", "1"), []string{"app"}, false},
		{one, alarm(3, 8, "one", "app", "", "host", "1"), []string{"app"}, false},
		// One lacks the label, or both do; an empty Val is not a lack.
		{one, alarm(3, 8, "one", "app", "x"), []string{"host"}, false},
		{one, alarm(3, 8, "one", "app", "x"), []string{"app", "host"}, false},
		{one, alarm(3, 8, "one", "app", "x"), []string{"app"}, true},
		{alarm(3, 8, "one", "app", "x", "host", ""), alarm(3, 8, "one", "app", "x"), []string{"host"}, false},
		{one, alarm(3, 8, "one", "job", "scan"), []string{"zone"}, true},
		{one, impl.Alarm{}, []string{"app"}, false},
		{one, impl.Alarm{}, []string{"zone"}, true},
		{one, impl.Alarm{}, nil, true},
		{impl.Alarm{}, impl.Alarm{}, []string{"app"}, true},
		{alarm(3, 8, "one", "app", "x"), alarm(3, 8, "one", "host", "x"), []string{"app", "host"}, false},
		// Labels that are not SetOk are held against each other as they stand.
		{one, alarm(3, 8, "one", "host", "1", "app", "x"), []string{"app", "host"}, false},
		{one, alarm(3, 8, "one", "host", "1", "app", "x"), []string{"app"}, true},
		{one, alarm(3, 8, "one", "app", "x", "app", "x"), []string{"app"}, false},
		{one, alarm(3, 8, "one", "app", "x", "app", "y"), []string{"app"}, false},
		// Nor need by be ByOk.
		{one, alarm(3, 8, "one", "app", "x", "host", "1"), []string{"host", "app"}, true},
		{one, alarm(3, 8, "one", "app", "x", "host", "2"), []string{"app", "app"}, true},
		{one, alarm(3, 8, "one", "app", "x", "host", "2"), []string{"App", "zone", ""}, true},
	} {
		wasA, wasB, wasBy := keepAlarm(c.a), keepAlarm(c.b), slices.Clone(c.by)
		if got := impl.Together(c.a, c.b, c.by); got != c.want {
			t.Errorf("Together(%+v, %+v, %q) = %v", c.a, c.b, c.by, got)
		}
		if got := impl.Together(c.b, c.a, c.by); got != c.want {
			t.Errorf("Together(%+v, %+v, %q) = %v", c.b, c.a, c.by, got)
		}
		if !sameAsTold(c.a, wasA) || !sameAsTold(c.b, wasB) || !slices.Equal(c.by, wasBy) {
			t.Errorf("%+v, %+v, %q is now %+v, %+v, %q", wasA, wasB, wasBy, c.a, c.b, c.by)
		}
	}
}

func TestKeysInTheOrderInWhichTheyComeFirst(t *testing.T) {
	l := []impl.Alarm{
		alarm(0, 1, "", "app", "y", "host", "2"),
		alarm(0, 1, "", "app", "x", "host", "2"),
		alarm(5, 6, "", "app", "y", "host", "1"),
		alarm(0, 1, "", "host", "1"),
		alarm(9, 1, "\"", "app", "x", "host", "1"),
		alarm(0, 1, "", "app", "a"),
		alarm(0, 1, "", "host", "3"),
		{},
	}
	for _, c := range []struct {
		l    []impl.Alarm
		by   []string
		want [][]impl.Label
	}{
		{nil, []string{"app"}, nil},
		{[]impl.Alarm{}, []string{"app"}, nil},
		{l[:1], []string{"app"}, [][]impl.Label{set("app", "y")}},
		{l[7:], []string{"app"}, [][]impl.Label{nil}},
		{l[:2], []string{"app"}, [][]impl.Label{set("app", "y"), set("app", "x")}},
		{l, []string{"app"}, [][]impl.Label{set("app", "y"), set("app", "x"), nil, set("app", "a")}},
		{l, []string{"host"}, [][]impl.Label{set("host", "2"), set("host", "1"), nil, set("host", "3")}},
		{l[:5], []string{"app", "host"}, [][]impl.Label{
			set("app", "y", "host", "2"), set("app", "x", "host", "2"), set("app", "y", "host", "1"), set("host", "1"), set("app", "x", "host", "1"),
		}},
		{l[:5], []string{"host", "app", "host"}, [][]impl.Label{
			set("app", "y", "host", "2"), set("app", "x", "host", "2"), set("app", "y", "host", "1"), set("host", "1"), set("app", "x", "host", "1"),
		}},
		{[]impl.Alarm{l[0], l[0], l[2], l[0]}, []string{"app"}, [][]impl.Label{set("app", "y")}},
		{l, []string{"zone"}, [][]impl.Label{nil}},
		{l, nil, [][]impl.Label{nil}},
	} {
		was := keepAlarms(c.l)
		if got := impl.Keys(c.l, c.by); !sameSets(got, c.want) {
			t.Errorf("Keys(%+v, %q) = %q", c.l, c.by, got)
		}
		if !sameAlarms(c.l, was) {
			t.Errorf("%+v is now %+v", was, c.l)
		}
	}
}

// Keys that fall into one text when they are written one behind the other are still two.
func TestKeysThatLookAlike(t *testing.T) {
	l := []impl.Alarm{
		alarm(0, 1, "", "a", "1", "b", "2"),
		alarm(0, 1, "", "a", "1b2"),
		alarm(0, 1, "", "a", "1\", b=\"2"),
		alarm(0, 1, "", "ab", "", "a", ""),
		alarm(0, 1, "", "a", "", "ab", ""),
		alarm(0, 1, "", "a", "ab"),
		alarm(0, 1, "", "a", "\x00ab\x00"),
		alarm(0, 1, "", "host", "1"),
		alarm(0, 1, "", "host", "6"),
		alarm(0, 1, "", "a", "\""),
		alarm(0, 1, "", "a", "\\"),
	}
	by := []string{"a", "b", "ab", "host"}
	if got := checkKeys(t, l, by); len(got) != len(l) {
		t.Errorf("Keys(%+v, %q) = %q", l, by, got)
	}
}

// What Project and KeyOf answer shares no memory with the labels, nor with what lies behind them or behind by.
func TestProjectMakesNewMemory(t *testing.T) {
	names := []string{"app", "host", "job"}
	for _, by := range [][]string{names[:0], names[:1], names[1:2], names[:2], {"zone"}} {
		for n := range 4 {
			for _, project := range []func(l []impl.Label, by []string) []impl.Label{
				impl.Project,
				func(l []impl.Label, by []string) []impl.Label { return impl.KeyOf(impl.Alarm{L: l}, by) },
			} {
				room := set("app", "x", "host", "1", "job", "scan")
				want := projectAsTold(room[:n], by)
				got := project(room[:n], by)
				if !slices.Equal(got, want) {
					t.Fatalf("of %d by %q: %q", n, by, got)
				}
				kept := project(room[:n], by)
				for i := range got {
					got[i] = impl.Label{Name: "other"}
				}
				_ = append(got, impl.Label{Name: "other"})
				if !slices.Equal(room, set("app", "x", "host", "1", "job", "scan")) {
					t.Errorf("of %d by %q: the labels are now %q", n, by, room)
				}
				clear(room)
				if !slices.Equal(kept, want) {
					t.Errorf("of %d by %q: what was answered is now %q", n, by, kept)
				}
			}
		}
	}
	if !slices.Equal(names, []string{"app", "host", "job"}) {
		t.Errorf("the names are now %q", names)
	}
}

// What lies behind the lists is not read, either.
func TestKeysAreReadToTheirLengthAlone(t *testing.T) {
	room, names := set("app", "x", "host", "1"), []string{"app", "host"}
	a, b := impl.Alarm{L: room[:1]}, impl.Alarm{L: set("app", "x", "host", "2")}
	if !impl.Together(a, b, names[:1]) || impl.Together(a, b, names) || !impl.ByOk([]string{"a", "A"}[:1]) || !impl.ByOk([]string{"a", "b", "c"}[:2]) {
		t.Error("what lies behind the lists is read")
	}
	l := []impl.Alarm{a, b, {}}
	if got := impl.Keys(l[:2], names[:1]); !sameSets(got, [][]impl.Label{set("app", "x")}) {
		t.Errorf("%q", got)
	}
	if !slices.Equal(room, set("app", "x", "host", "1")) || !slices.Equal(names, []string{"app", "host"}) || len(l[2].L) != 0 {
		t.Errorf("the lists are now %q, %q, %+v", room, names, l)
	}
}

// No two of the keys share memory, and none shares it with an alarm.
func TestKeysMakesNewMemory(t *testing.T) {
	fresh := func() []impl.Alarm {
		room := set("app", "x", "host", "1", "job", "scan")
		return []impl.Alarm{
			{L: room[:1]}, {L: room[:2]}, {L: room[1:2]}, {L: room}, {L: room[:0]}, {L: room[2:]}, {L: set("app", "y", "host", "2")},
		}
	}
	for _, by := range [][]string{nil, {"app"}, {"host"}, {"app", "host"}, {"app", "host", "job"}} {
		l := fresh()
		want := keysAsTold(fresh(), by)
		kept := impl.Keys(l, by)
		for i := range kept {
			keys := impl.Keys(l, by)
			for j := range keys[i] {
				keys[i][j] = impl.Label{Name: "other"}
			}
			_ = append(keys[i], impl.Label{Name: "other"})
			for j := range keys {
				if j != i && !slices.Equal(keys[j], want[j]) {
					t.Errorf("by %q: the keys are now %q", by, keys)
				}
			}
		}
		if !sameAlarms(l, fresh()) {
			t.Errorf("by %q: the alarms are now %+v", by, l)
		}
		for _, a := range l {
			clear(a.L)
		}
		if !sameSets(kept, want) {
			t.Errorf("by %q: what was answered is now %q", by, kept)
		}
	}
}

func TestKeysOfManyAlarms(t *testing.T) {
	var l []impl.Alarm
	for i := range 3000 {
		l = append(l, alarm(0, 1, "", "app", impl.NumText(i%1000), "host", impl.NumText(i)))
	}
	for by, want := range map[string]int{"app": 1000, "host": 3000, "zone": 1} {
		keys := impl.Keys(l, []string{by})
		if len(keys) != want {
			t.Errorf("by %q: %d keys", by, len(keys))
		}
		for i, key := range keys {
			if !slices.Equal(key, projectAsTold(l[i].L, []string{by})) {
				t.Fatalf("by %q: key %d is %q", by, i, key)
			}
		}
	}
}
