package tests

import (
	"math"
	"slices"
	"strconv"
	"strings"
	"testing"

	"loop.example/g00490/impl"
)

func alarm(start, end int, note string, words ...string) impl.Alarm {
	return impl.Alarm{L: set(words...), Start: start, End: end, Note: note}
}

// alarmAsTold: AlarmOk in the words of the document.
func alarmAsTold(a impl.Alarm) bool {
	if len(a.L) < 1 || !setAsTold(a.L) {
		return false
	}
	if a.Start < 0 || a.Start > 99999 || a.End < 0 || a.End > 99999 || a.Start > a.End {
		return false
	}
	return len(a.Note) <= 12 && onlyBytes(a.Note, plainByte)
}

func sameAsTold(a, b impl.Alarm) bool {
	return slices.Equal(a.L, b.L) && a.Start == b.Start && a.End == b.End && a.Note == b.Note
}

func touchAsTold(a, b impl.Alarm) bool {
	return !(a.Start > b.End) && !(b.Start > a.End)
}

func mergeAsTold(a, b impl.Alarm) impl.Alarm {
	b.L = slices.Clone(b.L)
	if touchAsTold(a, b) && a.Start < b.Start {
		b.Start = a.Start
	}
	return b
}

func alarmTextAsTold(a impl.Alarm) string {
	if !alarmAsTold(a) {
		return ""
	}
	return setTextAsTold(a.L) + " " + strconv.Itoa(a.Start) + "-" + strconv.Itoa(a.End) + " \"" + a.Note + "\""
}

// keepAlarm: a copy that shares nothing with the alarm, to hold it against later.
func keepAlarm(a impl.Alarm) impl.Alarm {
	a.L = slices.Clone(a.L)
	return a
}

// someTimes: times around both limits, the greatest numbers, and those in between that just touch.
func someTimes() []int {
	return []int{math.MinInt, -1, 0, 1, 4, 5, 6, 99998, 99999, 100000, math.MaxInt}
}

// someAlarms: of all times, those with Start above End among them, some labels and some notes.
func someAlarms() []impl.Alarm {
	var l []impl.Alarm
	for _, start := range someTimes() {
		for _, end := range someTimes() {
			l = append(l,
				alarm(start, end, "", "app", "x"),
				alarm(start, end, "disk is full", "app", "x", "host", "1"),
				alarm(start, end, "\"", "b", "", "a", ""),
				alarm(start, end, "x"),
			)
		}
	}
	return l
}

// checkMerge: that Merge of both answers as told, and the same again when merged again.
func checkMerge(t *testing.T, a, b impl.Alarm) {
	t.Helper()
	wasA, wasB := keepAlarm(a), keepAlarm(b)
	m := impl.Merge(a, b)
	if want := mergeAsTold(a, b); !sameAsTold(m, want) {
		t.Fatalf("Merge(%+v, %+v) = %+v, not %+v", a, b, m, want)
	}
	for _, x := range []impl.Alarm{a, b, m} {
		if again := impl.Merge(x, m); !sameAsTold(again, m) || !impl.SameAlarm(again, m) {
			t.Fatalf("Merge(%+v, %+v) = %+v", x, m, again)
		}
	}
	if !sameAsTold(a, wasA) || !sameAsTold(b, wasB) {
		t.Fatalf("%+v and %+v are now %+v and %+v", wasA, wasB, a, b)
	}
}

// Promise 4: what is merged again is the same.
func TestPromise4WhatIsMergedAgainIsTheSame(t *testing.T) {
	alarms := someAlarms()
	for _, a := range alarms {
		for _, b := range alarms {
			checkMerge(t, a, b)
		}
		if m := impl.Merge(a, a); !sameAsTold(m, a) || !impl.SameAlarm(m, a) {
			t.Fatalf("Merge(%+v, itself) = %+v", a, m)
		}
	}
}

// All alarms that are right and lie within few times: what they are merged to is right, too.
func TestPromise4OfRightAlarms(t *testing.T) {
	const last = 7
	var alarms []impl.Alarm
	for start := range last + 1 {
		for end := start; end <= last; end++ {
			alarms = append(alarms, alarm(start, end, "n"+strconv.Itoa(len(alarms)), "app", "x"))
		}
	}
	merged, apart := 0, 0
	for _, a := range alarms {
		for _, b := range alarms {
			checkMerge(t, a, b)
			m := impl.Merge(a, b)
			if !impl.AlarmOk(m) || m.End != b.End || m.Note != b.Note {
				t.Fatalf("Merge(%+v, %+v) = %+v", a, b, m)
			}
			if sameAsTold(m, b) {
				apart++
			} else {
				merged++
			}
		}
	}
	if merged == 0 || apart == 0 {
		t.Errorf("%d were merged, %d were not", merged, apart)
	}
}

func TestMerge(t *testing.T) {
	for _, c := range []struct{ a, b, want impl.Alarm }{
		// They lie apart: b as it is, whichever comes first.
		{alarm(3, 4, "one", "a", ""), alarm(5, 9, "two", "a", ""), alarm(5, 9, "two", "a", "")},
		{alarm(5, 9, "two", "a", ""), alarm(3, 4, "one", "a", ""), alarm(3, 4, "one", "a", "")},
		// They just touch.
		{alarm(3, 5, "one", "a", ""), alarm(5, 9, "two", "a", ""), alarm(3, 9, "two", "a", "")},
		{alarm(5, 9, "two", "a", ""), alarm(3, 5, "one", "a", ""), alarm(3, 5, "one", "a", "")},
		{alarm(5, 5, "one", "a", ""), alarm(5, 5, "two", "a", ""), alarm(5, 5, "two", "a", "")},
		{alarm(0, 0, "", "a", ""), alarm(0, 99999, "", "a", ""), alarm(0, 99999, "", "a", "")},
		{alarm(0, 99999, "", "a", ""), alarm(99999, 99999, "", "a", ""), alarm(0, 99999, "", "a", "")},
		// One lies across the other, or in it: the End is b's, even where it is the lesser.
		{alarm(3, 8, "one", "a", ""), alarm(5, 9, "two", "a", ""), alarm(3, 9, "two", "a", "")},
		{alarm(5, 9, "two", "a", ""), alarm(3, 8, "one", "a", ""), alarm(3, 8, "one", "a", "")},
		{alarm(1, 9, "out", "a", ""), alarm(4, 5, "in", "a", ""), alarm(1, 5, "in", "a", "")},
		{alarm(4, 5, "in", "a", ""), alarm(1, 9, "out", "a", ""), alarm(1, 9, "out", "a", "")},
		{alarm(3, 8, "one", "a", ""), alarm(3, 9, "two", "a", ""), alarm(3, 9, "two", "a", "")},
		// Labels and note are b's, also where they are unlike, wrong, or none.
		{alarm(3, 8, "one", "a", "1"), alarm(5, 9, "", "b", "2", "c", ""), alarm(3, 9, "", "b", "2", "c", "")},
		{alarm(3, 8, "one", "a", "1"), alarm(5, 9, "\"", "b", "", "a", ""), alarm(3, 9, "\"", "b", "", "a", "")},
		{alarm(3, 8, "one", "a", "1"), alarm(5, 9, "two"), alarm(3, 9, "two")},
		{alarm(3, 8, "one"), alarm(5, 9, "two", "a", "1"), alarm(3, 9, "two", "a", "1")},
		// Times that are no alarm's are held against each other all the same.
		{alarm(-5, -1, "", "a", ""), alarm(-1, 3, "", "a", ""), alarm(-5, 3, "", "a", "")},
		{alarm(9, 3, "", "a", ""), alarm(4, 20, "", "a", ""), alarm(4, 20, "", "a", "")},
		{alarm(9, 4, "", "a", ""), alarm(4, 20, "", "a", ""), alarm(4, 20, "", "a", "")},
		{alarm(2, 1, "", "a", ""), alarm(2, 1, "", "a", ""), alarm(2, 1, "", "a", "")},
		{alarm(math.MinInt, math.MaxInt, "", "a", ""), alarm(math.MaxInt, math.MaxInt, "", "a", ""), alarm(math.MinInt, math.MaxInt, "", "a", "")},
		{impl.Alarm{}, impl.Alarm{}, impl.Alarm{}},
	} {
		wasA, wasB := keepAlarm(c.a), keepAlarm(c.b)
		if got := impl.Merge(c.a, c.b); !sameAsTold(got, c.want) {
			t.Errorf("Merge(%+v, %+v) = %+v", c.a, c.b, got)
		}
		if !sameAsTold(c.a, wasA) || !sameAsTold(c.b, wasB) {
			t.Errorf("%+v and %+v are now %+v and %+v", wasA, wasB, c.a, c.b)
		}
	}
}

// What Merge answers shares no memory with an alarm, nor with what lies behind its labels.
func TestMergeMakesNewMemory(t *testing.T) {
	for _, start := range []int{3, 20} {
		roomA, roomB := set("a", "1", "b", "2", "c", "3"), set("d", "4", "e", "5", "f", "6")
		a := impl.Alarm{L: roomA[:2], Start: start, End: start + 5}
		b := impl.Alarm{L: roomB[:1], Start: 5, End: 9}
		m := impl.Merge(a, b)
		if len(m.L) != 1 {
			t.Fatalf("%+v", m)
		}
		m.L = append(m.L, impl.Label{Name: "x"})
		m.L[0].Val = "y"
		if !slices.Equal(roomA, set("a", "1", "b", "2", "c", "3")) || !slices.Equal(roomB, set("d", "4", "e", "5", "f", "6")) {
			t.Errorf("the labels are now %q and %q", roomA, roomB)
		}
		kept := impl.Merge(a, b)
		roomA[0].Val, roomB[0].Val = "z", "z"
		if !slices.Equal(kept.L, set("d", "4")) {
			t.Errorf("what was merged is now %+v", kept)
		}
		none := impl.Merge(a, impl.Alarm{L: roomB[:0], Start: 5, End: 9})
		if len(none.L) != 0 {
			t.Fatalf("%+v", none)
		}
		_ = append(none.L, impl.Label{Name: "x"})
		if roomB[0].Name != "d" {
			t.Errorf("the labels are now %q", roomB)
		}
	}
}

func TestAlarmOk(t *testing.T) {
	if impl.MaxTime != 99999 {
		t.Errorf("MaxTime is %d", impl.MaxTime)
	}
	for _, c := range []struct {
		a    impl.Alarm
		want bool
	}{
		{alarm(3, 8, "one", "app", "a"), true},
		{alarm(0, 0, "", "a", ""), true},
		{alarm(0, 99999, "", "a", ""), true},
		{alarm(99999, 99999, "", "a", ""), true},
		{alarm(7, 7, "", "a", ""), true},
		{alarm(7, 8, "disk is full", "a", "", "b", "", "c", "", "d", ""), true},
		{alarm(7, 8, "            ", "a", ""), true},
		{impl.Alarm{}, false},
		{alarm(3, 8, "one"), false},
		{impl.Alarm{L: []impl.Label{}, Start: 3, End: 8, Note: "one"}, false},
		{alarm(3, 8, "one", "b", "", "a", ""), false},
		{alarm(3, 8, "one", "a", "", "a", ""), false},
		{alarm(3, 8, "one", "a", "", "b", "", "c", "", "d", "", "e", ""), false},
		{impl.Alarm{L: make([]impl.Label, 100000), Start: 3, End: 8}, false},
		{alarm(-1, 8, "", "a", ""), false},
		{alarm(math.MinInt, 8, "", "a", ""), false},
		{alarm(-2, -1, "", "a", ""), false},
		{alarm(0, -1, "", "a", ""), false},
		{alarm(0, 100000, "", "a", ""), false},
		{alarm(0, math.MaxInt, "", "a", ""), false},
		{alarm(100000, 100000, "", "a", ""), false},
		{alarm(99999, 100000, "", "a", ""), false},
		{alarm(100000, 99999, "", "a", ""), false},
		{alarm(8, 7, "", "a", ""), false},
		{alarm(99999, 0, "", "a", ""), false},
		{alarm(math.MaxInt, math.MinInt, "", "a", ""), false},
		{alarm(3, 8, "\"", "a", ""), false},
		{alarm(3, 8, "\\", "a", ""), false},
		{alarm(3, 8, "a\nb", "a", ""), false},
		{alarm(3, 8, "\x7f", "a", ""), false},
		{alarm(3, 8, "caf\u00e9", "a", ""), false},
		{alarm(3, 8, "\xff", "a", ""), false},
		{alarm(3, 8, "thirteen long", "a", ""), false},
		{alarm(3, 8, strings.Repeat("x", 100000), "a", ""), false},
	} {
		was := keepAlarm(c.a)
		if got := impl.AlarmOk(c.a); got != c.want {
			t.Errorf("AlarmOk(%.200v) = %v", c.a, got)
		}
		if text := impl.AlarmText(c.a); (text != "") != c.want {
			t.Errorf("AlarmText(%.200v) = %q", c.a, text)
		}
		if !sameAsTold(c.a, was) {
			t.Errorf("%.200v is now %.200v", was, c.a)
		}
	}
}

// All labels, times and notes, one beside the other.
func TestAlarmsOfManyParts(t *testing.T) {
	right := 0
	for _, l := range allLists(someLabels(), 2) {
		for _, start := range someTimes() {
			for _, end := range someTimes() {
				for _, note := range []string{"", "disk is full", "\"", "thirteen long", "\x1f"} {
					a := impl.Alarm{L: l, Start: start, End: end, Note: note}
					if got := impl.AlarmOk(a); got != alarmAsTold(a) {
						t.Fatalf("AlarmOk(%+v) = %v", a, got)
					}
					if got := impl.AlarmText(a); got != alarmTextAsTold(a) {
						t.Fatalf("AlarmText(%+v) = %q", a, got)
					}
					if alarmAsTold(a) {
						right++
					}
				}
			}
		}
	}
	if right < 100 {
		t.Errorf("just %d alarms are right", right)
	}
}

func TestAlarmsOfWrongLabelsAndNotes(t *testing.T) {
	for _, x := range wrongLabels() {
		for place := range 4 {
			l := set("b", "1", "c", "2", "d", "3", "e", "4")
			l[place] = x
			a := impl.Alarm{L: l, Start: 3, End: 8, Note: "one"}
			was := keepAlarm(a)
			if impl.AlarmOk(a) || impl.AlarmText(a) != "" {
				t.Errorf("%.200v is right", a)
			}
			if !impl.SameAlarm(a, was) || !sameAsTold(a, was) {
				t.Errorf("%.200v is now %.200v", was, a)
			}
		}
	}
	for _, note := range shortTexts(everyByte(), 2) {
		a := alarm(3, 8, note, "app", "x")
		if impl.AlarmOk(a) != alarmAsTold(a) || impl.AlarmText(a) != alarmTextAsTold(a) {
			t.Errorf("of the note %q: %v, %q", note, impl.AlarmOk(a), impl.AlarmText(a))
		}
	}
}

func TestNotesOfEachLength(t *testing.T) {
	for n := range 30 {
		if got := impl.AlarmOk(alarm(3, 8, strings.Repeat("x", n), "a", "")); got != (n <= 12) {
			t.Errorf("AlarmOk with a note of %d bytes = %v", n, got)
		}
	}
}

func TestAlarmText(t *testing.T) {
	for _, c := range []struct {
		a    impl.Alarm
		want string
	}{
		{alarm(3, 8, "one", "app", "a"), "{app=\"a\"} 3-8 \"one\""},
		{alarm(0, 99999, "", "a", ""), "{a=\"\"} 0-99999 \"\""},
		{alarm(0, 0, "", "a", ""), "{a=\"\"} 0-0 \"\""},
		{alarm(99999, 99999, "~", "a", ""), "{a=\"\"} 99999-99999 \"~\""},
		{alarm(10, 20, "disk is full", "a", "1", "b", "2", "c", "3", "d", "4"), "{a=\"1\", b=\"2\", c=\"3\", d=\"4\"} 10-20 \"disk is full\""},
		{alarm(7, 70, " - ", "app", "a b", "sev", ""), "{app=\"a b\", sev=\"\"} 7-70 \" - \""},
		{impl.Alarm{}, ""},
		{alarm(3, 8, "one"), ""},
		{alarm(3, 8, "one", "b", "", "a", ""), ""},
		{alarm(-1, 8, "one", "a", ""), ""},
		{alarm(8, 7, "one", "a", ""), ""},
		{alarm(3, 100000, "one", "a", ""), ""},
		{alarm(3, 8, "o\"ne", "a", ""), ""},
	} {
		if got := impl.AlarmText(c.a); got != c.want {
			t.Errorf("AlarmText(%+v) = %q", c.a, got)
		}
	}
}

func TestSameAlarm(t *testing.T) {
	a := alarm(3, 8, "one", "app", "x", "host", "1")
	if !impl.SameAlarm(a, a) || !impl.SameAlarm(a, keepAlarm(a)) || !impl.SameAlarm(impl.Alarm{}, impl.Alarm{}) {
		t.Error("an alarm is not the same as itself")
	}
	for _, b := range []impl.Alarm{
		alarm(4, 8, "one", "app", "x", "host", "1"),
		alarm(2, 8, "one", "app", "x", "host", "1"),
		alarm(3, 9, "one", "app", "x", "host", "1"),
		alarm(3, 7, "one", "app", "x", "host", "1"),
		alarm(8, 3, "one", "app", "x", "host", "1"),
		alarm(3, 8, "", "app", "x", "host", "1"),
		alarm(3, 8, "One", "app", "x", "host", "1"),
		alarm(3, 8, "one ", "app", "x", "host", "1"),
		alarm(3, 8, "one", "app", "x", "host", "2"),
		alarm(3, 8, "one", "app", "", "host", "1"),
		alarm(3, 8, "one", "app", "x", "hosts", "1"),
		alarm(3, 8, "one", "host", "1", "app", "x"),
		alarm(3, 8, "one", "app", "x"),
		alarm(3, 8, "one", "host", "1"),
		alarm(3, 8, "one", "app", "x", "host", "1", "host", "1"),
		alarm(3, 8, "one", "app", "x", "host", "1", "", ""),
		alarm(3, 8, "one"),
		{},
	} {
		if impl.SameAlarm(a, b) || impl.SameAlarm(b, a) {
			t.Errorf("%+v and %+v are the same", a, b)
		}
		if !impl.SameAlarm(b, keepAlarm(b)) {
			t.Errorf("%+v is not the same as itself", b)
		}
	}
}

func TestSameAlarmOfNoLabelsAndOfSpareRoom(t *testing.T) {
	none := impl.Alarm{L: nil, Start: 3, End: 8, Note: "one"}
	empty := impl.Alarm{L: []impl.Label{}, Start: 3, End: 8, Note: "one"}
	if !impl.SameAlarm(none, empty) || !impl.SameAlarm(empty, none) {
		t.Error("nil is an empty list")
	}
	a, b := alarm(3, 8, "one", "app", "x", "host", "1"), alarm(3, 8, "one", "app", "x", "A", "\"")
	roomA, roomB := a.L, b.L
	a.L, b.L = roomA[:1], roomB[:1]
	if !impl.SameAlarm(a, b) || !impl.AlarmOk(b) || impl.AlarmText(b) != "{app=\"x\"} 3-8 \"one\"" {
		t.Error("what lies behind the labels is read")
	}
	b.L = roomB[:0]
	if impl.AlarmOk(b) || impl.AlarmText(b) != "" || !impl.SameAlarm(b, none) {
		t.Error("what lies behind the labels is read")
	}
	if !slices.Equal(roomA, set("app", "x", "host", "1")) || !slices.Equal(roomB, set("app", "x", "A", "\"")) {
		t.Errorf("the labels are now %q and %q", roomA, roomB)
	}
}

func TestSameAlarmOfManyAlarms(t *testing.T) {
	alarms := someAlarms()
	for _, a := range alarms {
		for _, b := range alarms {
			if got := impl.SameAlarm(a, b); got != sameAsTold(a, b) {
				t.Fatalf("SameAlarm(%+v, %+v) = %v", a, b, got)
			}
		}
	}
}

func TestOver(t *testing.T) {
	a := alarm(3, 8, "one", "app", "x")
	for now, want := range map[int]bool{
		math.MinInt: false, -1: false, 0: false, 3: false, 7: false, 8: true, 9: true, 99999: true, math.MaxInt: true,
	} {
		if got := impl.Over(a, now); got != want {
			t.Errorf("Over(%+v, %d) = %v", a, now, got)
		}
	}
	for _, end := range someTimes() {
		for _, now := range someTimes() {
			for _, start := range []int{0, end, now} {
				if got := impl.Over(impl.Alarm{Start: start, End: end}, now); got != (end < now || end == now) {
					t.Errorf("Over of %d-%d at %d = %v", start, end, now, got)
				}
			}
		}
	}
}

func TestTouch(t *testing.T) {
	for _, c := range []struct {
		aStart, aEnd, bStart, bEnd int
		want                       bool
	}{
		{3, 4, 5, 9, false},
		{3, 5, 5, 9, true},
		{3, 6, 5, 9, true},
		{1, 9, 4, 5, true},
		{3, 8, 3, 8, true},
		{5, 5, 5, 5, true},
		{5, 5, 6, 6, false},
		{0, 0, 0, 99999, true},
		{0, 99998, 99999, 99999, false},
		{0, 99999, 99999, 99999, true},
		{3, 5, 5, 3, true},
		{3, 5, 5, 2, false},
		{9, 3, 0, 20, true},
		{9, 3, 4, 20, false},
		{2, 1, 2, 1, false},
		{math.MinInt, math.MinInt, math.MaxInt, math.MaxInt, false},
		{math.MinInt, math.MaxInt, math.MaxInt, math.MaxInt, true},
	} {
		a, b := alarm(c.aStart, c.aEnd, "one", "a", ""), alarm(c.bStart, c.bEnd, "two", "b", "")
		if got := impl.Touch(a, b); got != c.want {
			t.Errorf("Touch(%+v, %+v) = %v", a, b, got)
		}
		if got := impl.Touch(b, a); got != c.want {
			t.Errorf("Touch(%+v, %+v) = %v", b, a, got)
		}
	}
}

// Right alarms touch just where they have a time in common, their ends among them.
func TestTouchOfAllShortAlarms(t *testing.T) {
	const last = 6
	for times := range (last + 1) * (last + 1) * (last + 1) * (last + 1) {
		a := impl.Alarm{Start: times % 7, End: times / 7 % 7}
		b := impl.Alarm{Start: times / 49 % 7, End: times / 343}
		if a.Start > a.End || b.Start > b.End {
			continue
		}
		common := 0
		for at := range last + 1 {
			if a.Start <= at && at <= a.End && b.Start <= at && at <= b.End {
				common++
			}
		}
		if got := impl.Touch(a, b); got != (common > 0) {
			t.Fatalf("Touch(%+v, %+v) = %v", a, b, got)
		}
	}
}
