package tests

import (
	"slices"
	"strings"
	"testing"

	"loop.example/g00490/impl"
)

// set: labels of names and vals by turns.
func set(words ...string) []impl.Label {
	var l []impl.Label
	for i := 0; i+1 < len(words); i += 2 {
		l = append(l, impl.Label{Name: words[i], Val: words[i+1]})
	}
	return l
}

// allLists: every list of at most most of these.
func allLists[T any](of []T, most int) [][]T {
	lists := [][]T{nil}
	for from := 0; from < len(lists); from++ {
		if len(lists[from]) == most {
			break
		}
		for _, x := range of {
			lists = append(lists, append(slices.Clone(lists[from]), x))
		}
	}
	return lists
}

func labelAsTold(x impl.Label) bool {
	return x.Name != "" && len(x.Name) <= 8 && onlyBytes(x.Name, smallByte) &&
		len(x.Val) <= 12 && onlyBytes(x.Val, plainByte)
}

// setAsTold: SetOk in the words of the document, each name against each behind it.
func setAsTold(l []impl.Label) bool {
	for i, x := range l {
		if !labelAsTold(x) {
			return false
		}
		for _, y := range l[i+1:] {
			if !lessAsTold(x.Name, y.Name) {
				return false
			}
		}
	}
	return len(l) <= 4
}

// setLessAsTold: SetLess in the words of the document.
func setLessAsTold(a, b []impl.Label) bool {
	for i := 0; i < len(a) && i < len(b); i++ {
		if a[i].Name != b[i].Name {
			return lessAsTold(a[i].Name, b[i].Name)
		}
		if a[i].Val != b[i].Val {
			return lessAsTold(a[i].Val, b[i].Val)
		}
	}
	return len(a) < len(b)
}

// howMany: how many times each label stands there.
func howMany(l []impl.Label) map[impl.Label]int {
	n := map[impl.Label]int{}
	for _, x := range l {
		n[x]++
	}
	return n
}

func sameCounts(a, b []impl.Label) bool {
	n, m := howMany(a), howMany(b)
	for x := range n {
		if n[x] != m[x] {
			return false
		}
	}
	return len(n) == len(m)
}

// canBeSorted: whether it holds at most 4 right labels, no two of one name.
func canBeSorted(l []impl.Label) bool {
	names := map[string]int{}
	for _, x := range l {
		names[x.Name]++
		if !labelAsTold(x) || names[x.Name] > 1 {
			return false
		}
	}
	return len(l) <= 4
}

// someLabels: right and wrong ones, two of one name among them.
func someLabels() []impl.Label {
	return set("a", "1", "a", "2", "ab", "", "b", "disk is full", "zzzzzzzz", "~", "abcdefghi", "", "", "x", "c", "\"")
}

// Promise 2: labels that can be put in order are, with all that they were.
func TestPromise2LabelsArePutInOrder(t *testing.T) {
	sorted := 0
	for _, l := range allLists(someLabels(), 5) {
		was := slices.Clone(l)
		got, ok := impl.SortSet(l)
		if !slices.Equal(l, was) {
			t.Fatalf("SortSet(%q) changed its list to %q", was, l)
		}
		if ok != canBeSorted(l) {
			t.Fatalf("SortSet(%q) = %q, %v", l, got, ok)
		}
		if !ok {
			if len(got) != 0 {
				t.Fatalf("SortSet(%q) = %q, %v", l, got, ok)
			}
			continue
		}
		sorted++
		if !setAsTold(got) || !impl.SetOk(got) || !sameCounts(got, l) || len(got) != len(l) {
			t.Fatalf("SortSet(%q) = %q, %v", l, got, ok)
		}
		if again, ok := impl.SortSet(got); !ok || !slices.Equal(again, got) || !impl.SameSet(again, got) {
			t.Fatalf("SortSet(%q) = %q, %v", got, again, ok)
		}
	}
	if sorted == 0 {
		t.Error("none was sorted")
	}
}

// Each order of four labels comes to the same set.
func TestPromise2OfEachOrderOfFour(t *testing.T) {
	want := set("app", "x", "apple", "", "host", "1", "zone", "~")
	orders := 0
	for _, l := range allLists(want, 4) {
		if len(l) != 4 || !sameCounts(l, want) {
			continue
		}
		orders++
		if got, ok := impl.SortSet(l); !ok || !slices.Equal(got, want) {
			t.Errorf("SortSet(%q) = %q, %v", l, got, ok)
		}
	}
	if orders != 24 {
		t.Errorf("%d orders", orders)
	}
}

func TestSortSetOfTwoOfOneName(t *testing.T) {
	for _, l := range [][]impl.Label{
		set("a", "1", "a", "1"),
		set("a", "1", "a", "2"),
		set("a", "2", "a", "1"),
		set("a", "1", "b", "", "a", "1"),
		set("a", "1", "b", "", "a", "2"),
		set("b", "", "a", "1", "c", "", "b", "x"),
		set("a", "", "a", "", "a", "", "a", ""),
	} {
		was := slices.Clone(l)
		if got, ok := impl.SortSet(l); ok || len(got) != 0 {
			t.Errorf("SortSet(%q) = %q, %v", l, got, ok)
		}
		if impl.SetOk(l) {
			t.Errorf("SetOk(%q)", l)
		}
		if !slices.Equal(l, was) {
			t.Errorf("%q is now %q", was, l)
		}
	}
}

// wrongLabels: no names of each kind, and vals that are not plain.
func wrongLabels() []impl.Label {
	return set(
		"", "", "", "x", "abcdefghi", "", "A", "", "aB", "", "a1", "", " a", "", "a ", "", "`", "", "{", "",
		"a\x00", "", "\xff", "", "caf\u00e9", "", "\u0430", "", strings.Repeat("a", 10000), "",
		"a", "\"", "a", "\\", "a", "\x1f", "a", "\x7f", "a", "\n", "a", "caf\u00e9", "a", "\xff",
		"a", "thirteen long", "a", strings.Repeat(" ", 10000), "A", "\"",
	)
}

func TestWrongLabels(t *testing.T) {
	for _, x := range wrongLabels() {
		if impl.LabelOk(x) {
			t.Errorf("LabelOk(%.40q)", x)
		}
		for place := range 4 {
			l := set("b", "1", "c", "2", "d", "3", "e", "4")
			l[place] = x
			was := slices.Clone(l)
			if impl.SetOk(l) || impl.SetOk(l[place:place+1]) {
				t.Errorf("SetOk(%.200q)", l)
			}
			if got, ok := impl.SortSet(l); ok || len(got) != 0 {
				t.Errorf("SortSet(%.200q) = %.200q, %v", l, got, ok)
			}
			if got, ok := impl.SortSet(l[place : place+1]); ok || len(got) != 0 {
				t.Errorf("SortSet(%.200q) = %.200q, %v", l[place:place+1], got, ok)
			}
			if !slices.Equal(l, was) {
				t.Errorf("%.200q is now %.200q", was, l)
			}
		}
	}
}

func TestLabelOk(t *testing.T) {
	for _, x := range set(
		"a", "", "z", "a", "app", "x", "abcdefgh", "disk is full", "zzzzzzzz", "~~~~~~~~~~~~",
		"host", "            ", "job", "{a=b}, ;'`[]", "zone", "caf",
	) {
		if !impl.LabelOk(x) {
			t.Errorf("not LabelOk(%q)", x)
		}
	}
	if impl.LabelOk(impl.Label{}) {
		t.Error("the zero value has no name")
	}
	for _, name := range shortTexts(everyByte(), 1) {
		for _, val := range shortTexts(everyByte(), 1) {
			x := impl.Label{Name: name, Val: val}
			if got := impl.LabelOk(x); got != labelAsTold(x) {
				t.Errorf("LabelOk(%q) = %v", x, got)
			}
		}
	}
}

func TestSetOk(t *testing.T) {
	for _, c := range []struct {
		l    []impl.Label
		want bool
	}{
		{nil, true},
		{[]impl.Label{}, true},
		{set("a", ""), true},
		{set("a", "9", "b", "1"), true},
		{set("a", "", "aa", "", "ab", ""), true},
		{set("a", "", "b", "", "c", "", "d", ""), true},
		{set("a", "", "b", "", "c", "", "d", "", "e", ""), false},
		{set("b", "", "a", ""), false},
		{set("aa", "", "a", ""), false},
		{set("a", "", "c", "", "b", ""), false},
		{set("b", "", "c", "", "a", ""), false},
		{set("a", "1", "a", "2"), false},
		{set("a", "1", "a", "1"), false},
		{set("a", "", "b", "", "c", "", "c", ""), false},
		{set("a", "", "b", "", "d", "", "c", ""), false},
	} {
		if got := impl.SetOk(c.l); got != c.want {
			t.Errorf("SetOk(%q) = %v", c.l, got)
		}
	}
	for _, l := range allLists(someLabels(), 5) {
		if got := impl.SetOk(l); got != setAsTold(l) {
			t.Fatalf("SetOk(%q) = %v", l, got)
		}
	}
}

func TestSetsOfEachLength(t *testing.T) {
	var l []impl.Label
	for n := range 27 {
		if got := impl.SetOk(l); got != (n <= 4) {
			t.Errorf("SetOk of %d = %v", n, got)
		}
		back := slices.Clone(l)
		slices.Reverse(back)
		got, ok := impl.SortSet(back)
		if ok != (n <= 4) || ok && !slices.Equal(got, l) || !ok && len(got) != 0 {
			t.Errorf("SortSet of %d = %q, %v", n, got, ok)
		}
		if n < 26 {
			l = append(l, impl.Label{Name: string(rune('a' + n))})
		}
	}
	if got, ok := impl.SortSet(make([]impl.Label, 1000000)); ok || len(got) != 0 || impl.SetOk(make([]impl.Label, 1000000)) {
		t.Error("a million labels")
	}
}

// What lies behind a list's length is neither read nor written, and an answer shares no memory with its list.
func TestSortSetMakesNewMemory(t *testing.T) {
	room := set("b", "1", "a", "2", "a", "3", "A", "\"", "c", "")
	was := slices.Clone(room)
	got, ok := impl.SortSet(room[:2])
	if !ok || !slices.Equal(got, set("a", "2", "b", "1")) {
		t.Fatalf("%q, %v", got, ok)
	}
	_ = append(got, impl.Label{Name: "x"})
	got[0], got[1] = impl.Label{}, impl.Label{}
	if !slices.Equal(room, was) {
		t.Errorf("the list is now %q", room)
	}
	sorted := set("a", "1", "b", "2")
	if got, ok = impl.SortSet(sorted); !ok {
		t.Fatal(got)
	}
	got[0].Val = "x"
	if sorted[0].Val != "1" {
		t.Error("a list in order is handed back as it is")
	}
	if !impl.SetOk(sorted[:1]) || !impl.SetOk(room[1:2]) {
		t.Error("SetOk reads behind the list")
	}
}

func TestSetsHeldAgainstEachOther(t *testing.T) {
	for i, a := range ascendingSets() {
		for j, b := range ascendingSets() {
			if got := impl.SetLess(a, b); got != (i < j) {
				t.Errorf("SetLess(%q, %q) = %v", a, b, got)
			}
			if got := impl.SameSet(a, b); got != (i == j) {
				t.Errorf("SameSet(%q, %q) = %v", a, b, got)
			}
		}
	}
}

// ascendingSets: by SetLess; many of them are not SetOk.
func ascendingSets() [][]impl.Label {
	return [][]impl.Label{
		nil,
		set("", ""),
		set("", "\xff", "a", ""),
		set("A", ""),
		set("a", ""),
		set("a", "", "a", ""),
		set("a", "", "b", ""),
		set("a", "", "b", "", "c", ""),
		set("a", "", "b", "", "c", "", "d", ""),
		set("a", "", "b", "", "c", "", "d", "", "e", ""),
		set("a", "", "b", "1"),
		set("a", "", "ba", ""),
		set("a", "1"),
		set("a", "1", "b", ""),
		set("a", "10"),
		set("a", "2"),
		set("a", "z", "c", ""),
		set("aa", ""),
		set("ab", ""),
		set("b", "", "a", ""),
		set("b", "", "a", "\""),
		set("b", "1", "z", "z"),
		set("b", "2", "a", "a"),
		set("\xff", ""),
		set("\xff", "\xff"),
	}
}

// Of two lists, whatever they hold, one is less, or they are the same.
func TestSetLessOfAllShortLists(t *testing.T) {
	lists := allLists(set("a", "", "a", "1", "b", "", "\xff", "\"", "", "z"), 3)
	for _, a := range lists {
		for _, b := range lists {
			if got := impl.SetLess(a, b); got != setLessAsTold(a, b) {
				t.Fatalf("SetLess(%q, %q) = %v", a, b, got)
			}
			if got := impl.SameSet(a, b); got != (!setLessAsTold(a, b) && !setLessAsTold(b, a)) {
				t.Fatalf("SameSet(%q, %q) = %v", a, b, got)
			}
		}
	}
}

func TestSetsAreReadToTheirLengthAlone(t *testing.T) {
	a, b := set("a", "1", "b", "2"), set("a", "1", "c", "3")
	if !impl.SameSet(a[:1], b[:1]) || impl.SetLess(a[:1], b[:1]) || impl.SetLess(b[:1], a[:1]) {
		t.Error("what lies behind the lists is read")
	}
	if !impl.SameSet(nil, []impl.Label{}) || !impl.SameSet([]impl.Label{}, nil) || !impl.SameSet(nil, a[:0]) || impl.SetLess(nil, a[:0]) || impl.SetLess(a[:0], nil) {
		t.Error("nil is an empty list")
	}
	if v, ok := impl.ValOf(a[:1], "b"); ok || v != "" {
		t.Errorf("%q, %v", v, ok)
	}
	if !slices.Equal(a, set("a", "1", "b", "2")) || !slices.Equal(b, set("a", "1", "c", "3")) {
		t.Errorf("the lists are now %q and %q", a, b)
	}
}

func TestValOf(t *testing.T) {
	for _, c := range []struct {
		l    []impl.Label
		name string
		want string
		ok   bool
	}{
		{nil, "", "", false},
		{nil, "a", "", false},
		{[]impl.Label{}, "a", "", false},
		{set("app", "x", "host", "1"), "app", "x", true},
		{set("app", "x", "host", "1"), "host", "1", true},
		{set("app", "x", "host", "1"), "zone", "", false},
		{set("app", "x", "host", "1"), "", "", false},
		{set("app", "x", "host", "1"), "ap", "", false},
		{set("app", "x", "host", "1"), "apps", "", false},
		{set("app", "x", "host", "1"), "x", "", false},
		{set("app", "x", "host", "1"), "App", "", false},
		{set("app", ""), "app", "", true},
		{set("a", "1", "a", "2"), "a", "1", true},
		{set("a", "2", "a", "1"), "a", "2", true},
		{set("b", "", "a", "2", "c", "", "a", "1"), "a", "2", true},
		{set("z", "1", "b", "2"), "b", "2", true},
		{set("", "none"), "", "none", true},
		{set("A!", "\""), "A!", "\"", true},
		{set("a", "", "b", "", "c", "", "d", "", "e", "5"), "e", "5", true},
		{set("a\x00", "1", "a", "2"), "a", "2", true},
	} {
		was := slices.Clone(c.l)
		if got, ok := impl.ValOf(c.l, c.name); got != c.want || ok != c.ok {
			t.Errorf("ValOf(%q, %q) = %q, %v", c.l, c.name, got, ok)
		}
		if !slices.Equal(c.l, was) {
			t.Errorf("%q is now %q", was, c.l)
		}
	}
}
