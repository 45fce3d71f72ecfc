package tests

import (
	"hash/fnv"
	"math"
	"regexp"
	"slices"
	"strings"
	"testing"

	"loop.example/g00490/impl"
)

// setTextAsTold: SetText in the words of the document.
func setTextAsTold(l []impl.Label) string {
	if !setAsTold(l) {
		return ""
	}
	s := "{"
	for i, x := range l {
		if i > 0 {
			s += ", "
		}
		s += x.Name + "=\"" + x.Val + "\""
	}
	return s + "}"
}

const labelForm = `([a-z]{1,8})="([ !#-\[\]-~]{0,12})"`

var (
	oneLabel  = regexp.MustCompile(labelForm)
	labelsSet = regexp.MustCompile(`\A\{(?:` + labelForm + `(?:, ` + labelForm + `){0,3})?\}\z`)
)

// parseSetAsTold: ParseSet by the form of such texts, apart from how the program reads them.
func parseSetAsTold(s string) ([]impl.Label, bool) {
	if !labelsSet.MatchString(s) {
		return nil, false
	}
	var l []impl.Label
	for _, m := range oneLabel.FindAllStringSubmatch(s, -1) {
		l = append(l, impl.Label{Name: m[1], Val: m[2]})
	}
	if !setAsTold(l) {
		return nil, false
	}
	return l, true
}

// sumAsTold: Sum in the words of the document, in numbers that have room for each product.
func sumAsTold(s string) int {
	n := uint64(2166136261)
	for i := 0; i < len(s); i++ {
		n = (n ^ uint64(s[i])) * 16777619 % (1 << 32)
	}
	return int(n)
}

func fingerAsTold(l []impl.Label) int {
	n := sumAsTold(setTextAsTold(l))
	return (n ^ n/65536) % 32
}

// trickyLabels: vals made of the signs that texts of labels are made of, right and wrong ones, and long ones.
func trickyLabels() []impl.Label {
	return set(
		"a", "", "a", ", b=", "abcdefgh", "=", "b", "}", "b", "{}", "c", ", ", "d", "            ",
		"zzzzzzzz", "~~~~~~~~~~~~", "e", "\"", "", "x",
	)
}

// checkParse: that ParseSet of s answers as told, and that what it takes has the text s.
func checkParse(t *testing.T, s string) bool {
	t.Helper()
	want, wantOk := parseSetAsTold(s)
	got, ok := impl.ParseSet(s)
	if ok != wantOk || !slices.Equal(got, want) {
		t.Fatalf("ParseSet(%.200q) = %.200q, %v", s, got, ok)
	}
	if ok && (!impl.SetOk(got) || impl.SetText(got) != s) {
		t.Fatalf("ParseSet(%.200q) = %.200q, whose text is %.200q", s, got, impl.SetText(got))
	}
	return ok
}

// Promise 3: labels come back of their words.
func TestPromise3LabelsComeBackOfTheirWords(t *testing.T) {
	right := 0
	for _, l := range slices.Concat(allLists(someLabels(), 5), allLists(trickyLabels(), 4)) {
		was := slices.Clone(l)
		s := impl.SetText(l)
		if s != setTextAsTold(l) {
			t.Fatalf("SetText(%q) = %q", l, s)
		}
		if !slices.Equal(l, was) {
			t.Fatalf("SetText(%q) changed its list to %q", was, l)
		}
		got, ok := impl.ParseSet(s)
		if ok != setAsTold(l) || ok && !slices.Equal(got, l) || !ok && len(got) != 0 {
			t.Fatalf("ParseSet(%q) = %q, %v", s, got, ok)
		}
		if ok {
			right++
		}
	}
	if right < 100 {
		t.Errorf("just %d sets", right)
	}
}

// Each label of one byte as its val comes back, and none of a byte that is not plain.
func TestPromise3OfEachByte(t *testing.T) {
	for _, val := range shortTexts(everyByte(), 2) {
		l := set("app", val, "host", "1")
		if got, ok := impl.ParseSet("{app=\"" + val + "\", host=\"1\"}"); ok != setAsTold(l) || ok && !slices.Equal(got, l) || !ok && len(got) != 0 {
			t.Fatalf("of the val %q: %q, %v", val, got, ok)
		}
	}
	for _, name := range shortTexts(everyByte(), 1) {
		l := set(name, "1")
		if got, ok := impl.ParseSet("{" + name + "=\"1\"}"); ok != setAsTold(l) || ok && !slices.Equal(got, l) || !ok && len(got) != 0 {
			t.Fatalf("of the name %q: %q, %v", name, got, ok)
		}
	}
}

// Of every text that is taken, the labels have that text: over all texts of few pieces.
func TestPromise3OfAllTextsOfFewPieces(t *testing.T) {
	for _, pieces := range [][]string{
		{"{", "}", "a", "=", "\"", " ", ","},
		{"{", "}", "a=\"1\"", "b=\"\"", ", ", "\"", "="},
		{"{a=\"", "\", b=\"", "\"}", "\"", "x", "{", "}"},
	} {
		taken := 0
		for _, l := range allLists(pieces, 6) {
			if checkParse(t, strings.Join(l, "")) {
				taken++
			}
		}
		if taken == 0 {
			t.Errorf("nothing of %q was taken", pieces)
		}
	}
}

// rightTexts: texts of sets of none to four labels.
func rightTexts() []string {
	return []string{
		"{}",
		"{a=\"\"}",
		"{app=\"a b\", sev=\"\"}",
		"{a=\", b=\", b=\"{}\", c=\"==\"}",
		"{abcdefgh=\"disk is full\", b=\"}\", c=\"~\", zzzzzzzz=\"            \"}",
	}
}

// A sign too few, one too many, and another one, at each place.
func TestParseSetWithASignAmiss(t *testing.T) {
	for _, s := range rightTexts() {
		if !checkParse(t, s) {
			t.Errorf("ParseSet(%q) is refused", s)
		}
		for i := range len(s) + 1 {
			for _, sign := range shortTexts(everyByte(), 1) {
				checkParse(t, s[:i]+sign+s[i:])
				if i < len(s) {
					checkParse(t, s[:i]+sign+s[i+1:])
				}
			}
			checkParse(t, s[:i])
			checkParse(t, s[i:])
			checkParse(t, s[:i]+s)
			checkParse(t, s+s[i:])
			if i+1 < len(s) {
				checkParse(t, s[:i]+s[i+1:i+2]+s[i:i+1]+s[i+2:])
			}
		}
	}
}

func TestParseSetRefuses(t *testing.T) {
	for _, s := range []string{
		"", " ", "{", "}", "{{", "}}", "}{", "{}}", "{{}", "{{}}", " {}", "{} ", "{ }", "{}\n", "\n{}", "{}\x00", "{}{}", "{},", "{}, {}",
		"a=\"\"", "a=\"\"}", "{a=\"\"", "{a=\"}", "{a=\"", "{a=}", "{a}", "{a", "{a=a}", "{a\"\"}", "{a=\"\"\"}", "{a==\"\"}", "{a= \"\"}", "{a =\"\"}", "{ a=\"\"}", "{a=\"\" }",
		"{=\"\"}", "{=\"a\"}", "{\"\"}", "{\"a\"}", "{a='b'}", "{a:\"b\"}", "{\"a\":\"b\"}", "{a=\"b\"} ", "{a=\"b\"}}", "{a=\"b\"}x", "{a=\"b\"}{}", "{{a=\"b\"}}",
		"{a=\"\"b=\"\"}", "{a=\"\",b=\"\"}", "{a=\"\" b=\"\"}", "{a=\"\" ,b=\"\"}", "{a=\"\",  b=\"\"}", "{a=\"\" , b=\"\"}", "{a=\"\", , b=\"\"}", "{a=\"\", }", "{a=\"\",}", "{, a=\"\"}", "{, }", "{a=\"\"; b=\"\"}", "{a=\"\",\tb=\"\"}",
		"{a=\"1\", a=\"1\"}", "{a=\"1\", a=\"2\"}", "{a=\"1\", b=\"\", a=\"1\"}", "{b=\"\", a=\"\"}", "{ab=\"\", a=\"\"}", "{a=\"\", c=\"\", b=\"\"}",
		"{a=\"\", b=\"\", c=\"\", d=\"\", e=\"\"}", "{a=\"\", b=\"\", c=\"\", d=\"\", e=\"\", f=\"\"}", "{a=\"\", b=\"\", c=\"\", d=\"\", d=\"\"}", "{a=\"\", b=\"\", c=\"\", d=\"\"x}", "{a=\"\", b=\"\", c=\"\", d=\"\", }",
		"{A=\"\"}", "{aB=\"\"}", "{a1=\"\"}", "{a b=\"\"}", "{abcdefghi=\"\"}", "{caf\u00e9=\"\"}", "{\u0430=\"\"}", "{a\x00=\"\"}", "{a==\"\", b=\"\"}",
		"{a=\"thirteen long\"}", "{a=\"\\\"}", "{a=\"\\\"\"}", "{a=\"\\n\"}", "{a=\"\n\"}", "{a=\"\t\"}", "{a=\"\x00\"}", "{a=\"\x7f\"}", "{a=\"\x80\"}", "{a=\"\xff\"}", "{a=\"caf\u00e9\"}", "{a=\"b\"c\"}",
		"{" + strings.Repeat("a=\"\", ", 100000) + "}", "{a=\"" + strings.Repeat("x", 100000) + "\"}", "{" + strings.Repeat("a", 100000) + "=\"\"}",
		strings.Repeat("{", 100000), strings.Repeat("}", 100000), strings.Repeat("\"", 100000), strings.Repeat("=\"", 100000), "{" + strings.Repeat(", ", 100000) + "}", "{}" + strings.Repeat(" ", 100000),
	} {
		if got, ok := impl.ParseSet(s); ok || len(got) != 0 {
			t.Errorf("ParseSet(%.60q) = %.60q, %v", s, got, ok)
		}
	}
}

func TestParseSet(t *testing.T) {
	for _, c := range []struct {
		s    string
		want []impl.Label
	}{
		{"{}", nil},
		{"{a=\"\"}", set("a", "")},
		{"{app=\"disk\"}", set("app", "disk")},
		{"{app=\"a b\", sev=\"\"}", set("app", "a b", "sev", "")},
		{"{a=\"9\", b=\"1\"}", set("a", "9", "b", "1")},
		{"{a=\"\", aa=\"\", ab=\"\"}", set("a", "", "aa", "", "ab", "")},
		{"{a=\", b=\", b=\"a=\"}", set("a", ", b=", "b", "a=")},
		{"{a=\"}\", b=\"{\", c=\"{}\", d=\", \"}", set("a", "}", "b", "{", "c", "{}", "d", ", ")},
		{"{abcdefgh=\"disk is full\"}", set("abcdefgh", "disk is full")},
		{"{a=\" \", b=\"  \"}", set("a", " ", "b", "  ")},
	} {
		if got, ok := impl.ParseSet(c.s); !ok || !slices.Equal(got, c.want) {
			t.Errorf("ParseSet(%q) = %q, %v", c.s, got, ok)
		}
	}
}

func TestParseSetMakesNewMemory(t *testing.T) {
	const s = "{a=\"1\", b=\"2\"}"
	first, _ := impl.ParseSet(s)
	second, _ := impl.ParseSet(s)
	if !slices.Equal(first, second) || len(first) != 2 {
		t.Fatalf("%q and %q", first, second)
	}
	first[0].Val = "x"
	_ = append(first, impl.Label{Name: "y"})
	if third, ok := impl.ParseSet(s); !ok || !slices.Equal(second, third) {
		t.Errorf("%q and %q", second, third)
	}
}

func TestSetText(t *testing.T) {
	for _, c := range []struct {
		l    []impl.Label
		want string
	}{
		{nil, "{}"},
		{[]impl.Label{}, "{}"},
		{set("a", ""), "{a=\"\"}"},
		{set("app", "disk"), "{app=\"disk\"}"},
		{set("app", "a b", "sev", ""), "{app=\"a b\", sev=\"\"}"},
		{set("a", "1", "b", "2", "c", "3"), "{a=\"1\", b=\"2\", c=\"3\"}"},
		{set("a", "1", "b", "2", "c", "3", "d", "4"), "{a=\"1\", b=\"2\", c=\"3\", d=\"4\"}"},
		{set("abcdefgh", "{a=b}, ;'`[]"), "{abcdefgh=\"{a=b}, ;'`[]\"}"},
		{set("a", "            "), "{a=\"            \"}"},
		{set("a", "1", "b", "2", "c", "3", "d", "4", "e", "5"), ""},
		{set("a", "1", "a", "1"), ""},
		{set("a", "1", "a", "2"), ""},
		{set("b", "1", "a", "2"), ""},
		{set("a", "1", "c", "2", "b", "3"), ""},
		{make([]impl.Label, 1), ""},
		{make([]impl.Label, 100000), ""},
	} {
		if got := impl.SetText(c.l); got != c.want {
			t.Errorf("SetText(%.200q) = %q", c.l, got)
		}
	}
}

// A wrong label, at each place of an otherwise right list, leaves no text, and the finger of no text.
func TestTextsOfWrongLabels(t *testing.T) {
	for _, x := range wrongLabels() {
		for place := range 4 {
			l := set("b", "1", "c", "2", "d", "3", "e", "4")
			l[place] = x
			was := slices.Clone(l)
			if got := impl.SetText(l); got != "" {
				t.Errorf("SetText(%.200q) = %.200q", l, got)
			}
			if got := impl.Finger(l); got != 25 {
				t.Errorf("Finger(%.200q) = %d", l, got)
			}
			if !slices.Equal(l, was) {
				t.Errorf("%.200q is now %.200q", was, l)
			}
		}
	}
}

func TestSum(t *testing.T) {
	for s, want := range map[string]int{
		"":                                 2166136261,
		"\x00":                             84696351,
		"\x00\x00":                         292984781,
		"\x80":                             2232128415,
		"\xff":                             2047574606,
		"a":                                0xe40c292c,
		"b":                                0xe70c2de5,
		"foobar":                           0xbf9cf968,
		"{}":                               1415952421,
		"{a=\"\"}":                         1502639143,
		"{app=\"disk\"}":                   2948937838,
		"{a=\"\", b=\"\", c=\"\", d=\"\"}": 43059449,
		"\xc3\xa9":                         0x1e9de8c1,
	} {
		if got := impl.Sum(s); got != want {
			t.Errorf("Sum(%q) = %d", s, got)
		}
	}
}

func TestSumOfManyTexts(t *testing.T) {
	texts := slices.Concat(shortTexts(everyByte(), 2), shortTexts("\x00a\x80\xff", 6), []string{
		everyByte(), strings.Repeat(everyByte(), 50), strings.Repeat("\x00", 100000), strings.Repeat("\xff", 100000),
		"caf\u00e9", "\u20ac\u20ac", "\U0001f600", "\xf0\x9f\x98", "\xef\xbf\xbd",
	})
	for _, s := range texts {
		got := impl.Sum(s)
		h := fnv.New32a()
		h.Write([]byte(s))
		if got != sumAsTold(s) || got != int(h.Sum32()) {
			t.Fatalf("Sum(%.60q) = %d", s, got)
		}
		if got < 0 || got > math.MaxUint32 {
			t.Fatalf("Sum(%.60q) = %d has more than 32 bits", s, got)
		}
	}
}

func TestFinger(t *testing.T) {
	if impl.Fingers != 32 {
		t.Errorf("%d fingers", impl.Fingers)
	}
	for _, c := range []struct {
		l    []impl.Label
		want int
	}{
		{nil, 0},
		{[]impl.Label{}, 0},
		{set("a", ""), 23},
		{set("app", "disk"), 11},
		{set("app", "x", "host", "1"), 30},
		{set("a", "", "b", "", "c", "", "d", ""), 8},
		{set("zzzzzzzz", "~~~~~~~~~~~~"), 27},
		{set("b", "", "a", ""), 25},
		{set("a", "", "a", ""), 25},
		{set("A", ""), 25},
		{set("a", "\""), 25},
		{set("a", "", "b", "", "c", "", "d", "", "e", ""), 25},
		{make([]impl.Label, 100000), 25},
	} {
		if got := impl.Finger(c.l); got != c.want {
			t.Errorf("Finger(%.200q) = %d", c.l, got)
		}
	}
}

// Each finger is met, and none beside 0 .. 31.
func TestFingersOfManySets(t *testing.T) {
	met := map[int]int{}
	for _, l := range slices.Concat(allLists(someLabels(), 4), manyHosts()) {
		got := impl.Finger(l)
		if got != fingerAsTold(l) || got < 0 || got >= impl.Fingers {
			t.Fatalf("Finger(%q) = %d", l, got)
		}
		met[got]++
	}
	if len(met) != impl.Fingers {
		t.Errorf("%d fingers were met", len(met))
	}
}

// manyHosts: sets of one label, each of another val of one byte or two.
func manyHosts() [][]impl.Label {
	var sets [][]impl.Label
	for _, val := range shortTexts("0123456789abcxyz", 2) {
		sets = append(sets, set("host", val))
	}
	return sets
}

func TestPartOf(t *testing.T) {
	for _, c := range []struct{ finger, n, want int }{
		{0, 1, 0}, {5, 1, 0}, {31, 1, 0}, {math.MaxInt, 1, 0},
		{0, 3, 0}, {1, 3, 1}, {2, 3, 2}, {3, 3, 0}, {4, 3, 1}, {7, 3, 1}, {31, 3, 1}, {31, 2, 1}, {30, 2, 0},
		{5, 6, 5}, {6, 6, 0}, {7, 6, 1}, {5, 1000, 5}, {5, math.MaxInt, 5}, {math.MaxInt, math.MaxInt, 0}, {math.MaxInt - 1, math.MaxInt, math.MaxInt - 1},
		{math.MaxInt, 2, 1}, {1000000007, 1000, 7},
		{7, 0, 0}, {7, -1, 0}, {7, -3, 0}, {7, math.MinInt, 0}, {0, 0, 0}, {0, -1, 0},
		{-1, 3, 0}, {-2, 3, 0}, {-7, 3, 0}, {-1, 1, 0}, {math.MinInt, 3, 0}, {math.MinInt + 1, math.MaxInt, 0},
		{-1, 0, 0}, {-1, -1, 0}, {-7, -3, 0}, {math.MinInt, -1, 0}, {math.MinInt, math.MinInt, 0},
	} {
		if got := impl.PartOf(c.finger, c.n); got != c.want {
			t.Errorf("PartOf(%d, %d) = %d", c.finger, c.n, got)
		}
	}
	for n := 1; n <= 40; n++ {
		part := 0
		for finger := range 200 {
			if got := impl.PartOf(finger, n); got != part {
				t.Fatalf("PartOf(%d, %d) = %d", finger, n, got)
			}
			part++
			if part == n {
				part = 0
			}
		}
	}
}

func TestAlike(t *testing.T) {
	wrong := set("b", "", "a", "")
	for _, c := range []struct {
		a, b []impl.Label
		want bool
	}{
		{nil, nil, false},
		{nil, []impl.Label{}, false},
		{set("app", "disk"), set("app", "disk"), false},
		// Both of the finger 30, the next two of 30 and 24.
		{set("host", "1"), set("host", "6"), true},
		{set("host", "1"), set("host", "0"), false},
		{set("host", "1"), set("app", "x", "host", "1"), true},
		{nil, set("host", "?"), true},
		{nil, set("host", "1"), false},
		// What is not SetOk has no text, and so the finger 25.
		{wrong, wrong, false},
		{wrong, slices.Clone(wrong), false},
		{wrong, set("A", ""), true},
		{wrong, set("host", "H"), true},
		{wrong, set("host", "1"), false},
		{wrong, set("a", "", "b", ""), false},
		{wrong, nil, false},
		{make([]impl.Label, 5), make([]impl.Label, 6), true},
		{make([]impl.Label, 5), make([]impl.Label, 5), false},
	} {
		wasA, wasB := slices.Clone(c.a), slices.Clone(c.b)
		if got := impl.Alike(c.a, c.b); got != c.want {
			t.Errorf("Alike(%q, %q) = %v", c.a, c.b, got)
		}
		if got := impl.Alike(c.b, c.a); got != c.want {
			t.Errorf("Alike(%q, %q) = %v", c.b, c.a, got)
		}
		if !slices.Equal(c.a, wasA) || !slices.Equal(c.b, wasB) {
			t.Errorf("%q and %q are now %q and %q", wasA, wasB, c.a, c.b)
		}
	}
}

func TestAlikeOfManySets(t *testing.T) {
	sets := slices.Concat(allLists(someLabels(), 2), manyHosts())
	alike, apart := 0, 0
	for _, a := range sets {
		for _, b := range sets {
			want := !slices.Equal(a, b) && fingerAsTold(a) == fingerAsTold(b)
			if got := impl.Alike(a, b); got != want {
				t.Fatalf("Alike(%q, %q) = %v", a, b, got)
			}
			if want {
				alike++
			} else {
				apart++
			}
		}
	}
	if alike == 0 || apart == 0 {
		t.Errorf("%d are alike, %d are not", alike, apart)
	}
}

// What lies behind a list's length is neither read nor written.
func TestTextsReadListsToTheirLengthAlone(t *testing.T) {
	room := set("app", "x", "host", "1", "A", "\"", "app", "x", "b", "")
	was := slices.Clone(room)
	if got := impl.SetText(room[:2]); got != "{app=\"x\", host=\"1\"}" {
		t.Errorf("%q", got)
	}
	if impl.SetText(room[:0]) != "{}" || impl.Finger(room[:0]) != 0 || impl.Finger(room[:2]) != 30 {
		t.Error("what lies behind the list is read")
	}
	if impl.Alike(room[:1], room[3:4]) || impl.Alike(room[:0], room[4:4]) || !impl.Alike(room[:2], set("host", "6")) {
		t.Error("what lies behind the lists is read")
	}
	if !slices.Equal(room, was) {
		t.Errorf("the list is now %q", room)
	}
}
