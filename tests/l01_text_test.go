package tests

import (
	"math"
	"slices"
	"strings"
	"testing"

	"loop.example/g00490/impl"
)

// shortTexts: every text of at most most bytes, each of them one of bytes.
func shortTexts(bytes string, most int) []string {
	all := []string{""}
	longest := all
	for range most {
		var longer []string
		for _, s := range longest {
			for i := 0; i < len(bytes); i++ {
				longer = append(longer, s+bytes[i:i+1])
			}
		}
		all = append(all, longer...)
		longest = longer
	}
	return all
}

// everyByte: the 256 bytes, ascending.
func everyByte() string {
	b := make([]byte, 256)
	for i := range b {
		b[i] = byte(i)
	}
	return string(b)
}

// lessAsTold: Less in the words of the document, byte by byte.
func lessAsTold(a, b string) bool {
	for i := 0; i < len(a) && i < len(b); i++ {
		if a[i] != b[i] {
			return a[i] < b[i]
		}
	}
	return len(a) < len(b)
}

// inOrderAsTold: InOrder in the words of the document, each against each behind it.
func inOrderAsTold(l []string) bool {
	for i := range l {
		for j := i + 1; j < len(l); j++ {
			if !lessAsTold(l[i], l[j]) {
				return false
			}
		}
	}
	return true
}

func onlyBytes(s string, ok func(b byte) bool) bool {
	for i := 0; i < len(s); i++ {
		if !ok(s[i]) {
			return false
		}
	}
	return true
}

func smallByte(b byte) bool {
	return b >= 97 && b <= 122
}

func plainByte(b byte) bool {
	return b >= 32 && b <= 126 && b != 34 && b != 92
}

// Promise 1: of two unlike texts one is ahead of the other.
func TestPromise1OfTwoUnlikeTextsOneIsAhead(t *testing.T) {
	texts := shortTexts("\x00 az\x7f\x80\xc3\xff", 3)
	for _, a := range texts {
		for _, b := range texts {
			there, back := impl.Less(a, b), impl.Less(b, a)
			if a == b && there {
				t.Fatalf("%q is Less than itself", a)
			}
			if a != b && there == back {
				t.Fatalf("of %q and %q: %v and %v", a, b, there, back)
			}
			if there != lessAsTold(a, b) {
				t.Fatalf("Less(%q, %q) = %v", a, b, there)
			}
		}
	}
}

func TestLess(t *testing.T) {
	long := strings.Repeat("x", 5000)
	ascending := []string{
		"", "\x00", "\x00\x00", "\x01", " ", "-", "0", "10", "2", "A", "Z", "a", "a\x00",
		"aa", "ab", "abc", "b", "ba", long, long + "\x00", long + "x", "z", "\x7f",
		"\x80", "\x80a", "\xc3\xa9", "\xc3\xaa", "\xe2\x82\xac", "\xef\xbf\xbd",
		"\xf0\x9f\x98\x80", "\xff", "\xff\xff",
	}
	for i, a := range ascending {
		for j, b := range ascending {
			if got := impl.Less(a, b); got != (i < j) {
				t.Errorf("Less of the places %d and %d = %v", i, j, got)
			}
		}
	}
}

func TestNameOk(t *testing.T) {
	for s, want := range map[string]bool{
		"":                          false,
		"a":                         true,
		"z":                         true,
		"app":                       true,
		"abcdefgh":                  true,
		"zzzzzzzz":                  true,
		"abcdefghi":                 false,
		"`":                         false,
		"{":                         false,
		"A":                         false,
		"Z":                         false,
		"aB":                        false,
		"0":                         false,
		"a1":                        false,
		"a b":                       false,
		" a":                        false,
		"a ":                        false,
		"a-b":                       false,
		"a_b":                       false,
		"\x00":                      false,
		"a\n":                       false,
		"\x7f":                      false,
		"\xff":                      false,
		"a\x80":                     false,
		"caf\u00e9":                 false,
		"\u0430":                    false,
		"\uff41":                    false,
		"abcdefg\x00":               false,
		"abcdefgH":                  false,
		strings.Repeat("a", 100000): false,
	} {
		if got := impl.NameOk(s); got != want {
			t.Errorf("NameOk(%q) = %v", s, got)
		}
	}
}

func TestNameOkOfEachLength(t *testing.T) {
	for n := range 300 {
		if got, want := impl.NameOk(strings.Repeat("m", n)), n >= 1 && n <= 8; got != want {
			t.Errorf("NameOk of %d letters = %v", n, got)
		}
	}
}

func TestPlainOk(t *testing.T) {
	for s, want := range map[string]bool{
		"":                       true,
		"a":                      true,
		"disk is full":           true,
		"disk is full!":          false,
		"            ":           true,
		"             ":          false,
		"~~~~~~~~~~~~":           true,
		"{a=b}, ;'`[]":           true,
		"AZ az 09 !#/":           true,
		"\x1f":                   false,
		" ":                      true,
		"!":                      true,
		"\"":                     false,
		"#":                      true,
		"[":                      true,
		"\\":                     false,
		"]":                      true,
		"~":                      true,
		"\x7f":                   false,
		"\x80":                   false,
		"\xff":                   false,
		"\x00":                   false,
		"\n":                     false,
		"\t":                     false,
		"a\"b":                   false,
		"elevenbytes\"":          false,
		"elevenbytes\\":          false,
		"\\elevenbytes":          false,
		"caf\u00e9":              false,
		"\u20ac":                 false,
		"\u00a0":                 false,
		"\ufffd":                 false,
		strings.Repeat("a", 1e5): false,
	} {
		if got := impl.PlainOk(s); got != want {
			t.Errorf("PlainOk(%q) = %v", s, got)
		}
	}
}

func TestPlainOkOfEachLength(t *testing.T) {
	for n := range 300 {
		if got, want := impl.PlainOk(strings.Repeat("m", n)), n <= 12; got != want {
			t.Errorf("PlainOk of %d bytes = %v", n, got)
		}
	}
}

// Each byte at each place of a text that is otherwise right, at the greatest length.
func TestTextsByEachByteAtEachPlace(t *testing.T) {
	for b := range 256 {
		for place := range 12 {
			s := []byte("abcdefghijkl")
			s[place] = byte(b)
			if got := impl.PlainOk(string(s)); got != plainByte(byte(b)) {
				t.Errorf("PlainOk(%q) = %v", s, got)
			}
			if got := impl.NameOk(string(s[:8])); got != onlyBytes(string(s[:8]), smallByte) {
				t.Errorf("NameOk(%q) = %v", s[:8], got)
			}
		}
	}
}

func TestTextsOfAtMostTwoBytes(t *testing.T) {
	for _, s := range shortTexts(everyByte(), 2) {
		if got, want := impl.NameOk(s), s != "" && onlyBytes(s, smallByte); got != want {
			t.Errorf("NameOk(%q) = %v", s, got)
		}
		if got, want := impl.PlainOk(s), onlyBytes(s, plainByte); got != want {
			t.Errorf("PlainOk(%q) = %v", s, got)
		}
	}
}

func TestNumText(t *testing.T) {
	for n, want := range map[int]string{
		0:                 "0",
		1:                 "1",
		9:                 "9",
		10:                "10",
		99:                "99",
		100:               "100",
		10203:             "10203",
		99999:             "99999",
		100000:            "100000",
		-1:                "-1",
		-9:                "-9",
		-10:               "-10",
		-40:               "-40",
		-99999:            "-99999",
		math.MaxInt32 + 1: "2147483648",
		math.MinInt32 - 1: "-2147483649",
		math.MaxInt - 1:   "9223372036854775806",
		math.MaxInt:       "9223372036854775807",
		math.MinInt + 1:   "-9223372036854775807",
		math.MinInt:       "-9223372036854775808",
	} {
		if got := impl.NumText(n); got != want {
			t.Errorf("NumText(%d) = %q", n, got)
		}
	}
}

func TestParseNumOfEachNumber(t *testing.T) {
	for want := range 100000 {
		s := impl.NumText(want)
		if n, ok := impl.ParseNum(s); n != want || !ok {
			t.Fatalf("ParseNum(%q) = %d, %v", s, n, ok)
		}
		if n, ok := impl.ParseNum("0" + s); n != 0 || ok {
			t.Fatalf("ParseNum(%q) = %d, %v", "0"+s, n, ok)
		}
	}
	for past := 100000; past < 1200000; past++ {
		if n, ok := impl.ParseNum(impl.NumText(past)); n != 0 || ok {
			t.Fatalf("ParseNum of %d = %d, %v", past, n, ok)
		}
	}
}

func TestParseNumRefuses(t *testing.T) {
	for _, s := range []string{
		"", "-", "+", " ", "--", "-0", "-1", "+1", "+0", "00", "01", "000000", "00001", "099999",
		"100000", "999999", "1000000", "4294967296", "4294967297", "9223372036854775807",
		"9223372036854775808", "18446744073709551616", "18446744073709551617",
		"36893488147419103239", " 1", "1 ", "1 2", "1\n", "1x", "x1", "0x1", "1_0", "1.0", "1e2", ".",
		"/", ":", "1/", "1:", "\x00", "1\x00", "\xb1", "1\xb1", "\xff", "\u0661", "1\u0662", "\uff11", "\u00b2",
		strings.Repeat("0", 100000), strings.Repeat("1", 100000), strings.Repeat("9", 100000),
		"1" + strings.Repeat("0", 64), "5" + strings.Repeat("\x00", 100000), strings.Repeat("-", 100000),
	} {
		if n, ok := impl.ParseNum(s); n != 0 || ok {
			t.Errorf("ParseNum(%.40q) = %d, %v", s, n, ok)
		}
	}
}

// Each text of at most two bytes is read just if it is what NumText tells of 0 .. 99.
func TestParseNumOfAtMostTwoBytes(t *testing.T) {
	told := map[string]int{}
	for n := range 100 {
		told[impl.NumText(n)] = n
	}
	for _, s := range shortTexts(everyByte(), 2) {
		want, wantOk := told[s]
		if n, ok := impl.ParseNum(s); n != want || ok != wantOk {
			t.Errorf("ParseNum(%q) = %d, %v", s, n, ok)
		}
	}
}

// A byte that is not a digit, at each place of a number, is refused, and with 0.
func TestParseNumByEachByteAtEachPlace(t *testing.T) {
	for b := range 256 {
		for place := range 5 {
			s := []byte("12345")
			s[place] = byte(b)
			isDigit := b >= 48 && b <= 57 && (place > 0 || b > 48)
			n, ok := impl.ParseNum(string(s))
			if ok != isDigit || !ok && n != 0 || ok && impl.NumText(n) != string(s) {
				t.Errorf("ParseNum(%q) = %d, %v", s, n, ok)
			}
		}
	}
}

func TestInOrder(t *testing.T) {
	for _, c := range []struct {
		l    []string
		want bool
	}{
		{nil, true},
		{[]string{}, true},
		{[]string{""}, true},
		{[]string{"\xff"}, true},
		{[]string{"a", "b"}, true},
		{[]string{"", "a"}, true},
		{[]string{"a", "ab"}, true},
		{[]string{"a", "\x80"}, true},
		{[]string{"app", "host", "job", "zone"}, true},
		{[]string{"a", "a"}, false},
		{[]string{"", ""}, false},
		{[]string{"b", "a"}, false},
		{[]string{"a", ""}, false},
		{[]string{"ab", "a"}, false},
		{[]string{"\x80", "a"}, false},
		{[]string{"b", "a", "c"}, false},
		{[]string{"a", "c", "b"}, false},
		{[]string{"a", "b", "a"}, false},
		{[]string{"a", "b", "b"}, false},
		{[]string{"a", "a", "b"}, false},
		{[]string{"a", "b", "c", "e", "d"}, false},
	} {
		if got := impl.InOrder(c.l); got != c.want {
			t.Errorf("InOrder(%q) = %v", c.l, got)
		}
	}
}

func TestInOrderOfAllShortLists(t *testing.T) {
	texts := []string{"", "a", "ab", "b", "\xff"}
	lists := [][]string{nil}
	for from := 0; from < len(lists); from++ {
		l := lists[from]
		if got := impl.InOrder(l); got != inOrderAsTold(l) {
			t.Errorf("InOrder(%q) = %v", l, got)
		}
		if len(l) == 4 {
			continue
		}
		for _, s := range texts {
			lists = append(lists, append(slices.Clone(l), s))
		}
	}
}

// What lies behind a list's length is neither read nor written, and the list stays as it is.
func TestInOrderLeavesItsListAlone(t *testing.T) {
	room := []string{"a", "b", "a", "z"}
	if !impl.InOrder(room[:2]) {
		t.Error("what lies behind the list is read")
	}
	if impl.InOrder(room) {
		t.Error("a list out of order")
	}
	if !slices.Equal(room, []string{"a", "b", "a", "z"}) {
		t.Errorf("the list is now %q", room)
	}
}

func TestLeastAndMost(t *testing.T) {
	ascending := []int{math.MinInt, math.MinInt + 1, -99999, -5, -1, 0, 1, 3, 5, 99999, math.MaxInt - 1, math.MaxInt}
	for i, a := range ascending {
		for j, b := range ascending {
			if got := impl.Least(a, b); got != ascending[min(i, j)] {
				t.Errorf("Least(%d, %d) = %d", a, b, got)
			}
			if got := impl.Most(a, b); got != ascending[max(i, j)] {
				t.Errorf("Most(%d, %d) = %d", a, b, got)
			}
		}
	}
}
