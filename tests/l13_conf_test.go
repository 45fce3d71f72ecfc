package tests

import (
	"math"
	"slices"
	"strconv"
	"strings"
	"testing"

	"loop.example/g00490/impl"
)

// confAsTold: ConfOk in the words of the document.
func confAsTold(c impl.Conf) bool {
	if c.Parts < 1 || c.Parts > 3 || c.Cap < 1 || c.Cap > 8 || c.Subs != 1 && c.Subs != 2 {
		return false
	}
	return c.Wait > 0 && c.Wait < 10 && c.Every > 0 && c.Every < 10 && byAsTold(c.By)
}

func sameConfAsTold(a, b impl.Conf) bool {
	return a.Parts == b.Parts && a.Cap == b.Cap && a.Subs == b.Subs && a.Wait == b.Wait && a.Every == b.Every && slices.Equal(a.By, b.By)
}

// confTextAsTold: ConfText in the words of the document.
func confTextAsTold(c impl.Conf) string {
	if !confAsTold(c) {
		return ""
	}
	text := "parts " + strconv.Itoa(c.Parts) + " cap " + strconv.Itoa(c.Cap) + " subs " + strconv.Itoa(c.Subs) +
		" wait " + strconv.Itoa(c.Wait) + " every " + strconv.Itoa(c.Every) + " by "
	for i, name := range c.By {
		if i > 0 {
			text += ","
		}
		text += name
	}
	if len(c.By) == 0 {
		text += "-"
	}
	return text
}

// dueAsTold: Due in the words of the document.
func dueAsTold(c impl.Conf, g impl.Group) int {
	if g.Last == -1 {
		return g.Born + c.Wait
	}
	return g.Last + c.Every
}

// fitsAsTold: Fits in the words of the document.
func fitsAsTold(a impl.Alarm) bool {
	return alarmAsTold(a) && a.End < 99900
}

// keepConf: a copy that shares nothing with the set-up, to hold it against later.
func keepConf(c impl.Conf) impl.Conf {
	c.By = slices.Clone(c.By)
	return c
}

// rightConf: one whose numbers are all unlike, and in none of which a place could be mistaken for another.
func rightConf(by ...string) impl.Conf {
	return impl.Conf{Parts: 3, Cap: 7, Subs: 1, Wait: 2, Every: 5, By: by}
}

// confNumber: one of the numbers of a set-up, what it is called, and how great it may be.
type confNumber struct {
	name string
	at   func(c *impl.Conf) *int
	most int
}

func confNumbers() []confNumber {
	return []confNumber{
		{"parts", func(c *impl.Conf) *int { return &c.Parts }, 3},
		{"cap", func(c *impl.Conf) *int { return &c.Cap }, 8},
		{"subs", func(c *impl.Conf) *int { return &c.Subs }, 2},
		{"wait", func(c *impl.Conf) *int { return &c.Wait }, 9},
		{"every", func(c *impl.Conf) *int { return &c.Every }, 9},
	}
}

// around: both limits of such a number, one past each, those below 0, in between, and at the ends of int.
func (x confNumber) around() []int {
	return []int{math.MinInt, -x.most, -1, 0, 1, x.most/2 + 1, x.most, x.most + 1, 10 * x.most, math.MaxInt}
}

// confsOfOne: right ones but for one number, which is each of those around its limits.
func confsOfOne() []impl.Conf {
	var confs []impl.Conf
	for _, x := range confNumbers() {
		for _, n := range x.around() {
			c := rightConf("app")
			*x.at(&c) = n
			confs = append(confs, c)
		}
	}
	return confs
}

// confBys: names in order and out of it, alike, such that are none, and too many.
func confBys() [][]string {
	return append(someBys(),
		[]string{"app", "app"}, []string{"app", "ap"}, []string{"ap", "app"}, []string{"a", "b", "c"}, []string{"a", "c", "b"},
		[]string{"abcdefgh"}, []string{"abcdefgh", "abcdefgi"}, []string{"abcdefghi"}, []string{"App"}, []string{"a1"}, []string{"a,b"},
		[]string{"a b"}, []string{"-"}, []string{"ä"}, []string{"app", "\x00"}, []string{"`"}, []string{"{"}, []string{"\xff"},
	)
}

// someConfs: right ones and such that cannot be, by each of their parts and by several at once.
func someConfs() []impl.Conf {
	confs := append(confsOfOne(), impl.Conf{}, impl.Conf{By: []string{"app"}}, impl.Conf{Parts: -1, Cap: -1, Subs: -1, Wait: -1, Every: -1},
		impl.Conf{Parts: 1, Cap: 1, Subs: 1, Wait: 1, Every: 1}, impl.Conf{Parts: 3, Cap: 8, Subs: 2, Wait: 9, Every: 9, By: []string{"a", "b"}},
		impl.Conf{Parts: 4, Cap: 9, Subs: 3, Wait: 10, Every: 10, By: []string{"b", "a"}},
		impl.Conf{Parts: math.MinInt, Cap: math.MaxInt, Subs: math.MinInt, Wait: math.MaxInt, Every: math.MinInt, By: []string{""}})
	for _, by := range confBys() {
		confs = append(confs, rightConf(by...))
	}
	return confs
}

// checkConf: that ConfOk and ConfText answer as told, and leave the set-up as it was.
func checkConf(t *testing.T, c impl.Conf) bool {
	t.Helper()
	was := keepConf(c)
	ok := impl.ConfOk(c)
	if ok != confAsTold(c) {
		t.Fatalf("ConfOk(%+v) = %v", c, ok)
	}
	if got, want := impl.ConfText(c), confTextAsTold(c); got != want {
		t.Fatalf("ConfText(%+v) = %q, not %q", c, got, want)
	}
	if !sameConfAsTold(c, was) {
		t.Fatalf("%+v is now %+v", was, c)
	}
	return ok
}

// checkFits: that Fits answers as told, that what fits is right, and that both arguments are as they were.
func checkFits(t *testing.T, c impl.Conf, a impl.Alarm) bool {
	t.Helper()
	wasC, wasA := keepConf(c), keepAlarm(a)
	fits := impl.Fits(c, a)
	if fits != fitsAsTold(a) {
		t.Fatalf("Fits(%+v, %+v) = %v", c, a, fits)
	}
	if fits && (!impl.AlarmOk(a) || a.End > impl.MaxTime-100) {
		t.Fatalf("%+v fits, but is not right", a)
	}
	if !sameConfAsTold(c, wasC) || !sameAsTold(a, wasA) {
		t.Fatalf("%+v and %+v are now %+v and %+v", wasC, wasA, c, a)
	}
	return fits
}

// lateAlarms: right ones but for some of their times, all around the last End that fits and around MaxTime.
func lateAlarms() []impl.Alarm {
	times := append(someTimes(), 99897, 99898, 99899, 99900, 99901)
	var l []impl.Alarm
	for _, start := range times {
		for _, end := range times {
			l = append(l, alarm(start, end, "full", "app", "x", "host", "1"))
		}
	}
	return l
}

// labelsOfNoAlarm: lists of labels that are no right set, among them those of no label at all.
func labelsOfNoAlarm() map[string][]impl.Label {
	return map[string][]impl.Label{
		"nil":              nil,
		"empty":            {},
		"descending":       set("host", "1", "app", "x"),
		"one twice":        set("app", "x", "app", "x"),
		"one name twice":   set("app", "x", "app", "y"),
		"last out":         set("app", "x", "job", "y", "host", "1"),
		"too many":         set("a", "", "b", "", "c", "", "d", "", "e", ""),
		"no name":          set("", "x"),
		"long name":        set("abcdefghi", "x"),
		"sign in a name":   set("ap-p", "x"),
		"great letter":     set("App", "x"),
		"long value":       set("app", "1234567890123"),
		"quote in a value": set("app", "\""),
		"sign in a value":  set("app", "\x1f"),
		"backslash":        set("app", "\\"),
	}
}

// Promise 13: what fits is right.
func TestPromise13WhatFitsIsRight(t *testing.T) {
	alarms := slices.Concat(someAlarms(), lateAlarms(), keyedAlarms(), toldAlarms(), groupedAlarms(), []impl.Alarm{{}})
	for _, c := range someConfs() {
		met := map[bool]int{}
		for _, a := range alarms {
			met[checkFits(t, c, a)]++
		}
		if met[true] == 0 || met[false] == 0 {
			t.Errorf("with %+v %d fit, %d do not", c, met[true], met[false])
		}
	}
}

// All alarms of short lists of right and wrong labels.
func TestPromise13OfLabels(t *testing.T) {
	of := []impl.Label{{Name: "a", Val: "1"}, {Name: "a"}, {Name: "b", Val: "x y"}, {Name: "c"}, {Name: "d"}, {Name: "e"}, {Name: ""}, {Name: "f", Val: "\""}}
	met := map[bool]int{}
	for _, l := range allLists(of, 5) {
		a := impl.Alarm{L: l, Start: 3, End: 99899, Note: "full"}
		fits := checkFits(t, rightConf("a"), a)
		met[fits]++
		if a.End = 99900; checkFits(t, rightConf("a"), a) {
			t.Fatalf("%+v fits", a)
		}
	}
	// Each 1 to 4 of the names a to e, in their order, that of a with either of its two values.
	if met[true] != 6+14+16+9 {
		t.Errorf("%d fit, %d do not", met[true], met[false])
	}
}

// An alarm that is right but for one of its parts does not fit, with whatever set-up.
func TestPromise13RightButForOnePart(t *testing.T) {
	right := alarm(3, 8, "full", "app", "x", "host", "1")
	wrong := map[string]impl.Alarm{}
	change := func(name string, do func(a *impl.Alarm)) {
		a := keepAlarm(right)
		do(&a)
		wrong[name] = a
	}
	for name, l := range labelsOfNoAlarm() {
		change("labels: "+name, func(a *impl.Alarm) { a.L = l })
	}
	for name, n := range map[string]int{"below 0": -1, "behind its End": 9, "least": math.MinInt, "greatest": math.MaxInt, "past MaxTime": 100000} {
		change("Start "+name, func(a *impl.Alarm) { a.Start = n })
	}
	for name, n := range map[string]int{"ahead of its Start": 2, "below 0": -1, "least": math.MinInt, "greatest": math.MaxInt, "past MaxTime": 100000, "MaxTime": 99999, "one past": 99900} {
		change("End "+name, func(a *impl.Alarm) { a.End = n })
	}
	change("Start and End below 0", func(a *impl.Alarm) { a.Start, a.End = -2, -1 })
	for name, note := range map[string]string{"too long": "1234567890123", "quote": "\"", "backslash": "\\", "sign": "\x1f", "behind ~": "\x7f", "great byte": "\x80", "rune": "ä", "end of line": "a\n"} {
		change("Note: "+name, func(a *impl.Alarm) { a.Note = note })
	}
	for _, c := range someConfs() {
		if !checkFits(t, c, right) {
			t.Errorf("with %+v the right one does not fit", c)
		}
		for name, a := range wrong {
			if checkFits(t, c, a) {
				t.Errorf("%s: with %+v %+v fits", name, c, a)
			}
		}
	}
}

func TestFits(t *testing.T) {
	for name, x := range map[string]struct {
		a    impl.Alarm
		want bool
	}{
		"ordinary":               {alarm(3, 8, "full", "app", "x"), true},
		"all least":              {alarm(0, 0, "", "a", ""), true},
		"all greatest":           {alarm(99899, 99899, "123456789012", "abcdefgh", "123456789012"), true},
		"End at MaxTime - 101":   {alarm(3, 99898, "", "app", "x"), true},
		"End at MaxTime - 100":   {alarm(3, 99899, "", "app", "x"), true},
		"End at MaxTime - 99":    {alarm(3, 99900, "", "app", "x"), false},
		"End at MaxTime":         {alarm(3, 99999, "", "app", "x"), false},
		"End past MaxTime":       {alarm(3, 100000, "", "app", "x"), false},
		"End greatest":           {alarm(3, math.MaxInt, "", "app", "x"), false},
		"Start at MaxTime - 100": {alarm(99899, 99899, "", "app", "x"), true},
		"Start at MaxTime - 99":  {alarm(99900, 99900, "", "app", "x"), false},
		"Start behind End":       {alarm(99900, 99899, "", "app", "x"), false},
		"End ahead of Start":     {alarm(9, 8, "", "app", "x"), false},
		"Start below 0":          {alarm(-1, 8, "", "app", "x"), false},
		"no labels":              {alarm(3, 8, ""), false},
		"labels out of order":    {alarm(3, 8, "", "host", "1", "app", "x"), false},
		"wrong Note":             {alarm(3, 8, "\"", "app", "x"), false},
		"zero":                   {impl.Alarm{}, false},
	} {
		for _, c := range []impl.Conf{{}, rightConf(), rightConf("app"), rightConf("host", "app"), {Parts: -1, Wait: math.MaxInt}} {
			if got := checkFits(t, c, x.a); got != x.want {
				t.Errorf("%s: Fits(%+v, %+v) = %v", name, c, x.a, got)
			}
		}
	}
}

// Each number by itself: its least, its greatest, one past each, below 0, and the ends of int.
func TestConfOkOfEachNumber(t *testing.T) {
	for _, x := range confNumbers() {
		for _, n := range x.around() {
			c := rightConf("app")
			*x.at(&c) = n
			if got, want := checkConf(t, c), n >= 1 && n <= x.most; got != want {
				t.Errorf("%s %d: %v", x.name, n, got)
			}
		}
		for n := -20; n <= 20; n++ {
			c := rightConf()
			*x.at(&c) = n
			if got, want := checkConf(t, c), n >= 1 && n <= x.most; got != want {
				t.Errorf("%s %d, by nothing: %v", x.name, n, got)
			}
		}
	}
}

// Several at once: all numbers around their limits together, by right and by wrong names.
func TestConfOkOfSeveralNumbers(t *testing.T) {
	for _, by := range [][]string{nil, {"app", "sev"}, {"sev", "app"}} {
		confs := []impl.Conf{{By: by}}
		for _, x := range confNumbers() {
			var more []impl.Conf
			for _, c := range confs {
				for _, n := range []int{math.MinInt, 0, 1, x.most, x.most + 1, math.MaxInt} {
					*x.at(&c) = n
					more = append(more, c)
				}
			}
			confs = more
		}
		right := 0
		for _, c := range confs {
			if checkConf(t, c) {
				right++
			}
		}
		want := 2 * 2 * 2 * 2 * 2
		if len(by) > 0 && by[0] == "sev" {
			want = 0
		}
		if right != want {
			t.Errorf("by %q %d are right, not %d", by, right, want)
		}
	}
}

// Names out of order: the same names are right in order alone, and only then told.
func TestConfOfNamesOutOfOrder(t *testing.T) {
	for name, x := range map[string]struct {
		by   []string
		want string
	}{
		"in order":               {[]string{"app", "sev"}, "app,sev"},
		"descending":             {[]string{"sev", "app"}, ""},
		"alike":                  {[]string{"app", "app"}, ""},
		"beginning ahead":        {[]string{"ap", "app"}, "ap,app"},
		"beginning behind":       {[]string{"app", "ap"}, ""},
		"of as many as may be":   {[]string{"a", "z"}, "a,z"},
		"last letter in order":   {[]string{"abcdefgh", "abcdefgi"}, "abcdefgh,abcdefgi"},
		"last letter descending": {[]string{"abcdefgi", "abcdefgh"}, ""},
		"three in order":         {[]string{"app", "host", "sev"}, ""},
		"three, the last one":    {[]string{"app", "sev", "host"}, ""},
		"three, last as first":   {[]string{"app", "sev", "app"}, ""},
		"three alike":            {[]string{"app", "app", "app"}, ""},
		"empty name":             {[]string{""}, ""},
		"empty name ahead":       {[]string{"", "app"}, ""},
		"empty name behind":      {[]string{"app", ""}, ""},
		"two empty names":        {[]string{"", ""}, ""},
		"too long":               {[]string{"abcdefghi"}, ""},
		"too long behind":        {[]string{"app", "sevsevsev"}, ""},
		"great letter":           {[]string{"App"}, ""},
		"great letter ahead":     {[]string{"App", "app"}, ""},
		"number":                 {[]string{"app", "h1"}, ""},
		"sign ahead of a":        {[]string{"`"}, ""},
		"sign behind z":          {[]string{"app", "{"}, ""},
		"comma":                  {[]string{"app,sev"}, ""},
		"no names":               {[]string{"-"}, ""},
		"letter of two bytes":    {[]string{"ä"}, ""},
		"byte of no letter":      {[]string{"app", "s\xff"}, ""},
		"one":                    {[]string{"app"}, "app"},
		"one of a letter":        {[]string{"a"}, "a"},
		"one of eight letters":   {[]string{"zzzzzzzz"}, "zzzzzzzz"},
		"empty":                  {[]string{}, "-"},
		"nil":                    {nil, "-"},
	} {
		c := rightConf(x.by...)
		ok := checkConf(t, c)
		if ok != (x.want != "") {
			t.Errorf("%s: ConfOk(%+v) = %v", name, c, ok)
		}
		want := ""
		if ok {
			want = "parts 3 cap 7 subs 1 wait 2 every 5 by " + x.want
		}
		if got := impl.ConfText(c); got != want {
			t.Errorf("%s: ConfText(%+v) = %q", name, c, got)
		}
	}
}

// The same names, of each two of some, are right and told in one order alone.
func TestConfOfNamesPutInOrder(t *testing.T) {
	names := []string{"a", "aa", "ab", "app", "b", "ba", "sev", "zzzzzzzz"}
	for i, less := range names {
		for _, greater := range names[i+1:] {
			down, up := rightConf(greater, less), rightConf(less, greater)
			if checkConf(t, down) || impl.ConfText(down) != "" {
				t.Errorf("%+v is right, and %q", down, impl.ConfText(down))
			}
			if !checkConf(t, up) || !strings.HasSuffix(impl.ConfText(up), " by "+less+","+greater) {
				t.Errorf("%+v is not right, or %q", up, impl.ConfText(up))
			}
		}
	}
}

// All lists of a few names, right ones and wrong ones among them.
func TestConfOfAllShortListsOfNames(t *testing.T) {
	right := 0
	for _, by := range allLists([]string{"a", "ab", "b", "abcdefgh", "", "abcdefghi", "A", "a1"}, 4) {
		if checkConf(t, rightConf(by...)) {
			right++
		}
	}
	// Of the four that are names: none, each alone, and each two of them in their order.
	if right != 1+4+6 {
		t.Errorf("%d lists are right", right)
	}
	for _, name := range shortTexts("az`{A\x00\xff", 3) {
		checkConf(t, rightConf(name))
		checkConf(t, rightConf("az", name))
	}
}

func TestConfText(t *testing.T) {
	for _, x := range []struct {
		c    impl.Conf
		want string
	}{
		{impl.Conf{Parts: 2, Cap: 3, Subs: 1, Wait: 4, Every: 5}, "parts 2 cap 3 subs 1 wait 4 every 5 by -"},
		{impl.Conf{Parts: 2, Cap: 3, Subs: 1, Wait: 4, Every: 5, By: []string{}}, "parts 2 cap 3 subs 1 wait 4 every 5 by -"},
		{impl.Conf{Parts: 2, Cap: 3, Subs: 1, Wait: 4, Every: 5, By: []string{"app"}}, "parts 2 cap 3 subs 1 wait 4 every 5 by app"},
		{impl.Conf{Parts: 1, Cap: 1, Subs: 1, Wait: 1, Every: 1, By: []string{"a", "b"}}, "parts 1 cap 1 subs 1 wait 1 every 1 by a,b"},
		{impl.Conf{Parts: 3, Cap: 8, Subs: 2, Wait: 9, Every: 9, By: []string{"yyyyyyyy", "zzzzzzzz"}}, "parts 3 cap 8 subs 2 wait 9 every 9 by yyyyyyyy,zzzzzzzz"},
		{impl.Conf{}, ""},
		{impl.Conf{Parts: 4, Cap: 3, Subs: 1, Wait: 4, Every: 5}, ""},
		{impl.Conf{Parts: 2, Cap: 0, Subs: 1, Wait: 4, Every: 5}, ""},
		{impl.Conf{Parts: 2, Cap: 3, Subs: -1, Wait: 4, Every: 5}, ""},
		{impl.Conf{Parts: 2, Cap: 3, Subs: 1, Wait: 10, Every: 5}, ""},
		{impl.Conf{Parts: 2, Cap: 3, Subs: 1, Wait: 4, Every: math.MaxInt}, ""},
		{impl.Conf{Parts: 2, Cap: 3, Subs: 1, Wait: 4, Every: 5, By: []string{"b", "a"}}, ""},
	} {
		checkConf(t, x.c)
		if got := impl.ConfText(x.c); got != x.want {
			t.Errorf("ConfText(%+v) = %q", x.c, got)
		}
	}
}

// Every right set-up has a text, and no two unlike ones have the same.
func TestConfTextOfAll(t *testing.T) {
	texts := map[string]impl.Conf{}
	for _, by := range [][]string{nil, {"app"}, {"app", "sev"}} {
		for parts := range 3 {
			for limit := range 8 {
				for subs := range 2 {
					for times := range 81 {
						c := impl.Conf{Parts: parts + 1, Cap: limit + 1, Subs: subs + 1, Wait: times/9 + 1, Every: times%9 + 1, By: by}
						if !checkConf(t, c) {
							t.Fatalf("%+v is not right", c)
						}
						text := impl.ConfText(c)
						if was, there := texts[text]; there {
							t.Fatalf("%+v and %+v are both %q", was, c, text)
						}
						texts[text] = c
					}
				}
			}
		}
	}
	if len(texts) != 3*3*8*2*9*9 {
		t.Errorf("%d texts", len(texts))
	}
}

// Any two of the set-ups, right ones or not, are the same just if all their parts are.
func TestSameConfOfAnyTwo(t *testing.T) {
	confs := someConfs()
	met := map[bool]int{}
	for i, a := range confs {
		for _, b := range confs {
			wasA, wasB := keepConf(a), keepConf(b)
			same := impl.SameConf(a, b)
			met[same]++
			if same != sameConfAsTold(a, b) {
				t.Fatalf("SameConf(%+v, %+v) = %v", a, b, same)
			}
			if !sameConfAsTold(a, wasA) || !sameConfAsTold(b, wasB) {
				t.Fatalf("%+v and %+v are now %+v and %+v", wasA, wasB, a, b)
			}
		}
		if !impl.SameConf(a, keepConf(a)) {
			t.Errorf("%d: %+v is not the same as itself", i, a)
		}
	}
	if met[true] == 0 || met[false] == 0 {
		t.Errorf("%d are the same, %d are not", met[true], met[false])
	}
}

// Two that differ in one number alone, also where neither is right.
func TestSameConfOfOneNumber(t *testing.T) {
	for _, c := range []impl.Conf{rightConf(), rightConf("app", "sev"), {}, {Parts: -7, Cap: 70, Subs: math.MinInt, Wait: math.MaxInt, Every: -1, By: []string{"b", "", "a"}}} {
		for _, x := range confNumbers() {
			other := keepConf(c)
			for _, n := range append(x.around(), 2, 5, 7) {
				*x.at(&other) = n
				if got, want := impl.SameConf(c, other), n == *x.at(&c); got != want || impl.SameConf(other, c) != want {
					t.Errorf("%s %d: SameConf(%+v, %+v) = %v", x.name, n, c, other, got)
				}
			}
		}
		// Two numbers that have changed places are not the same set-up, unless they are alike.
		for _, x := range confNumbers() {
			for _, y := range confNumbers() {
				other := keepConf(c)
				*x.at(&other), *y.at(&other) = *y.at(&other), *x.at(&other)
				if got, want := impl.SameConf(c, other), *x.at(&c) == *y.at(&c); got != want {
					t.Errorf("%s for %s: SameConf(%+v, %+v) = %v", x.name, y.name, c, other, got)
				}
			}
		}
	}
}

func TestSameConfOfNames(t *testing.T) {
	for name, x := range map[string]struct {
		a, b []string
		want bool
	}{
		"nil and empty":          {nil, []string{}, true},
		"two empty":              {[]string{}, []string{}, true},
		"one and the same":       {[]string{"app"}, []string{"app"}, true},
		"two and the same":       {[]string{"app", "sev"}, []string{"app", "sev"}, true},
		"in another order":       {[]string{"app", "sev"}, []string{"sev", "app"}, false},
		"a beginning of it":      {[]string{"app"}, []string{"app", "sev"}, false},
		"the end of it":          {[]string{"sev"}, []string{"app", "sev"}, false},
		"none of one":            {nil, []string{"app"}, false},
		"none of an empty one":   {nil, []string{""}, false},
		"another first one":      {[]string{"app", "sev"}, []string{"job", "sev"}, false},
		"another last one":       {[]string{"app", "sev"}, []string{"app", "zone"}, false},
		"a beginning of a name":  {[]string{"app"}, []string{"ap"}, false},
		"one of two put as one":  {[]string{"app", "sev"}, []string{"appsev"}, false},
		"one of two with comma":  {[]string{"app", "sev"}, []string{"app,sev"}, false},
		"cut elsewhere":          {[]string{"app", "sev"}, []string{"apps", "ev"}, false},
		"great letters":          {[]string{"app"}, []string{"App"}, false},
		"wrong ones, the same":   {[]string{"B", "", "\xff"}, []string{"B", "", "\xff"}, true},
		"wrong ones, unlike":     {[]string{"B", "", "\xff"}, []string{"B", "", "\xfe"}, false},
		"one twice, one once":    {[]string{"app", "app"}, []string{"app"}, false},
		"the line for no names":  {[]string{"-"}, nil, false},
		"one twice, both alike":  {[]string{"app", "app"}, []string{"app", "app"}, true},
		"many, unlike in a last": {[]string{"a", "b", "c", "d"}, []string{"a", "b", "c", "e"}, false},
	} {
		a, b := rightConf(x.a...), rightConf(x.b...)
		if impl.SameConf(a, b) != x.want || impl.SameConf(b, a) != x.want {
			t.Errorf("%s: SameConf(%+v, %+v) = %v, the other way round %v", name, a, b, impl.SameConf(a, b), impl.SameConf(b, a))
		}
		if b.Every++; impl.SameConf(a, b) {
			t.Errorf("%s: SameConf(%+v, %+v)", name, a, b)
		}
	}
}

// checkDue: that Due answers as told and as NextDue does, and that both arguments are as they were.
func checkDue(t *testing.T, c impl.Conf, g impl.Group) int {
	t.Helper()
	wasC, wasG := keepConf(c), keepGroup(g)
	due := impl.Due(c, g)
	if due != dueAsTold(c, g) || due != impl.NextDue(g, c.Wait, c.Every) {
		t.Fatalf("Due(%+v, %+v) = %d, not %d", c, g, due, dueAsTold(c, g))
	}
	if !sameConfAsTold(c, wasC) || !sameGroupAsTold(g, wasG) {
		t.Fatalf("%+v and %+v are now %+v and %+v", wasC, wasG, c, g)
	}
	return due
}

func TestDue(t *testing.T) {
	for _, x := range []struct{ wait, every, born, last, want int }{
		{2, 5, 3, -1, 5},
		{2, 5, 3, 3, 8},
		{2, 5, 3, 20, 25},
		{1, 1, 0, -1, 1},
		{1, 1, 0, 0, 1},
		{9, 9, 99999, -1, 100008},
		{9, 1, 99999, 99999, 100000},
		// Numbers that no set-up has are added all the same.
		{0, 0, 3, -1, 3},
		{0, 0, 3, 20, 20},
		{-7, 5, 3, -1, -4},
		{2, -30, 3, 20, -10},
		{math.MaxInt, 5, 0, -1, math.MaxInt},
		{math.MinInt, 5, 0, -1, math.MinInt},
		{2, math.MaxInt, 0, 0, math.MaxInt},
		{2, math.MinInt, 0, 0, math.MinInt},
		{math.MinInt, 5, 3, 20, 25},
		{2, math.MinInt, 3, -1, 5},
		// So are times that no group has; -1 alone is never.
		{2, 5, -9, -1, -7},
		{2, 5, 3, -2, 3},
		{2, 5, 20, 3, 8},
		{2, 5, 3, math.MinInt, math.MinInt + 5},
		// Past either end of int it goes on at the other one.
		{math.MaxInt, 5, 1, -1, math.MinInt},
		{2, math.MinInt, 1, -2, math.MaxInt - 1},
	} {
		for _, c := range []impl.Conf{{Wait: x.wait, Every: x.every}, {Parts: 1, Cap: 8, Subs: 2, Wait: x.wait, Every: x.every, By: []string{"sev", "app"}}} {
			for _, g := range []impl.Group{{Born: x.born, Last: x.last}, {N: 4, Key: set("app", "a"), Born: x.born, Last: x.last, L: members(1, 99999)}} {
				if got := checkDue(t, c, g); got != x.want {
					t.Errorf("Due(%+v, %+v) = %d, not %d", c, g, got, x.want)
				}
			}
		}
	}
}

// Of set-ups and groups of any kind: neither the other numbers nor the alarms count.
func TestDueOfAny(t *testing.T) {
	groups := append(listedGroups(), impl.Group{})
	for _, born := range someTimes() {
		for _, last := range someTimes() {
			groups = append(groups, impl.Group{N: -3, Key: set("b", "", "a", ""), Born: born, Last: last, L: []impl.Alarm{{}}})
		}
	}
	for _, c := range someConfs() {
		for _, g := range groups {
			checkDue(t, c, g)
		}
	}
	for _, wait := range someTimes() {
		for _, every := range someTimes() {
			for _, g := range groups {
				checkDue(t, impl.Conf{Wait: wait, Every: every}, g)
			}
		}
	}
}

// What lies behind the lists is neither read nor written.
func TestConfsAreReadToTheirLengthAlone(t *testing.T) {
	room := func() []string { return []string{"app", "sev", "app", "B", ""} }
	names := room()
	for n := range names {
		c := rightConf()
		c.By = names[:n]
		checkConf(t, c)
		if !impl.SameConf(c, rightConf(room()[:n]...)) || impl.SameConf(c, rightConf(room()[:n+1]...)) {
			t.Errorf("of %d names: %+v is not the same", n, c)
		}
		checkDue(t, c, impl.Group{Born: 3, Last: -1})
		checkFits(t, c, alarm(3, 8, "", "app", "x"))
		if !slices.Equal(names, room()) {
			t.Errorf("of %d names: they are now %q", n, names)
		}
	}
	groups, alarms, check := roomyGroups()
	c := rightConf("app")
	for _, g := range groups {
		checkDue(t, c, g)
		check(t, "due")
	}
	for _, a := range alarms {
		checkFits(t, c, a)
		check(t, "fits")
	}
	whole := set("app", "x", "host", "1", "app", "y")
	for n, want := range []bool{false, true, true, false} {
		if got := checkFits(t, c, impl.Alarm{L: whole[:n], Start: 3, End: 8}); got != want {
			t.Errorf("of %d labels: %v", n, got)
		}
	}
	if !slices.Equal(whole, set("app", "x", "host", "1", "app", "y")) {
		t.Errorf("the labels are now %q", whole)
	}
}

// A text that was told stays, whatever becomes of the names.
func TestConfTextStays(t *testing.T) {
	c := rightConf("app", "sev")
	text, one := impl.ConfText(c), impl.ConfText(rightConf("app"))
	c.By[0], c.By[1] = "job", "zone"
	if text != "parts 3 cap 7 subs 1 wait 2 every 5 by app,sev" || one != "parts 3 cap 7 subs 1 wait 2 every 5 by app" {
		t.Errorf("the texts are now %q and %q", text, one)
	}
}

// Of many names, and long ones, there is an answer, too.
func TestConfsOfManyNames(t *testing.T) {
	many := slices.Repeat([]string{"app", "sev"}, 500000)
	c, long := rightConf(many...), rightConf(strings.Repeat("a", 1000000))
	for range 1000 {
		if impl.ConfOk(c) || impl.ConfText(c) != "" || impl.ConfOk(long) || impl.ConfText(long) != "" {
			t.Fatal("it is right")
		}
	}
	other := keepConf(c)
	if !impl.SameConf(c, other) {
		t.Error("they are not the same")
	}
	if other.By[999999] = "zone"; impl.SameConf(c, other) {
		t.Error("they are the same")
	}
	checkFits(t, c, alarm(3, 8, "", "app", "x"))
	checkDue(t, c, impl.Group{Born: 3, Last: 4})
}
