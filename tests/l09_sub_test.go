package tests

import (
	"math"
	"slices"
	"testing"

	"loop.example/g00490/impl"
)

// subAsTold: SubOk in the words of the document.
func subAsTold(s impl.Sub) bool {
	for _, a := range s.Q {
		if s.Lag || !alarmAsTold(a) {
			return false
		}
	}
	return len(s.Q) < 4
}

func sameSubAsTold(a, b impl.Sub) bool {
	return a.Lag == b.Lag && sameAlarms(a.Q, b.Q)
}

func sameSubs(a, b []impl.Sub) bool {
	return slices.EqualFunc(a, b, sameSubAsTold)
}

// keepSub: a copy that shares nothing with who listens, to hold it against later.
func keepSub(s impl.Sub) impl.Sub {
	return impl.Sub{Q: keepAlarms(s.Q), Lag: s.Lag}
}

func keepSubs(l []impl.Sub) []impl.Sub {
	var kept []impl.Sub
	for _, s := range l {
		kept = append(kept, keepSub(s))
	}
	return kept
}

// tellAsTold: Tell in the words of the document.
func tellAsTold(s impl.Sub, a impl.Alarm) impl.Sub {
	s = keepSub(s)
	if s.Lag {
		return s
	}
	if len(s.Q) > 2 {
		return impl.Sub{Lag: true}
	}
	return impl.Sub{Q: append(s.Q, keepAlarm(a))}
}

// hearAsTold: Hear in the words of the document.
func hearAsTold(s impl.Sub) (impl.Sub, impl.Alarm, int) {
	s = keepSub(s)
	if s.Lag {
		return impl.Sub{}, impl.Alarm{}, 2
	}
	if len(s.Q) > 0 {
		return impl.Sub{Q: s.Q[1:]}, s.Q[0], 1
	}
	return s, impl.Alarm{}, 0
}

// heardAsTold: Heard in the words of the document.
func heardAsTold(l []impl.Alarm, s impl.Sub) []impl.Alarm {
	for _, a := range l {
		s = tellAsTold(s, a)
	}
	if s.Lag {
		return nil
	}
	return keepAlarms(s.Q)
}

// toldAlarms: right ones of the same labels and of others, and such that are not AlarmOk.
func toldAlarms() []impl.Alarm {
	return []impl.Alarm{
		alarm(3, 8, "one", "app", "x"),
		alarm(8, 99999, "two", "app", "x", "host", "1"),
		alarm(3, 9, "", "app", "x"),
		alarm(8, 3, "\"", "b", "", "a", ""),
		{},
	}
}

// rightAlarm: one that is told of which no two, of unlike n, are alike.
func rightAlarm(n int) impl.Alarm {
	return alarm(n, n+5, impl.NumText(n), "app", impl.NumText(n%3))
}

// numbered: so many of them, one behind the other.
func numbered(n int) []impl.Alarm {
	var l []impl.Alarm
	for i := range n {
		l = append(l, rightAlarm(i))
	}
	return l
}

// someSubs: with every short list of these alarms, more than MaxHear among them, and with long ones; each lagging, too.
func someSubs() []impl.Sub {
	var subs []impl.Sub
	for _, q := range append(allLists(toldAlarms(), 4), []impl.Alarm{}, numbered(5), numbered(40)) {
		subs = append(subs, impl.Sub{Q: q}, impl.Sub{Q: q, Lag: true})
	}
	return subs
}

// checkTell: that Tell answers as told, and leaves all as it was.
func checkTell(t *testing.T, s impl.Sub, a impl.Alarm) impl.Sub {
	t.Helper()
	was, wasA := keepSub(s), keepAlarm(a)
	got := impl.Tell(s, a)
	if want := tellAsTold(s, a); !sameSubAsTold(got, want) {
		t.Fatalf("Tell(%+v, %+v) = %+v, not %+v", s, a, got, want)
	}
	if !sameSubAsTold(s, was) || !sameAsTold(a, wasA) {
		t.Fatalf("%+v and %+v are now %+v and %+v", was, wasA, s, a)
	}
	return got
}

// checkHear: that Hear answers as told, and leaves who listens as it was.
func checkHear(t *testing.T, s impl.Sub) (impl.Sub, impl.Alarm, int) {
	t.Helper()
	was := keepSub(s)
	got, a, code := impl.Hear(s)
	if want, wantA, wantCode := hearAsTold(s); code != wantCode || !sameSubAsTold(got, want) || !sameAsTold(a, wantA) {
		t.Fatalf("Hear(%+v) = %+v, %+v, %d, not %+v, %+v, %d", s, got, a, code, want, wantA, wantCode)
	}
	if !sameSubAsTold(s, was) {
		t.Fatalf("%+v is now %+v", was, s)
	}
	return got, a, code
}

// checkTellAll: that TellAll answers as told, which is Tell of each, and leaves all as it was.
func checkTellAll(t *testing.T, l []impl.Sub, a impl.Alarm) []impl.Sub {
	t.Helper()
	was, wasA := keepSubs(l), keepAlarm(a)
	got := impl.TellAll(l, a)
	if len(got) != len(l) {
		t.Fatalf("TellAll(%+v, %+v) = %+v", l, a, got)
	}
	for i, s := range l {
		if !sameSubAsTold(got[i], tellAsTold(s, a)) || !sameSubAsTold(got[i], impl.Tell(s, a)) {
			t.Fatalf("TellAll(%+v, %+v) = %+v", l, a, got)
		}
	}
	if !sameSubs(l, was) || !sameAsTold(a, wasA) {
		t.Fatalf("%+v and %+v are now %+v and %+v", was, wasA, l, a)
	}
	return got
}

// checkHeard: that Heard answers as told, and leaves all as it was.
func checkHeard(t *testing.T, l []impl.Alarm, s impl.Sub) []impl.Alarm {
	t.Helper()
	wasL, was := keepAlarms(l), keepSub(s)
	got := impl.Heard(l, s)
	if want := heardAsTold(l, s); !sameAlarms(got, want) {
		t.Fatalf("Heard(%+v, %+v) = %+v, not %+v", l, s, got, want)
	}
	if !sameAlarms(l, wasL) || !sameSubAsTold(s, was) {
		t.Fatalf("%+v and %+v are now %+v and %+v", wasL, was, l, s)
	}
	return got
}

// toldOneByOne: who is told all of l, one behind the other.
func toldOneByOne(t *testing.T, s impl.Sub, l []impl.Alarm) impl.Sub {
	t.Helper()
	for _, a := range l {
		s = checkTell(t, s, a)
	}
	return s
}

// hearsJust: that just these are heard, in order, and nothing from then on; and who has heard all.
func hearsJust(t *testing.T, s impl.Sub, l []impl.Alarm) impl.Sub {
	t.Helper()
	for i, want := range l {
		next, a, code := checkHear(t, s)
		if code != impl.NxItem || !sameAsTold(a, want) || next.Lag || len(next.Q) != len(l)-i-1 {
			t.Fatalf("of %+v there is heard %+v, %d as number %d, not %+v", s, a, code, i, want)
		}
		s = next
	}
	for range 3 {
		next, a, code := checkHear(t, s)
		if code != impl.NxNone || !sameAsTold(a, impl.Alarm{}) || !sameSubAsTold(next, impl.Sub{}) {
			t.Fatalf("behind all there is heard %+v, %d, and then it is %+v", a, code, next)
		}
		s = next
	}
	return s
}

// hearsThatItLags: that just this is heard; and who has heard it.
func hearsThatItLags(t *testing.T, s impl.Sub) impl.Sub {
	t.Helper()
	next, a, code := checkHear(t, s)
	if code != impl.NxLag || !sameAsTold(a, impl.Alarm{}) || !sameSubAsTold(next, impl.Sub{}) {
		t.Fatalf("Hear(%+v) = %+v, %+v, %d", s, next, a, code)
	}
	return next
}

// Promise 9: who listens hears what is told, in order.
func TestPromise9WhoListensHearsWhatIsTold(t *testing.T) {
	met := map[int]int{}
	for _, l := range allLists(toldAlarms(), impl.MaxHear) {
		s := toldOneByOne(t, impl.Sub{}, l)
		if s.Lag || !sameAlarms(s.Q, l) || !sameAlarms(checkHeard(t, l, impl.Sub{}), l) {
			t.Fatalf("told %+v it is %+v", l, s)
		}
		if impl.SubOk(s) != subAsTold(s) || impl.SubOk(s) == slices.ContainsFunc(l, func(a impl.Alarm) bool { return !alarmAsTold(a) }) {
			t.Fatalf("SubOk(%+v) = %v", s, impl.SubOk(s))
		}
		met[len(l)]++
		again := hearsJust(t, s, l)
		// Having heard all, it is told and hears as one that is new.
		hearsJust(t, toldOneByOne(t, again, l), l)
	}
	if met[0] != 1 || met[1] != 5 || met[2] != 25 || met[3] != 125 {
		t.Errorf("lists of each length: %v", met)
	}
}

// Promise 9: or that it lags, once; nothing of what was told ahead of that, but again what is told behind it.
func TestPromise9OrThatItLags(t *testing.T) {
	behind := allLists(toldAlarms(), impl.MaxHear)
	for i, l := range allLists(toldAlarms(), impl.MaxHear+1) {
		if len(l) <= impl.MaxHear {
			continue
		}
		s := toldOneByOne(t, impl.Sub{}, l)
		if !sameSubAsTold(s, impl.Sub{Lag: true}) || !impl.SubOk(s) || len(checkHeard(t, l, impl.Sub{})) != 0 {
			t.Fatalf("told %+v it is %+v", l, s)
		}
		// What is told while it lags is not heard, either, however much it is.
		for more := range 6 {
			lags := toldOneByOne(t, s, numbered(more))
			if !impl.SameSub(lags, s) {
				t.Fatalf("told %d more it is %+v", more, lags)
			}
			hearsJust(t, hearsThatItLags(t, lags), nil)
		}
		next := behind[i%len(behind)]
		hearsJust(t, toldOneByOne(t, hearsThatItLags(t, s), next), next)
		// And that it lags again, where again too much comes.
		hearsJust(t, hearsThatItLags(t, toldOneByOne(t, hearsThatItLags(t, s), l)), nil)
	}
}

// Told and heard by turns, in every order of ten: each is heard once, in order, but what was told ahead of a lag that is heard.
func TestPromise9ByTurns(t *testing.T) {
	met := map[int]int{}
	for turns := range 1 << 10 {
		var s impl.Sub
		first, next := 0, 0
		for i := range 10 {
			if turns>>i&1 == 1 {
				s = checkTell(t, s, rightAlarm(next))
				next++
			} else {
				var a impl.Alarm
				var code int
				s, a, code = checkHear(t, s)
				want, wantA := impl.NxNone, impl.Alarm{}
				switch {
				case first < 0:
					want, first = impl.NxLag, next
				case first < next:
					want, wantA = impl.NxItem, rightAlarm(first)
					first++
				}
				if code != want || !sameAsTold(a, wantA) {
					t.Fatalf("turns %b, %d: %+v, %d, not %+v, %d", turns, i, a, code, wantA, want)
				}
				met[code]++
			}
			if next-first > impl.MaxHear {
				first = -1
			}
			if s.Lag != (first < 0) || !impl.SubOk(s) {
				t.Fatalf("turns %b, %d: %+v", turns, i, s)
			}
		}
	}
	if met[impl.NxNone] < 100 || met[impl.NxItem] < 100 || met[impl.NxLag] < 100 {
		t.Errorf("heard: %v", met)
	}
}

// Whoever is told all at once has not heard what it would hear of it, one by one.
func TestPromise9AtOnce(t *testing.T) {
	lists := append(allLists(toldAlarms(), 2), numbered(3), numbered(4), numbered(5))
	met := map[int]int{}
	for _, s := range someSubs() {
		for _, l := range lists {
			got := checkHeard(t, l, s)
			told := toldOneByOne(t, s, l)
			if told.Lag {
				hearsJust(t, hearsThatItLags(t, told), nil)
				told = impl.Sub{}
			}
			hearsJust(t, told, got)
			met[len(got)]++
		}
	}
	for n := range 6 {
		if met[n] == 0 {
			t.Errorf("never are %d heard: %v", n, met)
		}
	}
}

func TestHowMuchMayBeHeard(t *testing.T) {
	if impl.MaxHear != 3 || impl.NxNone != 0 || impl.NxItem != 1 || impl.NxLag != 2 {
		t.Errorf("%d, %d, %d, %d", impl.MaxHear, impl.NxNone, impl.NxItem, impl.NxLag)
	}
}

func TestSubOk(t *testing.T) {
	for name, x := range map[string]struct {
		s    impl.Sub
		want bool
	}{
		"zero":                   {impl.Sub{}, true},
		"empty":                  {impl.Sub{Q: []impl.Alarm{}}, true},
		"none, but room":         {impl.Sub{Q: make([]impl.Alarm, 2)[:0]}, true},
		"1":                      {impl.Sub{Q: numbered(1)}, true},
		"2":                      {impl.Sub{Q: numbered(2)}, true},
		"MaxHear":                {impl.Sub{Q: numbered(impl.MaxHear)}, true},
		"MaxHear of the same":    {impl.Sub{Q: slices.Repeat(numbered(1), impl.MaxHear)}, true},
		"MaxHear and 1":          {impl.Sub{Q: numbered(impl.MaxHear + 1)}, false},
		"many":                   {impl.Sub{Q: numbered(500)}, false},
		"lags":                   {impl.Sub{Lag: true}, true},
		"lags, empty":            {impl.Sub{Lag: true, Q: []impl.Alarm{}}, true},
		"lags, none, but room":   {impl.Sub{Lag: true, Q: numbered(2)[:0]}, true},
		"lags with 1":            {impl.Sub{Lag: true, Q: numbered(1)}, false},
		"lags with MaxHear":      {impl.Sub{Lag: true, Q: numbered(impl.MaxHear)}, false},
		"lags with 1 more":       {impl.Sub{Lag: true, Q: numbered(impl.MaxHear + 1)}, false},
		"lags with a wrong one":  {impl.Sub{Lag: true, Q: make([]impl.Alarm, 1)}, false},
		"zero alarm":             {impl.Sub{Q: make([]impl.Alarm, 1)}, false},
		"MaxHear zero alarms":    {impl.Sub{Q: make([]impl.Alarm, impl.MaxHear)}, false},
		"up to the last time":    {impl.Sub{Q: []impl.Alarm{alarm(0, 99999, "", "app", "")}}, true},
		"behind the last time":   {impl.Sub{Q: []impl.Alarm{alarm(0, 100000, "", "app", "")}}, false},
		"out of their own order": {impl.Sub{Q: []impl.Alarm{alarm(9, 9, "", "b", ""), alarm(1, 1, "", "a", "")}}, true},
	} {
		was := keepSub(x.s)
		if got := impl.SubOk(x.s); got != x.want || x.want != subAsTold(x.s) {
			t.Errorf("%s: %v", name, got)
		}
		if !sameSubAsTold(x.s, was) {
			t.Errorf("%s: %+v is now %+v", name, was, x.s)
		}
	}
}

// One alarm that is not AlarmOk is enough, at whichever place.
func TestSubOkWithOneThatIsNotRight(t *testing.T) {
	for name, change := range map[string]func(a *impl.Alarm){
		"no labels":      func(a *impl.Alarm) { a.L = nil },
		"too many":       func(a *impl.Alarm) { a.L = set("a", "", "b", "", "c", "", "d", "", "e", "") },
		"name":           func(a *impl.Alarm) { a.L[0].Name = "App" },
		"no name":        func(a *impl.Alarm) { a.L[0].Name = "" },
		"val":            func(a *impl.Alarm) { a.L[0].Val = "\\" },
		"order":          func(a *impl.Alarm) { a.L = set("b", "", "a", "") },
		"a name twice":   func(a *impl.Alarm) { a.L = set("a", "", "a", "") },
		"start below 0":  func(a *impl.Alarm) { a.Start = -1 },
		"start past end": func(a *impl.Alarm) { a.Start = a.End + 1 },
		"end":            func(a *impl.Alarm) { a.End = 100000 },
		"greatest end":   func(a *impl.Alarm) { a.End = math.MaxInt },
		"note":           func(a *impl.Alarm) { a.Note = "\"" },
		"long note":      func(a *impl.Alarm) { a.Note = "thirteenbytes" },
		"zero":           func(a *impl.Alarm) { *a = impl.Alarm{} },
	} {
		for n := 1; n <= impl.MaxHear; n++ {
			for i := range n {
				s := impl.Sub{Q: numbered(n)}
				change(&s.Q[i])
				if impl.SubOk(s) || subAsTold(s) {
					t.Errorf("%s at %d of %d: %+v is right", name, i, n, s)
				}
			}
		}
	}
}

func TestSubOkOfSomeSubs(t *testing.T) {
	met := map[bool]int{}
	for _, s := range someSubs() {
		got := impl.SubOk(s)
		if got != subAsTold(s) {
			t.Fatalf("SubOk(%+v) = %v", s, got)
		}
		met[got]++
	}
	if met[true] < 40 || met[false] < 1000 {
		t.Errorf("%d are right, %d are not", met[true], met[false])
	}
}

func TestSameSub(t *testing.T) {
	full := func() impl.Sub { return impl.Sub{Q: numbered(impl.MaxHear)} }
	if !impl.SameSub(full(), full()) || !impl.SameSub(impl.Sub{}, impl.Sub{}) || !impl.SameSub(impl.Sub{Lag: true}, impl.Sub{Lag: true}) {
		t.Error("who listens is not the same as itself")
	}
	for _, lag := range []bool{false, true} {
		none, empty := impl.Sub{Lag: lag}, impl.Sub{Lag: lag, Q: numbered(2)[:0]}
		if !impl.SameSub(none, empty) || !impl.SameSub(empty, none) || impl.SameSub(none, impl.Sub{Lag: !lag}) || impl.SameSub(empty, impl.Sub{Lag: !lag}) {
			t.Error("nil is an empty list")
		}
	}
	for name, change := range map[string]func(s *impl.Sub){
		"lag":                func(s *impl.Sub) { s.Lag = true },
		"lag alone":          func(s *impl.Sub) { *s = impl.Sub{Lag: true} },
		"name of the first":  func(s *impl.Sub) { s.Q[0].L[0].Name = "apps" },
		"val of the first":   func(s *impl.Sub) { s.Q[0].L[0].Val += " " },
		"start of the first": func(s *impl.Sub) { s.Q[0].Start++ },
		"end of the first":   func(s *impl.Sub) { s.Q[0].End++ },
		"note of the first":  func(s *impl.Sub) { s.Q[0].Note = "" },
		"labels first":       func(s *impl.Sub) { s.Q[0].L = append(s.Q[0].L, impl.Label{}) },
		"no labels first":    func(s *impl.Sub) { s.Q[0].L = nil },
		"name of the last":   func(s *impl.Sub) { s.Q[2].L[0].Name = "" },
		"val of the last":    func(s *impl.Sub) { s.Q[2].L[0].Val = "" },
		"start of the last":  func(s *impl.Sub) { s.Q[2].Start-- },
		"end of the last":    func(s *impl.Sub) { s.Q[2].End-- },
		"note of the last":   func(s *impl.Sub) { s.Q[2].Note += "\x00" },
		"labels last":        func(s *impl.Sub) { s.Q[2].L = append(s.Q[2].L, s.Q[2].L[0]) },
		"no labels last":     func(s *impl.Sub) { s.Q[2].L = nil },
		"middle":             func(s *impl.Sub) { s.Q[1].Note = "" },
		"order":              func(s *impl.Sub) { s.Q[1], s.Q[2] = s.Q[2], s.Q[1] },
		"turned round":       func(s *impl.Sub) { slices.Reverse(s.Q) },
		"without the first":  func(s *impl.Sub) { s.Q = s.Q[1:] },
		"without the last":   func(s *impl.Sub) { s.Q = s.Q[:2] },
		"last one twice":     func(s *impl.Sub) { s.Q = append(s.Q, s.Q[2]) },
		"zero one at end":    func(s *impl.Sub) { s.Q = append(s.Q, impl.Alarm{}) },
		"none":               func(s *impl.Sub) { s.Q = nil },
	} {
		s := full()
		change(&s)
		was := keepSub(s)
		if impl.SameSub(full(), s) || impl.SameSub(s, full()) {
			t.Errorf("%s: %+v is the same", name, s)
		}
		if !impl.SameSub(s, was) || !sameSubAsTold(s, was) {
			t.Errorf("%s: %+v is now %+v", name, was, s)
		}
	}
}

func TestSameSubOfSomeSubs(t *testing.T) {
	subs := someSubs()
	for i, a := range subs {
		for j, b := range subs {
			if (i+j)%3 == 0 && impl.SameSub(a, b) != sameSubAsTold(a, b) {
				t.Fatalf("SameSub(%+v, %+v) = %v", a, b, impl.SameSub(a, b))
			}
		}
		if !impl.SameSub(a, keepSub(a)) {
			t.Fatalf("%+v is not the same as itself", a)
		}
	}
}

func TestTell(t *testing.T) {
	for _, a := range append(toldAlarms(), rightAlarm(7)) {
		for n := range 7 {
			l := numbered(n)
			want := impl.Sub{Q: append(numbered(n), a)}
			if n >= impl.MaxHear {
				want = impl.Sub{Lag: true}
			}
			if got := checkTell(t, impl.Sub{Q: l}, a); !sameSubAsTold(got, want) {
				t.Errorf("of %d, told %+v: %+v", n, a, got)
			}
			// One that lags stays as it is, whatever it has.
			if got := checkTell(t, impl.Sub{Q: l, Lag: true}, a); !got.Lag || !sameAlarms(got.Q, numbered(n)) {
				t.Errorf("lagging with %d, told %+v: %+v", n, a, got)
			}
		}
	}
	// Also where what it is told stands there already.
	for n := 1; n < impl.MaxHear; n++ {
		s := impl.Sub{Q: slices.Repeat(numbered(1), n)}
		if got := checkTell(t, s, rightAlarm(0)); len(got.Q) != n+1 || got.Lag {
			t.Errorf("%+v, told the same again: %+v", s, got)
		}
	}
}

func TestTellOfSomeSubs(t *testing.T) {
	met := map[bool]int{}
	for _, s := range someSubs() {
		for _, a := range toldAlarms() {
			got := checkTell(t, s, a)
			if subAsTold(s) && alarmAsTold(a) && !impl.SubOk(got) {
				t.Fatalf("Tell(%+v, %+v) = %+v is not right", s, a, got)
			}
			met[got.Lag]++
		}
	}
	if met[false] < 100 || met[true] < 1000 {
		t.Errorf("%d lag then, %d do not", met[true], met[false])
	}
}

func TestHear(t *testing.T) {
	l := numbered(40)
	for _, x := range []struct {
		s    impl.Sub
		left []impl.Alarm
		want impl.Alarm
		code int
	}{
		{impl.Sub{}, nil, impl.Alarm{}, impl.NxNone},
		{impl.Sub{Q: []impl.Alarm{}}, nil, impl.Alarm{}, impl.NxNone},
		{impl.Sub{Q: l[:0]}, nil, impl.Alarm{}, impl.NxNone},
		{impl.Sub{Q: l[:1]}, nil, l[0], impl.NxItem},
		{impl.Sub{Q: l[4:6]}, l[5:6], l[4], impl.NxItem},
		{impl.Sub{Q: l[:3]}, l[1:3], l[0], impl.NxItem},
		{impl.Sub{Q: l[:4]}, l[1:4], l[0], impl.NxItem},
		{impl.Sub{Q: l}, l[1:], l[0], impl.NxItem},
		{impl.Sub{Q: slices.Repeat(l[8:9], 3)}, slices.Repeat(l[8:9], 2), l[8], impl.NxItem},
		// Alarms that are not AlarmOk are heard as any other, the zero one, too.
		{impl.Sub{Q: make([]impl.Alarm, 2)}, make([]impl.Alarm, 1), impl.Alarm{}, impl.NxItem},
		{impl.Sub{Q: []impl.Alarm{toldAlarms()[3], l[0]}}, l[:1], toldAlarms()[3], impl.NxItem},
		// One that lags hears just that, whatever it has.
		{impl.Sub{Lag: true}, nil, impl.Alarm{}, impl.NxLag},
		{impl.Sub{Lag: true, Q: l[:0]}, nil, impl.Alarm{}, impl.NxLag},
		{impl.Sub{Lag: true, Q: l[:1]}, nil, impl.Alarm{}, impl.NxLag},
		{impl.Sub{Lag: true, Q: l[:3]}, nil, impl.Alarm{}, impl.NxLag},
		{impl.Sub{Lag: true, Q: l}, nil, impl.Alarm{}, impl.NxLag},
		{impl.Sub{Lag: true, Q: make([]impl.Alarm, 1)}, nil, impl.Alarm{}, impl.NxLag},
	} {
		got, a, code := checkHear(t, x.s)
		if code != x.code || !sameAsTold(a, x.want) || !sameSubAsTold(got, impl.Sub{Q: x.left}) {
			t.Errorf("Hear(%+v) = %+v, %+v, %d", x.s, got, a, code)
		}
	}
	for _, s := range someSubs() {
		if got, _, _ := checkHear(t, s); subAsTold(s) && !impl.SubOk(got) {
			t.Fatalf("%+v, having heard, is %+v", s, got)
		}
	}
}

func TestTellAll(t *testing.T) {
	a := rightAlarm(7)
	for _, none := range [][]impl.Sub{nil, {}, someSubs()[:0]} {
		if got := checkTellAll(t, none, a); len(got) != 0 {
			t.Errorf("%+v, of none", got)
		}
	}
	some, full, lags, wrong := impl.Sub{Q: numbered(2)}, impl.Sub{Q: numbered(3)}, impl.Sub{Lag: true}, impl.Sub{Lag: true, Q: numbered(4)}
	told := impl.Sub{Q: append(numbered(2), a)}
	for _, x := range []struct{ l, want []impl.Sub }{
		{[]impl.Sub{{}}, []impl.Sub{{Q: []impl.Alarm{a}}}},
		{[]impl.Sub{some}, []impl.Sub{told}},
		{[]impl.Sub{full}, []impl.Sub{lags}},
		{[]impl.Sub{lags}, []impl.Sub{lags}},
		{[]impl.Sub{wrong}, []impl.Sub{wrong}},
		{[]impl.Sub{full, some}, []impl.Sub{lags, told}},
		{[]impl.Sub{some, full}, []impl.Sub{told, lags}},
		{[]impl.Sub{lags, some}, []impl.Sub{lags, told}},
		{[]impl.Sub{some, lags}, []impl.Sub{told, lags}},
		{[]impl.Sub{some, some, some}, []impl.Sub{told, told, told}},
		{[]impl.Sub{wrong, full, some, lags, {}, {Q: numbered(9)}, some}, []impl.Sub{wrong, lags, told, lags, {Q: []impl.Alarm{a}}, lags, told}},
	} {
		if got := checkTellAll(t, x.l, a); !sameSubs(got, x.want) {
			t.Errorf("TellAll(%+v, %+v) = %+v", x.l, a, got)
		}
	}
	few := []impl.Sub{{}, some, full, lags, wrong, {Q: make([]impl.Alarm, 2)}}
	for _, l := range allLists(few, 3) {
		for _, a := range toldAlarms() {
			checkTellAll(t, l, a)
		}
	}
	for _, a := range toldAlarms() {
		checkTellAll(t, someSubs(), a)
	}
}

func TestHeard(t *testing.T) {
	l := numbered(20)
	for has := range impl.MaxHear + 1 {
		// As many as there is room for are heard behind what it has, one more is too much.
		for n := range 7 {
			want := l[:has+n]
			if has+n > impl.MaxHear {
				want = nil
			}
			if got := checkHeard(t, l[has:has+n], impl.Sub{Q: l[:has]}); !sameAlarms(got, want) {
				t.Errorf("of %d, told %d: %+v", has, n, got)
			}
		}
	}
	for n := range 7 {
		// One that lags already has nothing to hear, whatever it has.
		for has := range 6 {
			if got := checkHeard(t, l[:n], impl.Sub{Q: l[:has], Lag: true}); len(got) != 0 {
				t.Errorf("lagging with %d, told %d: %+v", has, n, got)
			}
		}
		// More than MaxHear are heard, where nothing is told.
		for has := impl.MaxHear + 1; has < 9; has++ {
			got := checkHeard(t, l[:n], impl.Sub{Q: l[:has]})
			if n == 0 && !sameAlarms(got, l[:has]) || n > 0 && len(got) != 0 {
				t.Errorf("of %d, told %d: %+v", has, n, got)
			}
		}
	}
	for _, none := range [][]impl.Alarm{nil, {}, l[:0]} {
		if len(checkHeard(t, none, impl.Sub{})) != 0 || !sameAlarms(checkHeard(t, none, impl.Sub{Q: l[3:5]}), l[3:5]) {
			t.Error("told nothing")
		}
	}
	wrong := toldAlarms()
	if got := checkHeard(t, wrong[3:], impl.Sub{Q: wrong[4:]}); !sameAlarms(got, []impl.Alarm{{}, wrong[3], {}}) {
		t.Errorf("of alarms that are not AlarmOk: %+v", got)
	}
}

// Many alarms, and many who listen, are gone through in no more time than they need.
func TestSubsOfMany(t *testing.T) {
	l := numbered(30000)
	for _, s := range []impl.Sub{{}, {Q: l}, {Lag: true}, {Q: l, Lag: true}} {
		if got := impl.Heard(l, s); len(got) != 0 {
			t.Errorf("%d are heard", len(got))
		}
	}
	if got := impl.Heard(nil, impl.Sub{Q: l}); !sameAlarms(got, l) {
		t.Errorf("%d are heard", len(got))
	}
	if got := checkTell(t, impl.Sub{Q: l}, l[0]); !got.Lag || len(got.Q) != 0 {
		t.Errorf("told one more: %d", len(got.Q))
	}
	if got, a, code := checkHear(t, impl.Sub{Q: l}); len(got.Q) != 29999 || !sameAsTold(a, l[0]) || code != impl.NxItem {
		t.Errorf("%d are left, %+v, %d", len(got.Q), a, code)
	}
	if impl.SubOk(impl.Sub{Q: l}) || impl.SubOk(impl.Sub{Q: l, Lag: true}) || !impl.SameSub(impl.Sub{Q: l}, impl.Sub{Q: l}) {
		t.Error("many alarms")
	}
	subs := slices.Repeat([]impl.Sub{{}, {Q: l[:2]}, {Q: l[:3]}, {Lag: true}}, 10000)
	checkTellAll(t, subs, l[9])
}

// roomySubs: who listen, all cut out of a greater list, to lists that are cut out of one that they share (chapter 6).
// All alarms are given, too, and a function that tells whether anything of it, or behind it, was changed.
func roomySubs() ([]impl.Sub, []impl.Alarm, func(t *testing.T, what string)) {
	_, room, rooms := roomy()
	cut := func(room []impl.Alarm) []impl.Sub {
		return []impl.Sub{
			{Q: room[:2]},
			{Q: room[1:3]},
			{Q: room[:3]},
			{Q: room[:4]},
			{Q: room[2:2]},
			{Q: room[:0], Lag: true},
			{Q: room[:4], Lag: true},
			{Q: room[3:5]},
			{Q: room[1:2], Lag: true},
		}
	}
	subs := cut(room)
	return subs[:8], room, func(t *testing.T, what string) {
		t.Helper()
		_, want, _ := roomy()
		checkRoom(t, what, room, rooms)
		if !sameSubs(subs, cut(want)) {
			t.Errorf("%s: who listens is now %+v", what, subs)
		}
	}
}

// markSubs: as markAll, but of who listen, and their lists.
func markSubs(l []impl.Sub) bool {
	var lists [][]impl.Alarm
	for _, s := range l {
		lists = append(lists, s.Q)
	}
	l = l[:cap(l)]
	for i := range l {
		l[i] = impl.Sub{Lag: i%2 == 0}
	}
	if !markAll(lists...) {
		return false
	}
	for i, s := range l {
		if s.Q != nil || s.Lag != (i%2 == 0) {
			return false
		}
	}
	return true
}

// roomyAlarms: those of a room, and others whose labels are cut out of a greater list, which is given, too.
func roomyAlarms(room []impl.Alarm) ([]impl.Alarm, []impl.Label) {
	own := append(slices.Clone(setsByFinger()[20][0]), impl.Label{Name: "behind"})
	return append(slices.Clone(room), impl.Alarm{L: own[:1], Start: 2, End: 4}, impl.Alarm{L: own[:0]}), own
}

// What Tell, Hear and TellAll answer shares no memory with an argument, nor one of its lists with another, also where one stays as it is.
func TestTellAndHearMakeNewMemory(t *testing.T) {
	subs, room, check := roomySubs()
	alarms, own := roomyAlarms(room)
	kept := slices.Clone(own)
	for _, a := range alarms {
		for _, s := range subs {
			if got := checkTell(t, s, a); !markAll(got.Q) {
				t.Errorf("Tell(%+v, %+v): lists of the answer share memory", s, a)
			}
			check(t, "told and marked")
		}
		for from := range len(subs) {
			for to := from; to <= len(subs); to++ {
				if got := checkTellAll(t, subs[from:to], a); !markSubs(got) {
					t.Errorf("TellAll(%+v, %+v): lists of the answer share memory", subs[from:to], a)
				}
				check(t, "all told and marked")
			}
		}
		if got := checkTellAll(t, slices.Repeat(subs[:1], 5), a); !markSubs(got) {
			t.Errorf("TellAll(%+v, five times, %+v): lists of the answer share memory", subs[0], a)
		}
		check(t, "one told five times and marked")
		if !slices.Equal(own, kept) {
			t.Errorf("the alarm's labels are now %q", own)
		}
	}
	for _, s := range subs {
		got, a, _ := checkHear(t, s)
		if !markAll(got.Q, []impl.Alarm{a}) {
			t.Errorf("Hear(%+v): lists of the answer share memory", s)
		}
		check(t, "heard and marked")
	}
}

// Nor does what Heard answers.
func TestHeardMakesNewMemory(t *testing.T) {
	subs, room, check := roomySubs()
	alarms, own := roomyAlarms(room)
	kept, met := slices.Clone(own), map[int]int{}
	for from := range alarms {
		for to := from; to <= len(alarms); to++ {
			for _, s := range subs {
				got := checkHeard(t, alarms[from:to], s)
				met[len(got)]++
				if !markAll(got) {
					t.Errorf("Heard(%+v, %+v): labels share memory", alarms[from:to], s)
				}
				check(t, "heard and marked")
				if !slices.Equal(own, kept) {
					t.Errorf("the labels are now %q", own)
				}
			}
		}
	}
	if met[0] < 10 || met[2] < 3 || met[3] < 3 || met[4] < 3 {
		t.Errorf("so many are heard: %v", met)
	}
	// One alarm that is told, and stands there, several times.
	one := room[0]
	if got := checkHeard(t, []impl.Alarm{one, one}, impl.Sub{Q: room[:1]}); len(got) != 3 || !markAll(got) {
		t.Errorf("%+v, told twice: labels share memory", one)
	}
	check(t, "one heard and marked")
}

// Where too much came, nothing of what was there is handed out, not even behind the list's length.
func TestNothingIsLeftBehindALag(t *testing.T) {
	for _, n := range []int{3, 4, 40} {
		for _, got := range []impl.Sub{
			impl.Tell(impl.Sub{Q: numbered(n)}, rightAlarm(n)),
			impl.TellAll([]impl.Sub{{Q: numbered(n)}}, rightAlarm(n))[0],
			{Q: impl.Heard(numbered(1), impl.Sub{Q: numbered(n)}), Lag: true},
			{Q: impl.Heard(numbered(n+1), impl.Sub{}), Lag: true},
		} {
			for _, a := range got.Q[:cap(got.Q)] {
				if !got.Lag || !sameAsTold(a, impl.Alarm{}) {
					t.Errorf("of %d there lies %+v behind %+v", n, a, got)
				}
			}
		}
	}
}

// What lies behind the lists is not read, either.
func TestSubsAreReadToTheirLengthAlone(t *testing.T) {
	whole := append(numbered(3), impl.Alarm{}, impl.Alarm{})
	s, other := impl.Sub{Q: whole[:2]}, impl.Sub{Q: numbered(2)}
	if !impl.SubOk(impl.Sub{Q: whole[:3]}) || !impl.SubOk(s) || !impl.SubOk(impl.Sub{Q: whole[:0], Lag: true}) {
		t.Errorf("%+v is not right", s)
	}
	if !impl.SameSub(s, other) || !impl.SameSub(other, s) {
		t.Error("what lies behind is held against each other")
	}
	if _, _, code := checkHear(t, impl.Sub{Q: whole[:0]}); code != impl.NxNone {
		t.Error("what lies behind is heard")
	}
	if got := checkTell(t, s, rightAlarm(9)); !sameAlarms(got.Q, append(numbered(2), rightAlarm(9))) {
		t.Errorf("%+v, told one more: %+v", s, got)
	}
	if got := checkHeard(t, whole[2:3], s); !sameAlarms(got, numbered(3)) {
		t.Errorf("%+v, told one more: %+v", s, got)
	}
	if got := checkTellAll(t, []impl.Sub{s, {Q: whole[:3]}}[:1], whole[2]); len(got) != 1 || len(got[0].Q) != 3 {
		t.Errorf("%+v", got)
	}
	if !sameAlarms(whole, append(numbered(3), impl.Alarm{}, impl.Alarm{})) {
		t.Errorf("the list is now %+v", whole)
	}
}
