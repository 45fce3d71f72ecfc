package tests

import (
	"math"
	"slices"
	"testing"

	"loop.example/g00490/impl"
)

// beforeAsTold: Before in the words of the document.
func beforeAsTold(a, b impl.Timer) bool {
	return a.At < b.At || a.At == b.At && a.N < b.N
}

// heapAsTold: whether these are a heap, in the words of the document.
func heapAsTold(l []impl.Timer) bool {
	for i, t := range l {
		if beforeAsTold(t, l[(i-1)/2]) {
			return false
		}
	}
	return true
}

// heapOkAsTold: HeapOk in the words of the document.
func heapOkAsTold(l []impl.Timer) bool {
	for _, t := range l {
		if t.At < 0 || t.N < 0 {
			return false
		}
	}
	return len(l) <= 16 && heapAsTold(l)
}

// heapPutAsTold: HeapPut in the words of the document.
func heapPutAsTold(l []impl.Timer, t impl.Timer) []impl.Timer {
	l = append(slices.Clone(l), t)
	for i := len(l) - 1; beforeAsTold(l[i], l[(i-1)/2]); i = (i - 1) / 2 {
		l[i], l[(i-1)/2] = l[(i-1)/2], l[i]
	}
	return l
}

// heapTakeAsTold: HeapTake in the words of the document.
func heapTakeAsTold(l []impl.Timer) ([]impl.Timer, impl.Timer, bool) {
	if len(l) == 0 {
		return nil, impl.Timer{}, false
	}
	first, last := l[0], l[len(l)-1]
	l = slices.Clone(l[:len(l)-1])
	for i, down := 0, len(l) > 0; down; {
		l[i], down = last, false
		j := 2*i + 1
		if j+1 < len(l) && beforeAsTold(l[j+1], l[j]) {
			j++
		}
		if j < len(l) && beforeAsTold(l[j], last) {
			l[i], i, down = l[j], j, true
		}
	}
	return l, first, true
}

// heapDropAsTold: HeapDrop in the words of the document.
func heapDropAsTold(l []impl.Timer, n int) []impl.Timer {
	var left []impl.Timer
	for _, t := range l {
		if t.N != n {
			left = heapPutAsTold(left, t)
		}
	}
	return left
}

// heapSortedAsTold: Sorted in the words of the document.
func heapSortedAsTold(l []impl.Timer) []impl.Timer {
	var all []impl.Timer
	for {
		left, first, there := heapTakeAsTold(l)
		if !there {
			return all
		}
		l, all = left, append(all, first)
	}
}

// at: a Timer that is due then; ats: such ones, all of the N 0.
func at(due, n int) impl.Timer {
	return impl.Timer{At: due, N: n}
}

func ats(times ...int) []impl.Timer {
	var l []impl.Timer
	for _, due := range times {
		l = append(l, at(due, 0))
	}
	return l
}

// dueOnce: so many Timers, no two alike, in no order, some of which are due at the same time.
func dueOnce(n int) []impl.Timer {
	var l []impl.Timer
	for i := range n {
		l = append(l, at(i*7919%101, n-i))
	}
	return l
}

// mixedLists: short lists, in every order, of such Timers as are alike in At, in N, in both or in neither, right ones and wrong ones;
// and longer ones of few, of which many are alike.
func mixedLists() [][]impl.Timer {
	lists := allLists([]impl.Timer{at(0, 3), at(1, 0), at(1, 2), at(2, 1), at(-1, 2)}, 5)
	lists = append(lists, allLists([]impl.Timer{at(4, 1), at(4, -1), at(math.MaxInt, math.MinInt)}, 7)...)
	return append(lists, allLists([]impl.Timer{at(1, 1), at(2, 1)}, 10)...)
}

// heapsAndOthers: the mixed ones, and long ones, heaps and others.
func heapsAndOthers() [][]impl.Timer {
	lists := mixedLists()
	for _, n := range []int{11, 15, 16, 17, 18, 31, 32, 33, 100} {
		others := dueOnce(n)
		lists = append(lists, others, heaped(others), heapSortedAsTold(heaped(others)))
	}
	return lists
}

// heaped: these, put in a heap as told.
func heaped(l []impl.Timer) []impl.Timer {
	var h []impl.Timer
	for _, t := range l {
		h = heapPutAsTold(h, t)
	}
	return h
}

// checkTimers: that the answer is as told, place by place, and the list as it was.
func checkTimers(t *testing.T, what string, got, want, l, was []impl.Timer) {
	t.Helper()
	if !slices.Equal(got, want) {
		t.Fatalf("%s of %v: %v, not %v", what, was, got, want)
	}
	if !slices.Equal(l, was) {
		t.Fatalf("%s: %v is now %v", what, was, l)
	}
}

func checkHeapPut(t *testing.T, l []impl.Timer, x impl.Timer) []impl.Timer {
	t.Helper()
	was := slices.Clone(l)
	got := impl.HeapPut(l, x)
	checkTimers(t, "HeapPut", got, heapPutAsTold(was, x), l, was)
	return got
}

func checkHeapTake(t *testing.T, l []impl.Timer) ([]impl.Timer, impl.Timer, bool) {
	t.Helper()
	was := slices.Clone(l)
	got, first, there := impl.HeapTake(l)
	want, wantFirst, wantThere := heapTakeAsTold(was)
	checkTimers(t, "HeapTake", got, want, l, was)
	if first != wantFirst || there != wantThere {
		t.Fatalf("of %v there comes %v, %v, not %v, %v", was, first, there, wantFirst, wantThere)
	}
	return got, first, there
}

func checkHeapDrop(t *testing.T, l []impl.Timer, n int) []impl.Timer {
	t.Helper()
	was := slices.Clone(l)
	got := impl.HeapDrop(l, n)
	checkTimers(t, "HeapDrop", got, heapDropAsTold(was, n), l, was)
	return got
}

func checkHeapSorted(t *testing.T, l []impl.Timer) []impl.Timer {
	t.Helper()
	was := slices.Clone(l)
	got := impl.Sorted(l)
	checkTimers(t, "Sorted", got, heapSortedAsTold(was), l, was)
	return got
}

// putOneByOne: all of l, put in an empty heap, which is one all the way.
func putOneByOne(t *testing.T, l []impl.Timer) []impl.Timer {
	t.Helper()
	var h []impl.Timer
	for _, x := range l {
		if h = checkHeapPut(t, h, x); !heapAsTold(h) {
			t.Fatalf("of %v, put one by one, there is no heap: %v", l, h)
		}
	}
	return h
}

// comesOut: that just these come out of a heap, each once, none Before the one ahead of it, and none from then on; and all at once by Sorted.
func comesOut(t *testing.T, h, want []impl.Timer) {
	t.Helper()
	var all []impl.Timer
	l := h
	for range want {
		left, first, there := checkHeapTake(t, l)
		if !there || !heapAsTold(left) || len(all) > 0 && impl.Before(first, all[len(all)-1]) {
			t.Fatalf("of %v there comes %v, %v behind %v, and %v is left", l, first, there, all, left)
		}
		l, all = left, append(all, first)
	}
	for range 3 {
		left, first, there := checkHeapTake(t, l)
		if there || first != (impl.Timer{}) || len(left) != 0 {
			t.Fatalf("of %v there comes %v, %v behind all, and %v is left", h, first, there, left)
		}
		l = left
	}
	if !slices.Equal(checkHeapSorted(t, h), all) {
		t.Fatalf("Sorted(%v) = %v, but one by one there come %v", h, impl.Sorted(h), all)
	}
	// Alike in both means alike, so there is but one order in which they can come.
	want = slices.Clone(want)
	slices.SortFunc(want, func(a, b impl.Timer) int {
		if a.At == b.At && a.N < b.N || a.At < b.At {
			return -1
		}
		if a == b {
			return 0
		}
		return 1
	})
	if !slices.Equal(all, want) {
		t.Fatalf("of %v there come %v, not %v", h, all, want)
	}
}

// Promise 10: what is put in a heap comes out in order, whatever the order in which it was put.
func TestPromise10WhatIsPutComesOutInOrder(t *testing.T) {
	for _, l := range mixedLists() {
		comesOut(t, putOneByOne(t, l), l)
	}
	for _, n := range []int{11, impl.MaxHeap - 1, impl.MaxHeap, impl.MaxHeap + 1, 31, 32, 33, 100} {
		l := dueOnce(n)
		comesOut(t, putOneByOne(t, l), l)
		ascending := heapSortedAsTold(heaped(l))
		comesOut(t, putOneByOne(t, ascending), l)
		slices.Reverse(ascending)
		comesOut(t, putOneByOne(t, ascending), l)
	}
}

// In every order of seven that are due at three times.
func TestPromise10InEveryOrder(t *testing.T) {
	l, met := []impl.Timer{at(3, 0), at(3, 1), at(3, 2), at(5, 0), at(5, 7), at(9, 1), at(9, 3)}, 0
	var each func(n int)
	each = func(n int) {
		if n == len(l) {
			comesOut(t, putOneByOne(t, l), l)
			met++
			return
		}
		for i := n; i < len(l); i++ {
			l[n], l[i] = l[i], l[n]
			each(n + 1)
			l[n], l[i] = l[i], l[n]
		}
	}
	each(0)
	if met != 5040 {
		t.Errorf("%d orders", met)
	}
}

// Promise 10: what is dropped never comes out, and all else does.
func TestPromise10WhatIsDroppedNeverComesOut(t *testing.T) {
	lists := append(mixedLists(), dueOnce(impl.MaxHeap), dueOnce(40), slices.Concat(dueOnce(9), dueOnce(9)))
	for _, l := range lists {
		h := putOneByOne(t, l)
		for _, n := range []int{-1, 0, 1, 2, 3, 9, 16, math.MinInt} {
			var left []impl.Timer
			for _, x := range l {
				if x.N != n {
					left = append(left, x)
				}
			}
			d := checkHeapDrop(t, h, n)
			if !heapAsTold(d) {
				t.Fatalf("%v is no heap", d)
			}
			comesOut(t, d, left)
		}
	}
}

// Put and taken by turns, in every order of ten: there always comes the least of those that are there.
func TestPromise10ByTurns(t *testing.T) {
	met := map[bool]int{}
	for turns := range 1 << 10 {
		var h, stand []impl.Timer
		for i := range 10 {
			if turns>>i&1 == 1 {
				x := at(i*3%4, i*7%10)
				h, stand = checkHeapPut(t, h, x), append(stand, x)
				continue
			}
			left, first, there := checkHeapTake(t, h)
			for _, x := range stand {
				if impl.Before(x, first) {
					t.Fatalf("turns %b, %d: of %v there comes %v", turns, i, h, first)
				}
			}
			if place := slices.Index(stand, first); there != (len(stand) > 0) || there != (place >= 0) {
				t.Fatalf("turns %b, %d: of %v there comes %v, %v", turns, i, h, first, there)
			} else if there {
				stand = slices.Delete(stand, place, place+1)
			}
			met[there]++
			h = left
		}
		if len(h) != len(stand) || !impl.HeapOk(h) {
			t.Fatalf("turns %b: %v is left, not %v", turns, h, stand)
		}
		comesOut(t, h, stand)
	}
	if met[true] < 1000 || met[false] < 1000 {
		t.Errorf("taken: %v", met)
	}
}

func TestBefore(t *testing.T) {
	least, most := math.MinInt, math.MaxInt
	for _, x := range []struct {
		a, b impl.Timer
		want bool
	}{
		{at(1, 5), at(2, 5), true},
		{at(1, 5), at(2, 4), true},
		{at(1, 5), at(2, 6), true},
		{at(2, 5), at(1, 5), false},
		{at(2, 4), at(1, 5), false},
		{at(2, 6), at(1, 5), false},
		{at(2, 4), at(2, 5), true},
		{at(2, 5), at(2, 4), false},
		{at(2, 5), at(2, 5), false},
		{at(0, 0), at(0, 0), false},
		{at(0, 1), at(1, 0), true},
		{at(1, 0), at(0, 1), false},
		{at(-2, 0), at(-1, 0), true},
		{at(-1, 0), at(-2, 0), false},
		{at(-1, 3), at(0, 3), true},
		{at(3, -2), at(3, -1), true},
		{at(3, -1), at(3, -2), false},
		{at(3, -1), at(3, 0), true},
		{at(3, -1), at(3, -1), false},
		// Their difference is no int.
		{at(least, 0), at(most, 0), true},
		{at(most, 0), at(least, 0), false},
		{at(least, 0), at(1, 0), true},
		{at(1, 0), at(least, 0), false},
		{at(-2, 0), at(most, 0), true},
		{at(0, least), at(0, most), true},
		{at(0, most), at(0, least), false},
		{at(0, -2), at(0, most), true},
		{at(0, most), at(0, -2), false},
		{at(least, least), at(least, least), false},
		{at(most, most), at(most, most), false},
		{at(most, least), at(most, most), true},
		{at(least, most), at(most, least), true},
		// Numbers that are too great for 32 bits, or for a float.
		{at(1<<32, 0), at(1, 0), false},
		{at(1, 1<<32), at(1, 1), false},
		{at(most-1, 0), at(most, 0), true},
		{at(0, most), at(0, most-1), false},
	} {
		if got := impl.Before(x.a, x.b); got != x.want || x.want != beforeAsTold(x.a, x.b) {
			t.Errorf("Before(%v, %v) = %v", x.a, x.b, got)
		}
	}
}

// Of any two that are unlike one is Before the other, and that goes on from one to the next.
func TestBeforeOfAny(t *testing.T) {
	numbers := []int{math.MinInt, -2, -1, 0, 1, 2, math.MaxInt}
	var l []impl.Timer
	for _, a := range numbers {
		for _, n := range numbers {
			l = append(l, at(a, n))
		}
	}
	for i, a := range l {
		for j, b := range l {
			if impl.Before(a, b) != (i < j) {
				t.Errorf("Before(%v, %v) = %v", a, b, i >= j)
			}
		}
	}
}

func TestHeapOk(t *testing.T) {
	for name, x := range map[string]struct {
		l    []impl.Timer
		want bool
	}{
		"nil":                    {nil, true},
		"empty":                  {[]impl.Timer{}, true},
		"none, but room":         {ats(2, 1)[:0], true},
		"zero":                   {ats(0), true},
		"1":                      {[]impl.Timer{at(3, 4)}, true},
		"1 at the greatest":      {[]impl.Timer{at(math.MaxInt, math.MaxInt)}, true},
		"1 At below 0":           {[]impl.Timer{at(-1, 4)}, false},
		"1 N below 0":            {[]impl.Timer{at(3, -1)}, false},
		"1 At at the least":      {[]impl.Timer{at(math.MinInt, 0)}, false},
		"1 N at the least":       {[]impl.Timer{at(0, math.MinInt)}, false},
		"1 at the least":         {[]impl.Timer{at(math.MinInt, math.MinInt)}, false},
		"MaxHeap alike":          {slices.Repeat(ats(7), impl.MaxHeap), true},
		"MaxHeap and 1 alike":    {slices.Repeat(ats(7), impl.MaxHeap+1), false},
		"MaxHeap":                {heaped(dueOnce(impl.MaxHeap)), true},
		"MaxHeap and 1":          {heaped(dueOnce(impl.MaxHeap + 1)), false},
		"many":                   {heaped(dueOnce(1000)), false},
		"MaxHeap in order":       {heapSortedAsTold(heaped(dueOnce(impl.MaxHeap))), true},
		"the second is lesser":   {ats(2, 1), false},
		"the third is lesser":    {ats(2, 3, 1), false},
		"both are greater":       {ats(2, 4, 3), true},
		"the N of the second":    {[]impl.Timer{at(2, 3), at(2, 2)}, false},
		"the N of the third":     {[]impl.Timer{at(2, 3), at(2, 3), at(2, 2)}, false},
		"an N that is lesser":    {[]impl.Timer{at(2, 3), at(3, 0), at(3, 1)}, true},
		"alike":                  {ats(2, 2, 2), true},
		"in no order":            {ats(1, 9, 2, 10, 11, 3), true},
		"not to the one ahead":   {ats(1, 9, 2, 3), false},
		"the fourth to the last": {ats(1, 4, 2, 4, 4), true},
		"the fifth":              {ats(1, 4, 2, 4, 3), false},
		"the sixth":              {ats(1, 4, 2, 4, 4, 1), false},
		"the sixth to another":   {ats(1, 4, 2, 4, 4, 3), true},
		"the seventh":            {ats(1, 1, 2, 1, 1, 2, 1), false},
	} {
		was := slices.Clone(x.l)
		if got := impl.HeapOk(x.l); got != x.want || x.want != heapOkAsTold(x.l) {
			t.Errorf("%s: %v", name, got)
		}
		if !slices.Equal(x.l, was) {
			t.Errorf("%s: %v is now %v", name, was, x.l)
		}
	}
}

// One place at which it is no heap, or below 0, is enough, whichever it is.
func TestHeapOkWithOneThatIsNotRight(t *testing.T) {
	for n := 1; n <= impl.MaxHeap; n++ {
		for i := range n {
			alike := slices.Repeat([]impl.Timer{at(5, 5)}, n)
			for name, x := range map[string]struct {
				t    impl.Timer
				want bool
			}{
				"as all":        {at(5, 5), true},
				"At below 0":    {at(-1, 5), false},
				"least At":      {at(math.MinInt, 5), false},
				"N below 0":     {at(5, -1), false},
				"least N":       {at(5, math.MinInt), false},
				"At and N":      {at(-1, -1), false},
				"a lesser At":   {at(4, 5), i == 0},
				"a lesser N":    {at(5, 4), i == 0},
				"a greater At":  {at(6, 5), 2*i+1 >= n},
				"a greater N":   {at(5, 6), 2*i+1 >= n},
				"later, N of 0": {at(6, 0), 2*i+1 >= n},
				// No heap is asked for there, but 0 or more is.
				"later, N below 0": {at(6, -1), false},
			} {
				l := slices.Clone(alike)
				l[i] = x.t
				if got := impl.HeapOk(l); got != x.want || x.want != heapOkAsTold(l) {
					t.Errorf("%s at %d of %d: %v", name, i, n, got)
				}
			}
		}
	}
	// All ahead of it are below 0, too, where an At is: such a list is a heap.
	for n := range impl.MaxHeap + 1 {
		if l := slices.Repeat(ats(-1), n); impl.HeapOk(l) != (n == 0) || !heapAsTold(l) {
			t.Errorf("HeapOk(%v) = %v", l, impl.HeapOk(l))
		}
	}
}

func TestHeapOkOfMany(t *testing.T) {
	met := map[bool]int{}
	for _, l := range heapsAndOthers() {
		got := impl.HeapOk(l)
		if got != heapOkAsTold(l) {
			t.Fatalf("HeapOk(%v) = %v", l, got)
		}
		met[got]++
	}
	if met[true] < 100 || met[false] < 5000 {
		t.Errorf("%d are right, %d are not", met[true], met[false])
	}
}

func TestHeapPut(t *testing.T) {
	if impl.MaxHeap != 16 {
		t.Errorf("MaxHeap is %d", impl.MaxHeap)
	}
	for _, x := range []struct {
		l    []impl.Timer
		t    impl.Timer
		want []impl.Timer
	}{
		{nil, at(3, 1), []impl.Timer{at(3, 1)}},
		{[]impl.Timer{}, at(0, 0), ats(0)},
		{nil, at(-1, -2), []impl.Timer{at(-1, -2)}},
		// Up to the place 0, half the way and not at all.
		{ats(4), at(3, 0), ats(3, 4)},
		{ats(4), at(5, 0), ats(4, 5)},
		{ats(2, 4, 6, 8, 10, 12, 14), at(1, 0), ats(1, 2, 6, 4, 10, 12, 14, 8)},
		{ats(2, 4, 6, 8, 10, 12, 14), at(3, 0), ats(2, 3, 6, 4, 10, 12, 14, 8)},
		{ats(2, 4, 6, 8, 10, 12, 14), at(7, 0), ats(2, 4, 6, 7, 10, 12, 14, 8)},
		{ats(2, 4, 6, 8, 10, 12, 14), at(9, 0), ats(2, 4, 6, 8, 10, 12, 14, 9)},
		{ats(2, 4, 6, 8, 10), at(5, 0), ats(2, 4, 5, 8, 10, 6)},
		{ats(2, 4, 6, 8, 10, 12), at(1, 0), ats(1, 4, 2, 8, 10, 12, 6)},
		{ats(2, 4, 6, 8), at(3, 0), ats(2, 3, 6, 8, 4)},
		// Times that are alike: the lesser N goes up, the greater and the same do not.
		{[]impl.Timer{at(4, 5)}, at(4, 4), []impl.Timer{at(4, 4), at(4, 5)}},
		{[]impl.Timer{at(4, 5)}, at(4, 5), []impl.Timer{at(4, 5), at(4, 5)}},
		{[]impl.Timer{at(4, 5)}, at(4, 6), []impl.Timer{at(4, 5), at(4, 6)}},
		// A list that is no heap: up as long as it is Before the next one on its way alone.
		{ats(9, 4, 6), at(5, 0), ats(9, 4, 6, 5)},
		{ats(9, 5, 6), at(5, 0), ats(9, 5, 6, 5)},
		{ats(9, 6, 6), at(5, 0), ats(5, 9, 6, 6)},
		{ats(9, 4, 1), at(2, 0), ats(2, 9, 1, 4)},
		{ats(-1, 4, -7), at(-2, 0), ats(-2, -1, -7, 4)},
	} {
		if got := checkHeapPut(t, x.l, x.t); !slices.Equal(got, x.want) {
			t.Errorf("HeapPut(%v, %v) = %v, not %v", x.l, x.t, got, x.want)
		}
	}
}

// Into whatever list, also one of MaxHeap and more, which the document does not refuse.
func TestHeapPutOfMany(t *testing.T) {
	for _, l := range heapsAndOthers() {
		for _, x := range []impl.Timer{at(1, 2), at(1, 1), at(0, 0), at(50, 3), at(math.MinInt, 0), at(math.MaxInt, math.MaxInt), at(4, 1)} {
			got := checkHeapPut(t, l, x)
			if heapAsTold(l) && !heapAsTold(got) {
				t.Fatalf("HeapPut(%v, %v) = %v is no heap", l, x, got)
			}
		}
	}
	h := heaped(dueOnce(impl.MaxHeap))
	if got := checkHeapPut(t, h, at(7, 7)); len(got) != impl.MaxHeap+1 || impl.HeapOk(got) {
		t.Errorf("into MaxHeap: %v", got)
	}
}

func TestHeapTake(t *testing.T) {
	for _, x := range []struct{ l, want []impl.Timer }{
		{ats(3), nil},
		{ats(3, 4), ats(4)},
		{ats(3, 4, 5), ats(4, 5)},
		{ats(3, 5, 4), ats(4, 5)},
		// Down on the left, on the right, half the way and not at all.
		{ats(1, 2, 3, 9), ats(2, 9, 3)},
		{ats(1, 3, 2, 9), ats(2, 3, 9)},
		{ats(1, 2, 10, 3, 8, 11, 12, 4, 5, 9), ats(2, 3, 10, 4, 8, 11, 12, 9, 5)},
		{ats(1, 2, 10, 8, 3, 11, 12, 9, 9, 4, 5), ats(2, 3, 10, 8, 4, 11, 12, 9, 9, 5)},
		{ats(1, 10, 2, 11, 12, 3, 4, 13, 14, 15, 16, 7), ats(2, 10, 3, 11, 12, 7, 4, 13, 14, 15, 16)},
		{ats(1, 10, 2, 11, 12, 4, 3, 13, 14, 15, 16, 5), ats(2, 10, 3, 11, 12, 4, 5, 13, 14, 15, 16)},
		{ats(1, 2, 10, 5, 6, 11, 4), ats(2, 4, 10, 5, 6, 11)},
		{ats(1, 4, 4, 5, 4), ats(4, 4, 4, 5)},
		// No 2i + 2 is there, and the one at 2i + 1 goes up, or does not.
		{ats(1, 2, 2, 3), ats(2, 3, 2)},
		{ats(1, 2, 9, 3, 4), ats(2, 3, 9, 4)},
		{ats(1, 5, 4), ats(4, 5)},
		{ats(1, 2, 9, 3, 4, 9, 4), ats(2, 3, 9, 4, 4, 9)},
		{ats(1, 2, 9, 4, 5, 9, 3), ats(2, 3, 9, 4, 5, 9)},
		// The last one at 2i + 2 is the one that stands in the first one's place, so it is no longer there.
		{ats(1, 3, 2), ats(2, 3)},
		// Neither is Before the other: the first one goes up, all the way.
		{ats(1, 2, 2, 9), ats(2, 9, 2)},
		{ats(1, 2, 2, 3, 3, 3, 3, 9), ats(2, 3, 2, 9, 3, 3, 3)},
		{ats(1, 2, 2, 3, 3, 4, 4, 5, 5, 5, 5, 6, 6, 6, 6, 8), ats(2, 3, 2, 5, 3, 4, 4, 8, 5, 5, 5, 6, 6, 6, 6)},
		{ats(1, 2, 2, 2), ats(2, 2, 2)},
		{ats(1, 1, 1, 1, 1), ats(1, 1, 1, 1)},
		// Times that are alike: the one of the lesser N goes up.
		{[]impl.Timer{at(1, 0), at(2, 3), at(2, 2), at(9, 0)}, []impl.Timer{at(2, 2), at(2, 3), at(9, 0)}},
		{[]impl.Timer{at(1, 0), at(2, 2), at(2, 3), at(9, 0)}, []impl.Timer{at(2, 2), at(9, 0), at(2, 3)}},
		{[]impl.Timer{at(2, 0), at(2, 1), at(2, 2), at(2, 3)}, []impl.Timer{at(2, 1), at(2, 3), at(2, 2)}},
		{[]impl.Timer{at(2, 0), at(2, 4), at(2, 5), at(2, 4)}, []impl.Timer{at(2, 4), at(2, 4), at(2, 5)}},
		// Lists that are no heap: the first one comes, whatever it is, and the last one goes down on its way alone.
		{ats(9, 4), ats(4)},
		{ats(9, 4, 1), ats(1, 4)},
		{ats(9, 4, 1, 0), ats(0, 4, 1)},
		{ats(9, 4, 6, 1, 7), ats(4, 1, 6, 7)},
		{ats(9, 8, 6, 1, 2, 7), ats(6, 8, 7, 1, 2)},
		{ats(5, -1, -2, 3), ats(-2, -1, 3)},
	} {
		got, first, there := checkHeapTake(t, x.l)
		if !there || first != x.l[0] || !slices.Equal(got, x.want) {
			t.Errorf("HeapTake(%v) = %v, %v, %v, not %v", x.l, got, first, there, x.want)
		}
	}
}

func TestHeapTakeOfNone(t *testing.T) {
	for _, none := range [][]impl.Timer{nil, {}, ats(1, 2, 3)[:0], ats(1, 2, 3)[3:]} {
		if got, first, there := checkHeapTake(t, none); there || first != (impl.Timer{}) || len(got) != 0 {
			t.Errorf("of none there comes %v, %v, and %v is left", first, there, got)
		}
		if got := checkHeapSorted(t, none); len(got) != 0 {
			t.Errorf("none are sorted: %v", got)
		}
		if got := checkHeapDrop(t, none, 0); len(got) != 0 {
			t.Errorf("of none there are left %v", got)
		}
	}
}

func TestHeapTakeAndSortedOfMany(t *testing.T) {
	for _, l := range heapsAndOthers() {
		got, _, there := checkHeapTake(t, l)
		if there != (len(l) > 0) || heapAsTold(l) && !heapAsTold(got) {
			t.Fatalf("HeapTake(%v) = %v, %v", l, got, there)
		}
		sorted := checkHeapSorted(t, l)
		if len(sorted) != len(l) || heapAsTold(l) && !inTheirOrder(sorted) {
			t.Fatalf("Sorted(%v) = %v", l, sorted)
		}
	}
}

// inTheirOrder: whether none is Before the one ahead of it.
func inTheirOrder(l []impl.Timer) bool {
	for i := 1; i < len(l); i++ {
		if beforeAsTold(l[i], l[i-1]) {
			return false
		}
	}
	return true
}

// What comes of a list that is no heap is not in order, just as it comes one by one.
func TestSortedOfNoHeap(t *testing.T) {
	for _, x := range []struct{ l, want []impl.Timer }{
		{ats(2), ats(2)},
		{ats(2, 1), ats(2, 1)},
		{ats(3, 2, 1), ats(3, 1, 2)},
		{ats(1, 2, 3), ats(1, 2, 3)},
		{ats(9, 4, 6, 1), ats(9, 1, 4, 6)},
		{ats(5, 9, 6, 1, 2), ats(5, 2, 1, 6, 9)},
		{ats(0, -1, -2), ats(0, -2, -1)},
		{ats(7, 7, 7), ats(7, 7, 7)},
	} {
		if got := checkHeapSorted(t, x.l); !slices.Equal(got, x.want) {
			t.Errorf("Sorted(%v) = %v, not %v", x.l, got, x.want)
		}
	}
}

func TestHeapDropOfMany(t *testing.T) {
	for _, l := range heapsAndOthers() {
		for n := -1; n < 6; n++ {
			got := checkHeapDrop(t, l, n)
			if !heapAsTold(got) {
				t.Fatalf("HeapDrop(%v, %d) = %v is no heap", l, n, got)
			}
			for _, x := range got {
				if x.N == n {
					t.Fatalf("HeapDrop(%v, %d) = %v", l, n, got)
				}
			}
		}
	}
	// Each of MaxHeap and more, at whatever place it stands.
	for _, n := range []int{impl.MaxHeap, impl.MaxHeap + 1, 40} {
		h := heaped(dueOnce(n))
		for _, x := range h {
			if got := checkHeapDrop(t, h, x.N); len(got) != n-1 || slices.Contains(got, x) {
				t.Errorf("without %v there is left %v", x, got)
			}
		}
	}
}

// Many are put, dropped and sorted in no more time than they need.
func TestHeapsOfMany(t *testing.T) {
	const many = 200000
	var l []impl.Timer
	for i := range many {
		l = append(l, at(i*7919%many, i%3))
	}
	// Each time is there once, as 7919 has no divisor in common with their number.
	sorted := impl.Sorted(impl.HeapDrop(l, 9))
	for i, x := range sorted {
		if x.At != i {
			t.Fatalf("as number %d there comes %v", i, x)
		}
	}
	if len(sorted) != many || !slices.Equal(impl.Sorted(sorted), sorted) {
		t.Errorf("%d of them are sorted", len(sorted))
	}
	if got := impl.HeapDrop(sorted, 1); len(got) != many-(many+1)/3 {
		t.Errorf("%d are left", len(got))
	}
	if impl.HeapOk(sorted) {
		t.Error("so many are no right heap")
	}
	got := checkHeapPut(t, sorted, at(-1, 0))
	if got[0] != at(-1, 0) || len(got) != many+1 {
		t.Errorf("the first one is %v", got[0])
	}
	if got, first, there := checkHeapTake(t, got); first != at(-1, 0) || !there || got[0] != sorted[0] {
		t.Errorf("there comes %v, %v", first, there)
	}
}

// roomyTimers: a list to cut heaps and others out of, and a function that tells whether anything of it was changed.
func roomyTimers() ([]impl.Timer, func(t *testing.T, what string, from, to int)) {
	room := []impl.Timer{at(1, 1), at(3, 2), at(2, 3), at(3, 4), at(4, 1), at(0, 5), at(0, 0), at(-1, 2), at(9, 9)}
	kept := slices.Clone(room)
	return room, func(t *testing.T, what string, from, to int) {
		t.Helper()
		if !slices.Equal(room, kept) {
			t.Fatalf("%s, of %d to %d: the room is now %v, not %v", what, from, to, room, kept)
		}
	}
}

// markTimers: writes a mark all over each list, its spare room among it, and tells whether all marks stay.
func markTimers(lists ...[]impl.Timer) bool {
	for i, l := range lists {
		l = l[:cap(l)]
		for j := range l {
			l[j] = at(-100-i, -100-j)
		}
	}
	for i, l := range lists {
		for j, x := range l[:cap(l)] {
			if x != at(-100-i, -100-j) {
				return false
			}
		}
	}
	return true
}

// What HeapPut, HeapTake, HeapDrop and Sorted answer shares no memory with the list, also where that stays as it is, nor with another answer.
func TestHeapsMakeNewMemory(t *testing.T) {
	room, check := roomyTimers()
	for from := range room {
		for to := from; to < len(room); to++ {
			l := room[from:to]
			taken, _, _ := checkHeapTake(t, l)
			answers := [][]impl.Timer{
				checkHeapPut(t, l, at(8, 8)),
				checkHeapPut(t, l, at(-8, 8)),
				taken,
				checkHeapDrop(t, l, 77),
				checkHeapDrop(t, l, 1),
				checkHeapSorted(t, l),
				checkHeapPut(t, l, at(8, 8)),
				checkHeapDrop(t, l, 77),
				checkHeapSorted(t, l),
			}
			impl.HeapOk(l)
			check(t, "answered", from, to)
			if !markTimers(answers...) {
				t.Errorf("of %v the answers share memory", l)
			}
			check(t, "marked", from, to)
			if again := checkHeapDrop(t, l, 77); !slices.Equal(again, heapDropAsTold(l, 77)) {
				t.Errorf("of %v there is kept something: %v", l, again)
			}
		}
	}
}

// What is taken, or dropped, is not handed out behind the list's length.
func TestNothingTakenIsLeftBehind(t *testing.T) {
	for n := 1; n < 20; n++ {
		h := heaped(slices.Repeat([]impl.Timer{at(n, 7)}, n))
		left, _, _ := checkHeapTake(t, h)
		for _, got := range [][]impl.Timer{left, checkHeapDrop(t, h, 7), checkHeapSorted(t, h), checkHeapPut(t, h, at(1, 1))} {
			for _, x := range got[len(got):cap(got)] {
				if x != (impl.Timer{}) {
					t.Errorf("behind %v there lies %v", got, x)
				}
			}
		}
	}
}

// What lies behind the list is not read, either.
func TestHeapsAreReadToTheirLengthAlone(t *testing.T) {
	room := []impl.Timer{at(5, 1), at(6, 2), at(7, 3), at(0, 0), at(-1, -1)}
	l := room[:3]
	if !impl.HeapOk(l) || !impl.HeapOk(room[:0]) || !impl.HeapOk(room[:1]) || impl.HeapOk(room[:4]) {
		t.Error("what lies behind is asked")
	}
	if got, first, _ := checkHeapTake(t, l); first != room[0] || !slices.Equal(got, room[1:3]) {
		t.Errorf("there comes %v, and %v is left", first, got)
	}
	if _, _, there := checkHeapTake(t, room[:0]); there {
		t.Error("what lies behind is taken")
	}
	if got := checkHeapPut(t, l, at(8, 8)); !slices.Equal(got, []impl.Timer{room[0], room[1], room[2], at(8, 8)}) {
		t.Errorf("%v", got)
	}
	if got := checkHeapDrop(t, l, 2); !slices.Equal(got, []impl.Timer{room[0], room[2]}) {
		t.Errorf("%v", got)
	}
	if got := checkHeapSorted(t, l); !slices.Equal(got, l) {
		t.Errorf("%v", got)
	}
}

func TestHeapDrop(t *testing.T) {
	some := []impl.Timer{at(1, 4), at(3, 2), at(2, 2), at(5, 2), at(3, 3), at(2, 5), at(2, 4)}
	for _, x := range []struct {
		l    []impl.Timer
		n    int
		want []impl.Timer
	}{
		// Never: a heap stays as it stands.
		{some, 9, some},
		{some, -1, some},
		{some, 0, some},
		// Once, at the first, at a middle and at the last place.
		{[]impl.Timer{at(1, 1), at(3, 2), at(2, 3)}, 1, []impl.Timer{at(2, 3), at(3, 2)}},
		{[]impl.Timer{at(1, 1), at(3, 2), at(2, 3)}, 2, []impl.Timer{at(1, 1), at(2, 3)}},
		{[]impl.Timer{at(1, 1), at(3, 2), at(2, 3)}, 3, []impl.Timer{at(1, 1), at(3, 2)}},
		{some, 3, []impl.Timer{at(1, 4), at(2, 5), at(2, 2), at(5, 2), at(3, 2), at(2, 4)}},
		{some, 5, []impl.Timer{at(1, 4), at(3, 2), at(2, 2), at(5, 2), at(3, 3), at(2, 4)}},
		// Several times, and all.
		{some, 4, []impl.Timer{at(2, 2), at(2, 5), at(5, 2), at(3, 3), at(3, 2)}},
		{some, 2, []impl.Timer{at(1, 4), at(2, 4), at(2, 5), at(3, 3)}},
		{slices.Repeat(some[:1], 5), 4, nil},
		{some[:1], 4, nil},
		{some[:1], 5, some[:1]},
		// Of a list that is no heap the others are put in a heap, also where none is dropped.
		{ats(3, 2, 1), 7, ats(1, 3, 2)},
		{[]impl.Timer{at(3, 0), at(2, 1), at(1, 0)}, 1, []impl.Timer{at(1, 0), at(3, 0)}},
		{[]impl.Timer{at(2, 1), at(2, 0)}, 9, []impl.Timer{at(2, 0), at(2, 1)}},
		{[]impl.Timer{at(0, 1), at(-5, -1), at(-7, -3)}, -1, []impl.Timer{at(-7, -3), at(0, 1)}},
	} {
		if got := checkHeapDrop(t, x.l, x.n); !slices.Equal(got, x.want) {
			t.Errorf("HeapDrop(%v, %d) = %v, not %v", x.l, x.n, got, x.want)
		}
	}
}
