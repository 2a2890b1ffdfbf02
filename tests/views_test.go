package tests

import (
	"fmt"
	"math"
	"slices"
	"sync"
	"testing"

	"loop.example/groupmulticast/impl"
)

// noViewNumbers are numbers that no view has. The next one of -1 and of the greatest integer is in range, or seems to be less.
var noViewNumbers = []int{-1, -2, -3, -50, -98, -99, -100, -101, -256, 100, 101, 102, 150, 198, 199, 256, math.MinInt, math.MinInt + 1, math.MaxInt - 1, math.MaxInt}

// noMembers are numbers that are not members, among them some that are members modulo the size of a word.
var noMembers = []int{-1, -2, -7, -8, -9, -64, -256, 8, 9, 10, 15, 16, 32, 63, 64, 65, 128, 256, math.MinInt, math.MaxInt}

// someViewNumbers are numbers of views, at both limits and between them.
var someViewNumbers = []int{0, 1, 2, 50, 96, 97, 98, 99}

// membersOf returns the members whose bits are set.
func membersOf(bits int) []int {
	members := []int{}
	for member := range impl.MaxMembers {
		if bits>>member&1 == 1 {
			members = append(members, member)
		}
	}
	return members
}

// allMembers returns all lists of members that a view may have.
var allMembers = sync.OnceValue(func() [][]int {
	lists := [][]int{}
	for bits := 1; bits < 1<<impl.MaxMembers; bits++ {
		lists = append(lists, membersOf(bits))
	}
	return lists
})

// areMembers reports whether a list is one of those.
func areMembers(list []int) bool {
	return slices.ContainsFunc(allMembers(), func(members []int) bool { return slices.Equal(members, list) })
}

// viewWith returns a view.
func viewWith(number int, members ...int) impl.View {
	return impl.View{Number: number, Members: members}
}

// validViews returns views with all lists of members and some numbers, and with some lists and all numbers.
var validViews = sync.OnceValue(func() []impl.View {
	views := []impl.View{}
	for _, members := range allMembers() {
		for _, number := range someViewNumbers {
			views = append(views, viewWith(number, members...))
		}
	}
	for number := range 100 {
		views = append(views, viewWith(number, 5), viewWith(number, 1, 4, 6), viewWith(number, 0, 1, 2, 3, 4, 5, 6, 7))
	}
	return views
})

// notMembers returns lists that are not the members of a view: each valid list with one of them replaced, doubled or exchanged with the next one, or with a further one in the wrong place.
var notMembers = sync.OnceValue(func() [][]int {
	lists := [][]int{nil, {}, {0, 1, 2, 3, 4, 5, 6, 7, 8}, {-1, 0, 1, 2, 3, 4, 5, 6, 7}, slices.Repeat([]int{3}, 8), slices.Repeat([]int{0}, 20), {7, 6, 5, 4, 3, 2, 1, 0}, {4, 5, 6, 7, 0, 1, 2, 3}}
	for _, member := range noMembers {
		lists = append(lists, []int{member}, []int{member, 3}, []int{3, member}, []int{2, member, 5}, []int{0, 7, member}, []int{member, 0, 7})
	}
	for _, members := range allMembers() {
		last := len(members) - 1
		lists = append(lists, slices.Insert(slices.Clone(members), 0, -1), append(slices.Clone(members), 8))
		for i, member := range members {
			lists = append(lists, slices.Insert(slices.Clone(members), i, member))
			for _, other := range []int{-1, 8} {
				changed := slices.Clone(members)
				changed[i] = other
				lists = append(lists, changed)
			}
			if i < last {
				changed := slices.Clone(members)
				changed[i], changed[i+1] = changed[i+1], changed[i]
				lists = append(lists, changed, append(slices.Clone(members), member))
			}
		}
	}
	return lists
})

// badViews returns invalid views: some have only the number out of range, the others only a list that is not one of members.
var badViews = sync.OnceValue(func() []impl.View {
	views := []impl.View{}
	for _, number := range noViewNumbers {
		for _, members := range [][]int{{0}, {7}, {0, 1}, {1, 4, 6}, {0, 1, 2, 3, 4, 5, 6}, {0, 1, 2, 3, 4, 5, 6, 7}} {
			views = append(views, viewWith(number, members...))
		}
	}
	for i, members := range notMembers() {
		views = append(views, viewWith(5, members...), viewWith([]int{0, 1, 98, 99}[i%4], members...))
	}
	return views
})

// sameView reports whether two views are equal; a nil list is an empty one.
func sameView(a, b impl.View) bool {
	return a.Number == b.Number && slices.Equal(a.Members, b.Members)
}

// wantedView returns the view of those for whom a condition holds, and whether there is such a view.
func wantedView(number int, belongs func(member int) bool) (impl.View, bool) {
	v := impl.View{Number: number}
	for member := range 8 {
		if belongs(member) {
			v.Members = append(v.Members, member)
		}
	}
	if number < 0 || number > 99 || len(v.Members) == 0 {
		return impl.View{}, false
	}
	return v, true
}

// wantedValidView returns what the document says of ViewValid.
func wantedValidView(v impl.View) bool {
	return v.Number >= 0 && v.Number <= 99 && areMembers(v.Members)
}

// wantedJoin returns what the document says of ViewJoin for a valid view.
func wantedJoin(v impl.View, member int) (impl.View, bool) {
	if member < 0 || member > 7 || slices.Contains(v.Members, member) {
		return impl.View{}, false
	}
	return wantedView(v.Number+1, func(m int) bool { return m == member || slices.Contains(v.Members, m) })
}

// wantedLeave returns what the document says of ViewLeave for a valid view.
func wantedLeave(v impl.View, member int) (impl.View, bool) {
	if !slices.Contains(v.Members, member) {
		return impl.View{}, false
	}
	return wantedView(v.Number+1, func(m int) bool { return m != member && slices.Contains(v.Members, m) })
}

// wantedSplit returns what the document says of ViewSplit for a valid view.
func wantedSplit(v impl.View, at int) (impl.View, impl.View, bool) {
	below, belowOk := wantedView(v.Number+1, func(m int) bool { return m < at && slices.Contains(v.Members, m) })
	others, othersOk := wantedView(v.Number+1, func(m int) bool { return m >= at && slices.Contains(v.Members, m) })
	if !belowOk || !othersOk {
		return impl.View{}, impl.View{}, false
	}
	return below, others, true
}

// wantedMergedView returns what the document says of ViewMerge for valid views.
func wantedMergedView(a, b impl.View) (impl.View, bool) {
	if overlap(a.Members, b.Members) {
		return impl.View{}, false
	}
	number := a.Number + 1
	if b.Number > a.Number {
		number = b.Number + 1
	}
	return wantedView(number, func(m int) bool { return slices.Contains(a.Members, m) || slices.Contains(b.Members, m) })
}

// wantedMajority returns what the document says of ViewMajority for a valid view.
func wantedMajority(v impl.View, some []int) bool {
	return areMembers(some) && within(some, v.Members) && 2*len(some) > len(v.Members)
}

// checkJoin checks what ViewJoin returns.
func checkJoin(t *testing.T, v impl.View, member int, want impl.View, wantOk bool) impl.View {
	t.Helper()
	got, ok := impl.ViewJoin(v, member)
	if !sameView(got, want) || ok != wantOk {
		t.Errorf("ViewJoin(%v, %d) = %v, %v, not %v, %v", v, member, got, ok, want, wantOk)
	}
	return got
}

// checkLeave checks what ViewLeave returns.
func checkLeave(t *testing.T, v impl.View, member int, want impl.View, wantOk bool) impl.View {
	t.Helper()
	got, ok := impl.ViewLeave(v, member)
	if !sameView(got, want) || ok != wantOk {
		t.Errorf("ViewLeave(%v, %d) = %v, %v, not %v, %v", v, member, got, ok, want, wantOk)
	}
	return got
}

// checkSplit checks what ViewSplit returns.
func checkSplit(t *testing.T, v impl.View, at int, wantBelow, wantOthers impl.View, wantOk bool) (impl.View, impl.View) {
	t.Helper()
	below, others, ok := impl.ViewSplit(v, at)
	if !sameView(below, wantBelow) || !sameView(others, wantOthers) || ok != wantOk {
		t.Errorf("ViewSplit(%v, %d) = %v, %v, %v, not %v, %v, %v", v, at, below, others, ok, wantBelow, wantOthers, wantOk)
	}
	return below, others
}

// checkMergedView checks what ViewMerge returns.
func checkMergedView(t *testing.T, a, b impl.View, want impl.View, wantOk bool) impl.View {
	t.Helper()
	got, ok := impl.ViewMerge(a, b)
	if !sameView(got, want) || ok != wantOk {
		t.Errorf("ViewMerge(%v, %v) = %v, %v, not %v, %v", a, b, got, ok, want, wantOk)
	}
	return got
}

// checkMajority checks what ViewMajority returns.
func checkMajority(t *testing.T, v impl.View, some []int, want bool) {
	t.Helper()
	if got := impl.ViewMajority(v, some); got != want {
		t.Errorf("ViewMajority(%v, %v) = %v", v, some, got)
	}
}

// checkViewValid checks what ViewValid returns.
func checkViewValid(t *testing.T, v impl.View, want bool) {
	t.Helper()
	if got := impl.ViewValid(v); got != want {
		t.Errorf("ViewValid(%v) = %v", v, got)
	}
}

func TestViewsConstants(t *testing.T) {
	if impl.MaxMembers != 8 || impl.MaxView != 99 {
		t.Errorf("MaxMembers is %d, MaxView is %d", impl.MaxMembers, impl.MaxView)
	}
}

// TestViewValidNumber has the number on both sides of its range, and in all of it.
func TestViewValidNumber(t *testing.T) {
	for _, members := range allMembers() {
		for number := -110; number <= 210; number++ {
			checkViewValid(t, viewWith(number, members...), number >= 0 && number <= 99)
		}
		for _, number := range noViewNumbers {
			checkViewValid(t, viewWith(number, members...), false)
		}
	}
}

func TestViewValidMembers(t *testing.T) {
	for _, x := range []struct {
		members []int
		want    bool
	}{
		{nil, false},
		{[]int{}, false},
		{[]int{0}, true},
		{[]int{7}, true},
		{[]int{-1}, false},
		{[]int{8}, false},
		{[]int{0, 7}, true},
		{[]int{7, 0}, false},
		{[]int{2, 2, 5}, false},
		{[]int{2, 3, 3, 5}, false},
		{[]int{2, 5, 5}, false},
		{[]int{2, 5, 2}, false},
		{[]int{1, 4, 6}, true},
		{[]int{4, 1, 6}, false},
		{[]int{1, 6, 4}, false},
		{[]int{-1, 4, 6}, false},
		{[]int{1, -1, 6}, false},
		{[]int{1, 4, -1}, false},
		{[]int{8, 4, 6}, false},
		{[]int{1, 8, 6}, false},
		{[]int{1, 4, 8}, false},
		{[]int{1, 8, 9}, false},
		{[]int{-2, -1, 0}, false},
		{[]int{0, 1, 2, 3, 4, 5, 6, 7}, true},
		{[]int{0, 1, 2, 3, 4, 5, 6, 7, 8}, false},
		{[]int{-1, 0, 1, 2, 3, 4, 5, 6, 7}, false},
		{[]int{0, 1, 2, 3, 4, 5, 6, 7, 7}, false},
	} {
		for _, number := range someViewNumbers {
			checkViewValid(t, viewWith(number, x.members...), x.want)
		}
	}
	for _, members := range allMembers() {
		checkViewValid(t, viewWith(0, members...), true)
	}
	for _, members := range notMembers() {
		checkViewValid(t, viewWith(0, members...), false)
	}
}

// TestViewValidIsAsSaid compares with the document for all lists of up to 4 numbers in the range -1 to MaxMembers.
func TestViewValidIsAsSaid(t *testing.T) {
	for n := range 5 {
		for _, members := range tuples([]int{-1, 0, 1, 2, 3, 4, 5, 6, 7, 8}, n) {
			checkViewValid(t, viewWith(3, members...), wantedValidView(viewWith(3, members...)))
		}
	}
	for _, v := range validViews() {
		checkViewValid(t, v, wantedValidView(v))
	}
	for _, v := range badViews() {
		checkViewValid(t, v, wantedValidView(v))
	}
}

// TestViewsInvalid checks what the functions return for invalid views, even if what they are asked for could be done.
func TestViewsInvalid(t *testing.T) {
	none := impl.View{}
	for i, v := range badViews() {
		checkViewValid(t, v, false)
		for _, number := range slices.Concat([]int{0, 1, 2, 3, 4, 5, 6, 7}, noMembers[i%10:i%10+10]) {
			checkJoin(t, v, number, none, false)
			checkLeave(t, v, number, none, false)
			checkSplit(t, v, number, none, none, false)
			checkMajority(t, v, []int{number}, false)
		}
		for _, good := range []impl.View{viewWith(0, 2), viewWith(3, 0, 3, 5), viewWith(98, 2, 3), viewWith(99, 7)} {
			checkMergedView(t, v, good, none, false)
			checkMergedView(t, good, v, none, false)
			checkMajority(t, v, good.Members, false)
		}
		checkMergedView(t, v, v, none, false)
		checkMergedView(t, v, badViews()[(i+1)%len(badViews())], none, false)
		checkMajority(t, v, v.Members, false)
		checkMajority(t, v, nil, false)
	}
}

// TestViewMergeInvalid has an invalid view on one side, beside one that could be merged if it were valid, and on both.
func TestViewMergeInvalid(t *testing.T) {
	for _, number := range noViewNumbers {
		for _, other := range append([]int{0, 3, 50, 97, 98, 99}, noViewNumbers...) {
			checkMergedView(t, viewWith(number, 0, 2), viewWith(other, 1, 3), impl.View{}, false)
			checkMergedView(t, viewWith(other, 0, 2), viewWith(number, 1, 3), impl.View{}, false)
		}
	}
	for _, list := range [][]int{nil, {}, {0, 0}, {2, 1}, {-1}, {-1, 3}, {8}, {3, 8}, {1, 3, 2}, {1, 1, 3}, {1, 3, 3}} {
		for _, other := range [][]int{{4}, {5, 6, 7}, {4, 7}, nil, {5, 5}, {6, 4}} {
			checkMergedView(t, viewWith(3, list...), viewWith(4, other...), impl.View{}, false)
			checkMergedView(t, viewWith(3, other...), viewWith(4, list...), impl.View{}, false)
		}
	}
}

// TestViewsNumberLimit has all numbers, so that at the greatest one the view is valid but its next one is not.
func TestViewsNumberLimit(t *testing.T) {
	none := impl.View{}
	for number := range 100 {
		v, next, fits := viewWith(number, 1, 4, 6), number+1, number < 99
		joined, left, below, others := viewWith(next, 1, 2, 4, 6), viewWith(next, 1, 6), viewWith(next, 1), viewWith(next, 4, 6)
		if !fits {
			joined, left, below, others = none, none, none, none
		}
		checkViewValid(t, v, true)
		checkJoin(t, v, 2, joined, fits)
		checkLeave(t, v, 4, left, fits)
		checkSplit(t, v, 4, below, others, fits)
		checkMajority(t, v, []int{1, 6}, true)
		checkMajority(t, v, []int{1}, false)
	}
	for _, v := range []impl.View{viewWith(99, 1, 4, 6), viewWith(100, 1, 4, 6), viewWith(-1, 1, 4, 6), viewWith(math.MaxInt, 1, 4, 6), viewWith(math.MinInt, 1, 4, 6)} {
		checkJoin(t, v, 2, none, false)
		checkLeave(t, v, 4, none, false)
		checkSplit(t, v, 4, none, none, false)
	}
}

// TestViewMergeNumbers has all numbers on both sides.
func TestViewMergeNumbers(t *testing.T) {
	for a := -2; a <= 102; a++ {
		for b := -2; b <= 102; b++ {
			want, wantOk := viewWith(max(a, b)+1, 1, 2, 5), true
			if min(a, b) < 0 || max(a, b) > 98 {
				want, wantOk = impl.View{}, false
			}
			checkMergedView(t, viewWith(a, 1, 5), viewWith(b, 2), want, wantOk)
			checkMergedView(t, viewWith(a, 2), viewWith(b, 1, 5), want, wantOk)
		}
	}
}

func TestViewJoinExamples(t *testing.T) {
	v, none := viewWith(3, 1, 4, 6), impl.View{}
	checkJoin(t, v, 0, viewWith(4, 0, 1, 4, 6), true)
	checkJoin(t, v, 2, viewWith(4, 1, 2, 4, 6), true)
	checkJoin(t, v, 3, viewWith(4, 1, 3, 4, 6), true)
	checkJoin(t, v, 5, viewWith(4, 1, 4, 5, 6), true)
	checkJoin(t, v, 7, viewWith(4, 1, 4, 6, 7), true)
	for _, member := range append([]int{1, 4, 6}, noMembers...) {
		checkJoin(t, v, member, none, false)
	}
	checkJoin(t, viewWith(0, 0), 7, viewWith(1, 0, 7), true)
	checkJoin(t, viewWith(0, 7), 0, viewWith(1, 0, 7), true)
	checkJoin(t, viewWith(98, 0, 1, 2, 4, 5, 6, 7), 3, viewWith(99, 0, 1, 2, 3, 4, 5, 6, 7), true)
	for member := -1; member <= 8; member++ {
		checkJoin(t, viewWith(5, 0, 1, 2, 3, 4, 5, 6, 7), member, none, false)
	}
}

func TestViewLeaveExamples(t *testing.T) {
	v, none := viewWith(3, 1, 4, 6), impl.View{}
	checkLeave(t, v, 1, viewWith(4, 4, 6), true)
	checkLeave(t, v, 4, viewWith(4, 1, 6), true)
	checkLeave(t, v, 6, viewWith(4, 1, 4), true)
	for _, member := range append([]int{0, 2, 3, 5, 7}, noMembers...) {
		checkLeave(t, v, member, none, false)
	}
	checkLeave(t, viewWith(0, 0, 7), 0, viewWith(1, 7), true)
	checkLeave(t, viewWith(0, 0, 7), 7, viewWith(1, 0), true)
	checkLeave(t, viewWith(98, 0, 1, 2, 3, 4, 5, 6, 7), 3, viewWith(99, 0, 1, 2, 4, 5, 6, 7), true)
	for member := range impl.MaxMembers {
		for other := -1; other <= impl.MaxMembers; other++ {
			checkLeave(t, viewWith(5, member), other, none, false)
		}
	}
}

func TestViewSplitExamples(t *testing.T) {
	v, none := viewWith(3, 1, 4, 6), impl.View{}
	for _, x := range []struct {
		at            int
		below, others impl.View
		want          bool
	}{
		{-1, none, none, false},
		{0, none, none, false},
		{1, none, none, false},
		{2, viewWith(4, 1), viewWith(4, 4, 6), true},
		{3, viewWith(4, 1), viewWith(4, 4, 6), true},
		{4, viewWith(4, 1), viewWith(4, 4, 6), true},
		{5, viewWith(4, 1, 4), viewWith(4, 6), true},
		{6, viewWith(4, 1, 4), viewWith(4, 6), true},
		{7, none, none, false},
		{8, none, none, false},
		{9, none, none, false},
	} {
		checkSplit(t, v, x.at, x.below, x.others, x.want)
	}
	for _, at := range noMembers {
		checkSplit(t, v, at, none, none, false)
		checkSplit(t, viewWith(0, 0, 1, 2, 3, 4, 5, 6, 7), at, none, none, false)
	}
	checkSplit(t, viewWith(0, 0, 7), 7, viewWith(1, 0), viewWith(1, 7), true)
	checkSplit(t, viewWith(98, 0, 7), 1, viewWith(99, 0), viewWith(99, 7), true)
	checkSplit(t, viewWith(98, 0, 1, 2, 3, 4, 5, 6, 7), 4, viewWith(99, 0, 1, 2, 3), viewWith(99, 4, 5, 6, 7), true)
	for member := range impl.MaxMembers {
		for at := -1; at <= impl.MaxMembers; at++ {
			checkSplit(t, viewWith(5, member), at, none, none, false)
		}
	}
}

func TestViewMergeExamples(t *testing.T) {
	for _, x := range []struct{ a, b, want impl.View }{
		{viewWith(3, 0, 2, 4, 6), viewWith(5, 1, 3, 5, 7), viewWith(6, 0, 1, 2, 3, 4, 5, 6, 7)},
		{viewWith(5, 0, 2), viewWith(3, 1, 3), viewWith(6, 0, 1, 2, 3)},
		{viewWith(4, 0, 1), viewWith(4, 5, 7), viewWith(5, 0, 1, 5, 7)},
		{viewWith(0, 3), viewWith(0, 2), viewWith(1, 2, 3)},
		{viewWith(0, 0, 7), viewWith(98, 3, 4), viewWith(99, 0, 3, 4, 7)},
		{viewWith(98, 0, 1, 2, 3, 4, 5, 6), viewWith(98, 7), viewWith(99, 0, 1, 2, 3, 4, 5, 6, 7)},
		{viewWith(2, 1, 2, 3, 4, 5, 6, 7), viewWith(1, 0), viewWith(3, 0, 1, 2, 3, 4, 5, 6, 7)},
	} {
		checkMergedView(t, x.a, x.b, x.want, true)
		checkMergedView(t, x.b, x.a, x.want, true)
	}
	for _, x := range []struct{ a, b impl.View }{
		{viewWith(3, 1, 4, 6), viewWith(3, 1)},
		{viewWith(3, 1, 4, 6), viewWith(5, 4)},
		{viewWith(3, 1, 4, 6), viewWith(2, 6)},
		{viewWith(3, 1, 4, 6), viewWith(3, 1, 2, 3)},
		{viewWith(3, 1, 4, 6), viewWith(3, 0, 4, 7)},
		{viewWith(3, 1, 4, 6), viewWith(3, 0, 5, 6)},
		{viewWith(3, 1, 4, 6), viewWith(3, 6, 7)},
		{viewWith(3, 1, 4, 6), viewWith(3, 0, 1)},
		{viewWith(3, 1, 4, 6), viewWith(3, 1, 4, 6)},
		{viewWith(3, 1, 4, 6), viewWith(8, 1, 4, 6)},
		{viewWith(99, 1, 4), viewWith(0, 2)},
		{viewWith(99, 1, 4), viewWith(98, 2)},
		{viewWith(99, 1, 4), viewWith(99, 2)},
	} {
		checkMergedView(t, x.a, x.b, impl.View{}, false)
		checkMergedView(t, x.b, x.a, impl.View{}, false)
	}
	for _, v := range validViews() {
		checkMergedView(t, v, v, impl.View{}, false)
	}
}

func TestViewMajorityExamples(t *testing.T) {
	for _, x := range []struct {
		v    impl.View
		some []int
		want bool
	}{
		{viewWith(3, 1, 4, 6), []int{1}, false},
		{viewWith(3, 1, 4, 6), []int{1, 4}, true},
		{viewWith(3, 1, 4, 6), []int{1, 6}, true},
		{viewWith(3, 1, 4, 6), []int{4, 6}, true},
		{viewWith(3, 1, 4, 6), []int{1, 4, 6}, true},
		{viewWith(3, 1, 3, 4, 6), []int{1, 3}, false},
		{viewWith(3, 1, 3, 4, 6), []int{4, 6}, false},
		{viewWith(3, 1, 3, 4, 6), []int{1, 3, 6}, true},
		{viewWith(3, 1, 3, 4, 6), []int{1, 3, 4, 6}, true},
		{viewWith(3, 2, 5), []int{2}, false},
		{viewWith(3, 2, 5), []int{5}, false},
		{viewWith(3, 2, 5), []int{2, 5}, true},
		{viewWith(3, 0, 1, 2, 3, 4, 5, 6, 7), []int{0, 2, 4, 6}, false},
		{viewWith(3, 0, 1, 2, 3, 4, 5, 6, 7), []int{0, 2, 4, 6, 7}, true},
		{viewWith(3, 0, 1, 2, 3, 4, 5, 6, 7), []int{0, 1, 2, 3, 4, 5, 6, 7}, true},
		{viewWith(3, 0, 1, 2, 3, 4, 5, 6, 7), []int{0, 1, 2, 3, 4, 5, 6, 7, 8}, false},
		{viewWith(3, 0, 1, 2, 3, 4, 5, 6), []int{4, 5, 6}, false},
		{viewWith(3, 0, 1, 2, 3, 4, 5, 6), []int{0, 4, 5, 6}, true},
		{viewWith(3, 0), []int{0}, true},
		{viewWith(3, 7), []int{7}, true},
		// These would be enough, but they do not ascend.
		{viewWith(3, 1, 4, 6), []int{4, 1}, false},
		{viewWith(3, 1, 4, 6), []int{6, 4, 1}, false},
		{viewWith(3, 1, 4, 6), []int{1, 6, 4}, false},
		{viewWith(3, 1, 4, 6), []int{4, 1, 6}, false},
		{viewWith(3, 1, 4, 6), []int{4, 6, 1}, false},
		{viewWith(3, 1, 4, 6), []int{1, 1}, false},
		{viewWith(3, 1, 4, 6), []int{6, 6}, false},
		{viewWith(3, 1, 4, 6), []int{1, 1, 4}, false},
		{viewWith(3, 1, 4, 6), []int{1, 4, 4}, false},
		{viewWith(3, 1, 4, 6), []int{1, 4, 4, 6}, false},
		{viewWith(3, 1, 4, 6), []int{1, 4, 1}, false},
		{viewWith(3, 0), []int{0, 0}, false},
		// These would be enough without the one that is not a member.
		{viewWith(3, 1, 4, 6), []int{0, 1, 4}, false},
		{viewWith(3, 1, 4, 6), []int{1, 2, 4}, false},
		{viewWith(3, 1, 4, 6), []int{1, 4, 5}, false},
		{viewWith(3, 1, 4, 6), []int{1, 4, 7}, false},
		{viewWith(3, 1, 4, 6), []int{1, 4, 5, 6}, false},
		{viewWith(3, 1, 4, 6), []int{0, 2, 3, 5, 7}, false},
		{viewWith(3, 1, 4, 6), []int{0, 1, 2, 3, 4, 5, 6, 7}, false},
		// Nobody is never enough.
		{viewWith(3, 1, 4, 6), nil, false},
		{viewWith(3, 1, 4, 6), []int{}, false},
		{viewWith(3, 0), nil, false},
		{viewWith(3, 0), []int{}, false},
		// Here only the view is invalid.
		{viewWith(-1, 1, 4, 6), []int{1, 4}, false},
		{viewWith(100, 1, 4, 6), []int{1, 4}, false},
		{viewWith(99, 1, 4, 6), []int{1, 4}, true},
		{viewWith(0, 1, 4, 6), []int{1, 4}, true},
		{viewWith(3, 1, 4, 4), []int{1, 4}, false},
		{viewWith(3, 4, 1), []int{1, 4}, false},
		{viewWith(3, 1, 4, 8), []int{1, 4}, false},
		{viewWith(3, -1, 1, 4), []int{1, 4}, false},
		{viewWith(3), nil, false},
		{viewWith(3), []int{1}, false},
	} {
		checkMajority(t, x.v, x.some, x.want)
	}
}

// TestViewMajorityOutOfRange has one that cannot be a member at each place of a majority.
func TestViewMajorityOutOfRange(t *testing.T) {
	v := viewWith(3, 0, 2, 4, 5, 7)
	for _, member := range noMembers {
		for _, some := range [][]int{{0, 2, 4}, {2, 4, 5, 7}, {0, 2, 4, 5, 7}} {
			for i := range len(some) + 1 {
				checkMajority(t, v, slices.Insert(slices.Clone(some), i, member), false)
				if i < len(some) {
					changed := slices.Clone(some)
					changed[i] = member
					checkMajority(t, v, changed, false)
				}
			}
		}
		checkMajority(t, viewWith(3, 0), []int{member}, false)
		checkMajority(t, viewWith(3, 7), []int{member, member}, false)
	}
	checkMajority(t, v, slices.Repeat([]int{0}, 1000), false)
	checkMajority(t, v, slices.Repeat([]int{0, 2, 4, 5, 7}, 1000), false)
}

// TestViewsAreAsSaid compares all functions of one view with the document.
func TestViewsAreAsSaid(t *testing.T) {
	for _, v := range validViews() {
		for _, number := range slices.Concat([]int{0, 1, 2, 3, 4, 5, 6, 7}, noMembers) {
			want, wantOk := wantedJoin(v, number)
			checkJoin(t, v, number, want, wantOk)
			want, wantOk = wantedLeave(v, number)
			checkLeave(t, v, number, want, wantOk)
			below, others, splitOk := wantedSplit(v, number)
			checkSplit(t, v, number, below, others, splitOk)
		}
	}
}

// TestViewMergeIsAsSaid compares with the document for each two lists of members.
func TestViewMergeIsAsSaid(t *testing.T) {
	for _, a := range allMembers() {
		for _, b := range allMembers() {
			for _, numbers := range [][2]int{{3, 5}, {98, 97}, {0, 99}} {
				first, second := viewWith(numbers[0], a...), viewWith(numbers[1], b...)
				want, wantOk := wantedMergedView(first, second)
				checkMergedView(t, first, second, want, wantOk)
			}
		}
	}
}

// TestViewMajorityIsAsSaid compares with the document for all lists of members of all views, and for lists that are none.
func TestViewMajorityIsAsSaid(t *testing.T) {
	for _, members := range allMembers() {
		v := viewWith(7, members...)
		for _, some := range allMembers() {
			checkMajority(t, v, some, wantedMajority(v, some))
		}
	}
	for _, members := range [][]int{{0}, {7}, {1, 4}, {1, 4, 6}, {0, 2, 3, 7}, {0, 1, 2, 3, 4, 5, 6, 7}} {
		v := viewWith(7, members...)
		for _, some := range notMembers() {
			checkMajority(t, v, some, false)
		}
		for n := range 5 {
			for _, some := range tuples([]int{-1, 0, 1, 2, 4, 6, 7, 8}, n) {
				checkMajority(t, v, some, wantedMajority(v, some))
			}
		}
	}
}

// TestViewsTogether has the members of a view come, go, part and meet again.
func TestViewsTogether(t *testing.T) {
	v := viewWith(10, 1, 4, 6)
	back := checkJoin(t, checkLeave(t, v, 4, viewWith(11, 1, 6), true), 4, viewWith(12, 1, 4, 6), true)
	checkLeave(t, checkJoin(t, back, 0, viewWith(13, 0, 1, 4, 6), true), 0, viewWith(14, 1, 4, 6), true)
	checkJoin(t, checkJoin(t, v, 5, viewWith(11, 1, 4, 5, 6), true), 2, viewWith(12, 1, 2, 4, 5, 6), true)
	checkJoin(t, checkJoin(t, v, 2, viewWith(11, 1, 2, 4, 6), true), 5, viewWith(12, 1, 2, 4, 5, 6), true)
	below, others := checkSplit(t, v, 3, viewWith(11, 1), viewWith(11, 4, 6), true)
	checkMergedView(t, below, others, viewWith(12, 1, 4, 6), true)
	checkMergedView(t, others, below, viewWith(12, 1, 4, 6), true)
	more := checkJoin(t, below, 0, viewWith(12, 0, 1), true)
	checkMergedView(t, more, others, viewWith(13, 0, 1, 4, 6), true)
	checkMergedView(t, checkJoin(t, below, 6, viewWith(12, 1, 6), true), others, impl.View{}, false)
	checkMergedView(t, v, below, impl.View{}, false)
}

// TestViewsToTheEnd lets a view grow and shrink again until there is no further number.
func TestViewsToTheEnd(t *testing.T) {
	v := viewWith(0, 3)
	for number := range 99 {
		if number%2 == 0 {
			v = checkJoin(t, v, 5, viewWith(number+1, 3, 5), true)
		} else {
			v = checkLeave(t, v, 5, viewWith(number+1, 3), true)
		}
	}
	checkViewValid(t, v, true)
	checkMajority(t, v, []int{3, 5}, true)
	checkMajority(t, v, []int{3}, false)
	checkJoin(t, v, 0, impl.View{}, false)
	checkLeave(t, v, 5, impl.View{}, false)
	checkSplit(t, v, 5, impl.View{}, impl.View{}, false)
	checkMergedView(t, v, viewWith(0, 7), impl.View{}, false)
	checkMergedView(t, viewWith(98, 7), v, impl.View{}, false)
}

// TestP98 checks that after ViewJoin the new member and all previous ones are members, and nobody else.
func TestP98(t *testing.T) {
	count := 0
	for _, v := range validViews() {
		for member := -2; member <= impl.MaxMembers+1; member++ {
			next, ok := impl.ViewJoin(v, member)
			if ok != (v.Number < 99 && member >= 0 && member < 8 && !slices.Contains(v.Members, member)) {
				t.Errorf("ViewJoin(%v, %d) = %v, %v", v, member, next, ok)
			}
			if !ok {
				continue
			}
			count++
			if !impl.ViewValid(next) || next.Number != v.Number+1 {
				t.Errorf("ViewJoin(%v, %d) = %v", v, member, next)
			}
			for m := -2; m <= impl.MaxMembers+1; m++ {
				if slices.Contains(next.Members, m) != (m == member || slices.Contains(v.Members, m)) {
					t.Errorf("ViewJoin(%v, %d) = %v", v, member, next)
				}
			}
		}
	}
	if count < 1000 {
		t.Errorf("only %d members have joined", count)
	}
}

// TestP99 checks that after ViewLeave all previous members but this one are members, and nobody else.
func TestP99(t *testing.T) {
	count := 0
	for _, v := range validViews() {
		for member := -2; member <= impl.MaxMembers+1; member++ {
			next, ok := impl.ViewLeave(v, member)
			if ok != (v.Number < 99 && len(v.Members) > 1 && slices.Contains(v.Members, member)) {
				t.Errorf("ViewLeave(%v, %d) = %v, %v", v, member, next, ok)
			}
			if !ok {
				continue
			}
			count++
			if !impl.ViewValid(next) || next.Number != v.Number+1 {
				t.Errorf("ViewLeave(%v, %d) = %v", v, member, next)
			}
			for m := -2; m <= impl.MaxMembers+1; m++ {
				if slices.Contains(next.Members, m) != (m != member && slices.Contains(v.Members, m)) {
					t.Errorf("ViewLeave(%v, %d) = %v", v, member, next)
				}
			}
		}
	}
	if count < 1000 {
		t.Errorf("only %d members have left", count)
	}
}

// TestP100 checks that a member that has left can come back, unless there is no further number, and that the members are the previous ones then.
func TestP100(t *testing.T) {
	back, ended := 0, 0
	for _, v := range validViews() {
		for _, member := range v.Members {
			left, ok := impl.ViewLeave(v, member)
			if !ok {
				continue
			}
			if v.Number+2 > 99 {
				ended++
				checkJoin(t, left, member, impl.View{}, false)
			} else {
				back++
				checkJoin(t, left, member, viewWith(v.Number+2, v.Members...), true)
			}
		}
	}
	if back < 1000 || ended < 100 {
		t.Errorf("only %d members have come back, and %d could not", back, ended)
	}
}

// majoritiesOf returns all lists for which ViewMajority holds, of those that ascend and of some that do not.
func majoritiesOf(v impl.View) [][]int {
	list := [][]int{}
	for _, some := range append(slices.Clone(allMembers()), notMembers()[:100]...) {
		if impl.ViewMajority(v, some) {
			list = append(list, some)
		}
	}
	return list
}

// checkCommon checks that each majority of one view has a common member with each one of another, and that there are some.
func checkCommon(t *testing.T, v, other impl.View) {
	t.Helper()
	first, second := majoritiesOf(v), majoritiesOf(other)
	if len(first) == 0 || len(second) == 0 {
		t.Errorf("%v or %v has no majority", v, other)
	}
	for _, a := range first {
		for _, b := range second {
			if !overlap(a, b) {
				t.Errorf("%v of %v and %v of %v are majorities", a, v, b, other)
			}
		}
	}
}

// TestP101 checks that two majorities of a view have a common member.
func TestP101(t *testing.T) {
	for _, members := range allMembers() {
		v := viewWith(5, members...)
		checkCommon(t, v, v)
	}
}

// TestP102 checks that a majority of a view, and one of the view after somebody has joined, have a common member.
func TestP102(t *testing.T) {
	count := 0
	for _, members := range allMembers() {
		v := viewWith(5, members...)
		for member := range impl.MaxMembers {
			if next, ok := impl.ViewJoin(v, member); ok {
				count++
				checkCommon(t, v, next)
			}
		}
	}
	if count != 1016 {
		t.Errorf("%d members have joined, not one for each list and each member that it lacks", count)
	}
}

// TestMajorityTwoViewsLater shows that promise 102 holds for the next view only, so that the majorities above are not too large ones.
func TestMajorityTwoViewsLater(t *testing.T) {
	v := viewWith(3, 0)
	next := checkJoin(t, v, 1, viewWith(4, 0, 1), true)
	later := checkJoin(t, next, 2, viewWith(5, 0, 1, 2), true)
	checkMajority(t, v, []int{0}, true)
	checkMajority(t, next, []int{1}, false)
	checkMajority(t, later, []int{1, 2}, true)
}

// TestP103 checks that ViewSplit puts the members below the number into the first part and the others into the second one, both with the next number.
func TestP103(t *testing.T) {
	count := 0
	for _, v := range validViews() {
		for at := -2; at <= impl.MaxMembers+2; at++ {
			below, others, ok := impl.ViewSplit(v, at)
			if ok != (v.Number < 99 && v.Members[0] < at && at <= v.Members[len(v.Members)-1]) {
				t.Errorf("ViewSplit(%v, %d) = %v, %v, %v", v, at, below, others, ok)
			}
			if !ok {
				continue
			}
			count++
			if !impl.ViewValid(below) || !impl.ViewValid(others) || below.Number != v.Number+1 || others.Number != v.Number+1 {
				t.Errorf("ViewSplit(%v, %d) = %v, %v", v, at, below, others)
			}
			for m := -2; m <= impl.MaxMembers+1; m++ {
				member := slices.Contains(v.Members, m)
				if slices.Contains(below.Members, m) != (member && m < at) || slices.Contains(others.Members, m) != (member && m >= at) {
					t.Errorf("ViewSplit(%v, %d) = %v, %v", v, at, below, others)
				}
			}
		}
	}
	if count < 1000 {
		t.Errorf("only %d views were split", count)
	}
}

// TestP104 checks that both parts of a view can be merged, unless there is no further number, and that the members are the previous ones then.
func TestP104(t *testing.T) {
	merged, ended := 0, 0
	for _, v := range validViews() {
		for at := range impl.MaxMembers {
			below, others, ok := impl.ViewSplit(v, at)
			if !ok {
				continue
			}
			want, wantOk := viewWith(v.Number+2, v.Members...), true
			if v.Number+2 > 99 {
				ended++
				want, wantOk = impl.View{}, false
			} else {
				merged++
			}
			checkMergedView(t, below, others, want, wantOk)
			checkMergedView(t, others, below, want, wantOk)
		}
	}
	if merged < 1000 || ended < 100 {
		t.Errorf("only %d views were merged again, and %d could not be", merged, ended)
	}
}

// checkMergeSame checks promise 105 for two views, and returns whether they can be merged.
func checkMergeSame(t *testing.T, a, b impl.View) bool {
	t.Helper()
	merged, ok := impl.ViewMerge(a, b)
	checkMergedView(t, b, a, merged, ok)
	if ok == (overlap(a.Members, b.Members) || max(a.Number, b.Number) == 99) {
		t.Errorf("ViewMerge(%v, %v) = %v, %v", a, b, merged, ok)
	}
	if !ok {
		return false
	}
	if !impl.ViewValid(merged) || merged.Number <= a.Number || merged.Number <= b.Number {
		t.Errorf("ViewMerge(%v, %v) = %v", a, b, merged)
	}
	for m := -2; m <= impl.MaxMembers+1; m++ {
		if slices.Contains(merged.Members, m) != (slices.Contains(a.Members, m) || slices.Contains(b.Members, m)) {
			t.Errorf("ViewMerge(%v, %v) = %v", a, b, merged)
		}
	}
	return true
}

// TestP105 checks that a merged view has exactly the members of both, a greater number than both, and is the same in the other order.
func TestP105(t *testing.T) {
	count := 0
	for i, a := range allMembers() {
		for j, b := range allMembers() {
			first := viewWith(someViewNumbers[i%len(someViewNumbers)], a...)
			second := viewWith(someViewNumbers[(i/3+j)%len(someViewNumbers)], b...)
			if checkMergeSame(t, first, second) {
				count++
			}
		}
	}
	for a := range 100 {
		for b := range 100 {
			checkMergeSame(t, viewWith(a, 0, 3), viewWith(b, 1, 2, 5))
		}
	}
	if count < 1000 {
		t.Errorf("only %d views were merged", count)
	}
}

// TestP106 checks that two members can join in either order, and that the view is the same then.
func TestP106(t *testing.T) {
	count := 0
	for _, v := range validViews() {
		for a := range impl.MaxMembers {
			for b := range impl.MaxMembers {
				firstA, _ := impl.ViewJoin(v, a)
				firstB, _ := impl.ViewJoin(v, b)
				both, ok := impl.ViewJoin(firstA, b)
				checkJoin(t, firstB, a, both, ok)
				if ok != (v.Number <= 97 && a != b && !slices.Contains(v.Members, a) && !slices.Contains(v.Members, b)) {
					t.Errorf("ViewJoin of %v with %d and %d = %v, %v", v, a, b, both, ok)
				}
				if ok {
					count++
				}
			}
		}
	}
	if count < 1000 {
		t.Errorf("only %d times two members have joined", count)
	}
}

// TestP107 checks that the only member cannot leave, and is in every majority.
func TestP107(t *testing.T) {
	for member := range impl.MaxMembers {
		for number := range 100 {
			v := viewWith(number, member)
			checkLeave(t, v, member, impl.View{}, false)
			for bits := range 1 << impl.MaxMembers {
				checkMajority(t, v, membersOf(bits), bits == 1<<member)
			}
		}
		for _, some := range notMembers() {
			checkMajority(t, viewWith(5, member), some, false)
		}
	}
}

// spareView returns a copy of a view with space behind its members.
func spareView(v impl.View) impl.View {
	return viewWith(v.Number, spare(v.Members)...)
}

// wholeViews returns what is in the memory of views, as text.
func wholeViews(views []impl.View) string {
	text := ""
	for _, v := range views {
		text += fmt.Sprint("/", v.Number, len(v.Members), whole(v.Members))
	}
	return text
}

// checkViewsMemory checks that f leaves its arguments, and what is behind their members, and that its results share memory neither with those of another call, nor with the arguments, nor with each other.
func checkViewsMemory(t *testing.T, arguments []impl.View, f func(views []impl.View) []impl.View) {
	t.Helper()
	before := wholeViews(arguments)
	first, second := f(arguments), f(arguments)
	want := wholeViews(second)
	for _, v := range first {
		overwrite(v.Members)
	}
	if wholeViews(arguments) != before {
		t.Fatalf("an argument was changed: %s", before)
	}
	if wholeViews(second) != want {
		t.Fatalf("the results of two calls share memory: %s", before)
	}
	for _, v := range arguments {
		overwrite(v.Members)
	}
	if wholeViews(second) != want {
		t.Fatalf("a result shares memory with an argument: %s", before)
	}
	for i, v := range second {
		rest := slices.Delete(slices.Clone(second), i, i+1)
		want := wholeViews(rest)
		overwrite(v.Members)
		if wholeViews(rest) != want {
			t.Fatalf("the results of one call share memory: %s", before)
		}
	}
}

// TestViewsMemory checks the memory of the functions of one view, for valid ones, for which they succeed and fail, and for invalid ones.
func TestViewsMemory(t *testing.T) {
	views := append(slices.Clone(validViews()), badViews()[:500]...)
	for _, v := range views {
		for number := -1; number <= impl.MaxMembers; number++ {
			checkViewsMemory(t, []impl.View{spareView(v)}, func(views []impl.View) []impl.View {
				joined, _ := impl.ViewJoin(views[0], number)
				left, _ := impl.ViewLeave(views[0], number)
				return []impl.View{joined, left}
			})
			checkViewsMemory(t, []impl.View{spareView(v)}, func(views []impl.View) []impl.View {
				below, others, _ := impl.ViewSplit(views[0], number)
				return []impl.View{below, others}
			})
		}
	}
}

// TestViewsTwoArgumentsMemory checks the memory of ViewMerge, ViewMajority and ViewValid.
func TestViewsTwoArgumentsMemory(t *testing.T) {
	lists := append(slices.Clone(allMembers()), notMembers()[:50]...)
	for i, a := range lists {
		for j, b := range lists {
			arguments := []impl.View{spareView(viewWith(i%101, a...)), spareView(viewWith(j%3, b...))}
			checkViewsMemory(t, arguments, func(views []impl.View) []impl.View {
				merged, _ := impl.ViewMerge(views[0], views[1])
				impl.ViewMajority(views[0], views[1].Members)
				impl.ViewValid(views[0])
				return []impl.View{merged}
			})
		}
	}
}

// TestViewsSharedArgument has views whose members share memory: those of one stand behind those of the other, or both have the same ones.
func TestViewsSharedArgument(t *testing.T) {
	for at := range impl.MaxMembers + 1 {
		numbers := []int{0, 1, 2, 3, 4, 5, 6, 7}
		a, b := viewWith(3, numbers[:at]...), viewWith(4, numbers[at:]...)
		for _, pair := range [][]impl.View{{a, b}, {b, a}, {a, a}, {b, b}} {
			first, second := pair[0], pair[1]
			want, wantOk := wantedMergedView(first, second)
			if len(first.Members) == 0 || len(second.Members) == 0 {
				want, wantOk = impl.View{}, false
			}
			checkMergedView(t, first, second, want, wantOk)
			checkMajority(t, first, first.Members, len(first.Members) > 0)
			if !slices.Equal(numbers, []int{0, 1, 2, 3, 4, 5, 6, 7}) {
				t.Fatalf("ViewMerge(%v, %v) has changed the members to %v", first, second, numbers)
			}
		}
		checkViewsMemory(t, []impl.View{a, b}, func(views []impl.View) []impl.View {
			merged, _ := impl.ViewMerge(views[0], views[1])
			return []impl.View{merged}
		})
	}
}

// TestViewsSpareSpace checks that what joins the same view twice, or both parts of a view, does not overwrite each other.
func TestViewsSpareSpace(t *testing.T) {
	v := checkJoin(t, viewWith(1, 0, 2), 4, viewWith(2, 0, 2, 4), true)
	one := checkJoin(t, v, 5, viewWith(3, 0, 2, 4, 5), true)
	other := checkJoin(t, v, 7, viewWith(3, 0, 2, 4, 7), true)
	below, others := checkSplit(t, v, 2, viewWith(3, 0), viewWith(3, 2, 4), true)
	more := checkJoin(t, below, 1, viewWith(4, 0, 1), true)
	if !sameView(v, viewWith(2, 0, 2, 4)) || !sameView(one, viewWith(3, 0, 2, 4, 5)) || !sameView(other, viewWith(3, 0, 2, 4, 7)) {
		t.Errorf("from %v, ViewJoin leads to %v and %v", v, one, other)
	}
	if !sameView(below, viewWith(3, 0)) || !sameView(others, viewWith(3, 2, 4)) || !sameView(more, viewWith(4, 0, 1)) {
		t.Errorf("from %v and %v, ViewJoin leads to %v", below, others, more)
	}
}

// TestViewsNil checks that a nil list, as an argument, is an empty one.
func TestViewsNil(t *testing.T) {
	for _, none := range [][]int{nil, {}} {
		v := impl.View{Number: 5, Members: none}
		checkViewValid(t, v, false)
		checkViewValid(t, impl.View{Members: none}, false)
		checkJoin(t, v, 3, impl.View{}, false)
		checkLeave(t, v, 3, impl.View{}, false)
		checkSplit(t, v, 3, impl.View{}, impl.View{}, false)
		checkMergedView(t, v, viewWith(3, 1), impl.View{}, false)
		checkMergedView(t, viewWith(3, 1), v, impl.View{}, false)
		checkMajority(t, viewWith(3, 1), none, false)
		checkMajority(t, v, none, false)
	}
}
