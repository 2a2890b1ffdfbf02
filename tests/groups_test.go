package tests

import (
	"math"
	"math/rand/v2"
	"slices"
	"strconv"
	"testing"

	"loop.example/groupmulticast/impl"
)

// noGroups are numbers that are not groups, among them some that are groups modulo the size of a word.
var noGroups = []int{-1, -5, -64, 5, 6, 32, 64, 65, 128, math.MinInt, math.MaxInt}

// notSets are lists that are not sets of groups.
func notSets() [][]int {
	list := [][]int{nil, {}, {0, 0}, {4, 4}, {1, 0}, {0, 2, 1}, {0, 2, 2}, {0, 1, 0}, {0, 1, 2, 3, 4, 4}, {0, 1, 2, 3, 4, 5}}
	for _, g := range noGroups {
		list = append(list, []int{g}, []int{0, g}, []int{g, 4})
	}
	return list
}

// groupsOf returns the groups whose bits are set.
func groupsOf(bits int) []int {
	groups := []int{}
	for g := range impl.MaxGroups {
		if bits>>g&1 == 1 {
			groups = append(groups, g)
		}
	}
	return groups
}

// allSets returns all sets of groups.
func allSets() [][]int {
	sets := [][]int{}
	for bits := 1; bits < 1<<impl.MaxGroups; bits++ {
		sets = append(sets, groupsOf(bits))
	}
	return sets
}

// setLists returns all lists of at most two sets, and longer ones up to MaxMessages, always the same.
func setLists() [][][]int {
	all := allSets()
	lists := [][][]int{nil, {}}
	for _, a := range all {
		lists = append(lists, [][]int{a})
		for _, b := range all {
			lists = append(lists, [][]int{a, b})
		}
	}
	r := rand.New(rand.NewPCG(1, 2))
	for n := 3; n <= impl.MaxMessages; n++ {
		for range 100 {
			long, narrow := [][]int{}, [][]int{}
			for range n {
				long = append(long, all[r.IntN(len(all))])
				first := r.IntN(impl.MaxGroups)
				narrow = append(narrow, groupsOf(1<<first|1<<r.IntN(impl.MaxGroups)))
			}
			lists = append(lists, long, narrow)
		}
	}
	return lists
}

// permutations calls f with each order of the numbers below n.
func permutations(n int, f func(order []int)) {
	var extend func(order []int)
	extend = func(order []int) {
		if len(order) == n {
			f(slices.Clone(order))
			return
		}
		for i := range n {
			if !slices.Contains(order, i) {
				extend(append(slices.Clone(order), i))
			}
		}
	}
	extend(nil)
}

// within reports whether all elements of a are in b.
func within(a, b []int) bool {
	return !slices.ContainsFunc(a, func(x int) bool { return !slices.Contains(b, x) })
}

// overlap reports whether a and b have a common element.
func overlap(a, b []int) bool {
	return slices.ContainsFunc(a, func(x int) bool { return slices.Contains(b, x) })
}

// smallestLinked returns the smallest set of groups that contains a group and is not left by a set of the list, of all that there are.
func smallestLinked(list [][]int, group int) []int {
	var best []int
	for _, candidate := range allSets() {
		if !slices.Contains(candidate, group) || best != nil && len(candidate) >= len(best) {
			continue
		}
		if !slices.ContainsFunc(list, func(set []int) bool { return overlap(set, candidate) && !within(set, candidate) }) {
			best = candidate
		}
	}
	return best
}

func TestGroupsConstants(t *testing.T) {
	if impl.MaxGroups != 5 || impl.MaxMessages != 12 {
		t.Errorf("MaxGroups is %d, MaxMessages is %d", impl.MaxGroups, impl.MaxMessages)
	}
}

// TestGroupsValid compares with the definition for all lists of up to 6 numbers in the range -1 to MaxGroups.
func TestGroupsValid(t *testing.T) {
	var check func(list []int, want bool)
	check = func(list []int, want bool) {
		if got := impl.GroupsValid(list); got != want {
			t.Errorf("GroupsValid(%v) = %v", list, got)
		}
		if len(list) == 6 {
			return
		}
		for g := -1; g <= impl.MaxGroups; g++ {
			inRange := g >= 0 && g < impl.MaxGroups
			if len(list) == 0 {
				check([]int{g}, inRange)
			} else {
				check(append(slices.Clone(list), g), want && inRange && g > list[len(list)-1])
			}
		}
	}
	check(nil, false)
	check([]int{}, false)
	for _, list := range notSets() {
		if impl.GroupsValid(list) {
			t.Errorf("GroupsValid(%v) = true", list)
		}
	}
	for _, set := range allSets() {
		if !impl.GroupsValid(set) {
			t.Errorf("GroupsValid(%v) = false", set)
		}
	}
}

func TestGroupsCommonAndUnionExamples(t *testing.T) {
	for _, c := range []struct{ a, b, common, union []int }{
		{[]int{0, 1, 3}, []int{1, 3, 4}, []int{1, 3}, []int{0, 1, 3, 4}},
		{[]int{0}, []int{4}, nil, []int{0, 4}},
		{[]int{3, 4}, []int{0, 1}, nil, []int{0, 1, 3, 4}},
		{[]int{2}, []int{2}, []int{2}, []int{2}},
		{[]int{0, 1, 2, 3, 4}, []int{1, 4}, []int{1, 4}, []int{0, 1, 2, 3, 4}},
	} {
		if got := impl.GroupsCommon(c.a, c.b); !slices.Equal(got, c.common) {
			t.Errorf("GroupsCommon(%v, %v) = %v", c.a, c.b, got)
		}
		if got := impl.GroupsUnion(c.a, c.b); !slices.Equal(got, c.union) {
			t.Errorf("GroupsUnion(%v, %v) = %v", c.a, c.b, got)
		}
	}
}

// TestP1 checks that GroupsCommon has exactly the groups in both sets, ascending, and is symmetric.
func TestP1(t *testing.T) {
	for a := 1; a < 1<<impl.MaxGroups; a++ {
		for b := 1; b < 1<<impl.MaxGroups; b++ {
			got := impl.GroupsCommon(groupsOf(a), groupsOf(b))
			if !slices.Equal(got, groupsOf(a&b)) {
				t.Errorf("GroupsCommon(%v, %v) = %v", groupsOf(a), groupsOf(b), got)
			}
			if other := impl.GroupsCommon(groupsOf(b), groupsOf(a)); !slices.Equal(got, other) {
				t.Errorf("GroupsCommon(%v, %v) = %v, not %v as in the other order", groupsOf(b), groupsOf(a), other, got)
			}
		}
	}
}

// TestP2 checks that GroupsUnion has exactly the groups in at least one set, and the sum of the lengths.
func TestP2(t *testing.T) {
	for a := 1; a < 1<<impl.MaxGroups; a++ {
		for b := 1; b < 1<<impl.MaxGroups; b++ {
			x, y := groupsOf(a), groupsOf(b)
			union, common := impl.GroupsUnion(x, y), impl.GroupsCommon(x, y)
			if !slices.Equal(union, groupsOf(a|b)) {
				t.Errorf("GroupsUnion(%v, %v) = %v", x, y, union)
			}
			if len(union)+len(common) != len(x)+len(y) {
				t.Errorf("GroupsUnion and GroupsCommon of %v and %v: %v and %v", x, y, union, common)
			}
		}
	}
}

// TestP3 checks that GroupsUnion of a set with itself, or with a part, adds nothing.
func TestP3(t *testing.T) {
	for _, a := range allSets() {
		if got := impl.GroupsUnion(a, a); !slices.Equal(got, a) {
			t.Errorf("GroupsUnion(%v, %v) = %v", a, a, got)
		}
		for _, b := range allSets() {
			union := impl.GroupsUnion(a, b)
			if got := impl.GroupsUnion(union, b); !slices.Equal(got, union) || !impl.GroupsValid(got) {
				t.Errorf("GroupsUnion(%v, %v) = %v", union, b, got)
			}
		}
	}
}

// TestCommonAndUnionInvalid checks that a list that is not a set of groups has nothing in common, and no union, with any other.
func TestCommonAndUnionInvalid(t *testing.T) {
	for _, bad := range notSets() {
		for _, other := range append(allSets(), notSets()...) {
			for _, pair := range [][2][]int{{bad, other}, {other, bad}} {
				if got := impl.GroupsCommon(pair[0], pair[1]); len(got) != 0 {
					t.Errorf("GroupsCommon(%v, %v) = %v", pair[0], pair[1], got)
				}
				if got := impl.GroupsUnion(pair[0], pair[1]); len(got) != 0 {
					t.Errorf("GroupsUnion(%v, %v) = %v", pair[0], pair[1], got)
				}
			}
		}
	}
}

// TestP4 checks that GroupsNamed has exactly the indexes of the sets with the group, ascending.
func TestP4(t *testing.T) {
	example := [][]int{{0, 1}, {3, 4}, {1, 2}, {1}}
	for group, want := range [][]int{{0}, {0, 2, 3}, {2}, {1}, {1}} {
		if got := impl.GroupsNamed(example, group); !slices.Equal(got, want) {
			t.Errorf("GroupsNamed(%v, %d) = %v", example, group, got)
		}
	}
	for _, list := range setLists() {
		for group := range impl.MaxGroups {
			want := []int{}
			for i := range list {
				if slices.Contains(list[i], group) {
					want = append(want, i)
				}
			}
			if got := impl.GroupsNamed(list, group); !slices.Equal(got, want) {
				t.Errorf("GroupsNamed(%v, %d) = %v", list, group, got)
			}
		}
	}
}

// TestGroupsLinkedIsSmallest compares with a search for the smallest set among all.
func TestGroupsLinkedIsSmallest(t *testing.T) {
	for _, list := range setLists() {
		for group := range impl.MaxGroups {
			if got, want := impl.GroupsLinked(list, group), smallestLinked(list, group); !slices.Equal(got, want) {
				t.Errorf("GroupsLinked(%v, %d) = %v, not %v", list, group, got, want)
			}
		}
	}
}

// TestP5 checks that GroupsLinked contains the group, and with one group of a set all of them.
func TestP5(t *testing.T) {
	for _, list := range setLists() {
		for group := range impl.MaxGroups {
			got := impl.GroupsLinked(list, group)
			if !slices.Contains(got, group) {
				t.Errorf("GroupsLinked(%v, %d) = %v", list, group, got)
			}
			for _, set := range list {
				if overlap(set, got) && !within(set, got) {
					t.Errorf("GroupsLinked(%v, %d) = %v without all of %v", list, group, got, set)
				}
			}
		}
	}
}

// TestP6 checks that GroupsLinked has no other group than those of sets that are part of it.
func TestP6(t *testing.T) {
	for _, list := range setLists() {
		for group := range impl.MaxGroups {
			got := impl.GroupsLinked(list, group)
			for _, other := range got {
				reason := slices.ContainsFunc(list, func(set []int) bool { return slices.Contains(set, other) && within(set, got) })
				if other != group && !reason {
					t.Errorf("GroupsLinked(%v, %d) = %v with %d", list, group, got, other)
				}
			}
		}
	}
}

// TestP7 checks that linked groups are linked with the same groups.
func TestP7(t *testing.T) {
	for _, list := range setLists() {
		for group := range impl.MaxGroups {
			got := impl.GroupsLinked(list, group)
			for _, other := range got {
				if again := impl.GroupsLinked(list, other); !slices.Equal(again, got) {
					t.Errorf("GroupsLinked(%v, %d) = %v, but %v for %d", list, group, got, again, other)
				}
			}
		}
	}
}

// TestP8 checks that a set stays valid without any one group, unless it is the only one, and is invalid with one repeated.
func TestP8(t *testing.T) {
	for _, set := range allSets() {
		for i, g := range set {
			without := slices.Delete(slices.Clone(set), i, i+1)
			if impl.GroupsValid(without) != (len(set) > 1) {
				t.Errorf("GroupsValid(%v) = %v", without, impl.GroupsValid(without))
			}
			for at := range len(set) + 1 {
				repeated := slices.Insert(slices.Clone(set), at, g)
				if impl.GroupsValid(repeated) {
					t.Errorf("GroupsValid(%v) = true", repeated)
				}
			}
		}
	}
}

// TestP9 checks that a further set, at any place of the list, takes no linked group away.
func TestP9(t *testing.T) {
	r := rand.New(rand.NewPCG(3, 4))
	all := allSets()
	for _, list := range setLists() {
		if len(list) == impl.MaxMessages {
			continue
		}
		more := slices.Insert(slices.Clone(list), r.IntN(len(list)+1), all[r.IntN(len(all))])
		for group := range impl.MaxGroups {
			before, after := impl.GroupsLinked(list, group), impl.GroupsLinked(more, group)
			if len(before) == 0 || !within(before, after) {
				t.Errorf("GroupsLinked(%v, %d) = %v, but %v with %v", list, group, before, after, more)
			}
		}
	}
}

// TestP10 checks that a group that is linked with no other one is alone in each set that GroupsNamed lists.
func TestP10(t *testing.T) {
	for _, list := range setLists() {
		for group := range impl.MaxGroups {
			linked, named := impl.GroupsLinked(list, group), impl.GroupsNamed(list, group)
			alone := !slices.ContainsFunc(named, func(i int) bool { return len(list[i]) != 1 })
			if (len(linked) == 1) != alone {
				t.Errorf("GroupsLinked(%v, %d) = %v, GroupsNamed is %v", list, group, linked, named)
			}
		}
	}
}

// TestGroupsLinkedChains links all groups by a chain of pairs only, in every order of the groups and of the pairs.
func TestGroupsLinkedChains(t *testing.T) {
	everything := groupsOf(1<<impl.MaxGroups - 1)
	permutations(impl.MaxGroups, func(way []int) {
		permutations(impl.MaxGroups-1, func(order []int) {
			list := [][]int{}
			for _, i := range order {
				list = append(list, groupsOf(1<<way[i]|1<<way[i+1]))
			}
			for group := range impl.MaxGroups {
				if got := impl.GroupsLinked(list, group); !slices.Equal(got, everything) {
					t.Fatalf("GroupsLinked(%v, %d) = %v", list, group, got)
				}
			}
			broken := list[:len(list)-1]
			for group := range impl.MaxGroups {
				if got, want := impl.GroupsLinked(broken, group), smallestLinked(broken, group); !slices.Equal(got, want) {
					t.Fatalf("GroupsLinked(%v, %d) = %v", broken, group, got)
				}
			}
		})
	})
}

// TestGroupsLinkedWideChains links groups through larger sets that overlap in one group only.
func TestGroupsLinkedWideChains(t *testing.T) {
	chains := [][][]int{{{0, 1, 2}, {2, 3, 4}}, {{2, 3, 4}, {0, 1, 2}}, {{3, 4}, {1, 3}, {0, 1, 2}}, {{0, 4}, {2}, {2, 3, 4}, {1, 2}}}
	for _, list := range chains {
		for group := range impl.MaxGroups {
			if got := impl.GroupsLinked(list, group); !slices.Equal(got, []int{0, 1, 2, 3, 4}) {
				t.Errorf("GroupsLinked(%v, %d) = %v", list, group, got)
			}
		}
	}
	apart := [][]int{{3, 4}, {0, 2}, {1}, {0}}
	for group, want := range [][]int{{0, 2}, {1}, {0, 2}, {3, 4}, {3, 4}} {
		if got := impl.GroupsLinked(apart, group); !slices.Equal(got, want) {
			t.Errorf("GroupsLinked(%v, %d) = %v", apart, group, got)
		}
	}
}

func TestGroupsOfNoSets(t *testing.T) {
	for _, list := range [][][]int{nil, {}} {
		for group := range impl.MaxGroups {
			if got := impl.GroupsNamed(list, group); len(got) != 0 {
				t.Errorf("GroupsNamed(%v, %d) = %v", list, group, got)
			}
			if got := impl.GroupsLinked(list, group); !slices.Equal(got, []int{group}) {
				t.Errorf("GroupsLinked(%v, %d) = %v", list, group, got)
			}
		}
	}
}

// TestGroupsOfManySets checks the greatest number of sets, and one more, where the last set is needed for the result.
func TestGroupsOfManySets(t *testing.T) {
	list := [][]int{}
	for range impl.MaxMessages - 1 {
		list = append(list, []int{0, 1})
	}
	list = append(list, []int{1, 2})
	if got := impl.GroupsNamed(list, 1); len(got) != impl.MaxMessages || got[0] != 0 || got[len(got)-1] != impl.MaxMessages-1 {
		t.Errorf("GroupsNamed of %d sets = %v", len(list), got)
	}
	if got := impl.GroupsLinked(list, 0); !slices.Equal(got, []int{0, 1, 2}) {
		t.Errorf("GroupsLinked of %d sets = %v", len(list), got)
	}
	list = append(list, []int{2, 3})
	for group := range impl.MaxGroups {
		checkNothing(t, list, group)
	}
}

// checkNothing checks that GroupsNamed and GroupsLinked refuse their arguments.
func checkNothing(t *testing.T, list [][]int, group int) {
	t.Helper()
	if got := impl.GroupsNamed(list, group); len(got) != 0 {
		t.Errorf("GroupsNamed(%v, %d) = %v", list, group, got)
	}
	if got := impl.GroupsLinked(list, group); len(got) != 0 {
		t.Errorf("GroupsLinked(%v, %d) = %v", list, group, got)
	}
}

// TestGroupsOfInvalidLists puts a list that is not a set of groups at every place among sets, the last one included.
func TestGroupsOfInvalidLists(t *testing.T) {
	for _, bad := range notSets() {
		for n := range impl.MaxMessages {
			good := slices.Repeat([][]int{{0, 1, 2, 3, 4}}, n)
			for at := range n + 1 {
				for group := range impl.MaxGroups {
					checkNothing(t, slices.Insert(slices.Clone(good), at, bad), group)
				}
			}
		}
	}
}

func TestNamedAndLinkedOfNoGroup(t *testing.T) {
	for _, group := range noGroups {
		checkNothing(t, nil, group)
		checkNothing(t, allSets()[:impl.MaxMessages], group)
		checkNothing(t, allSets()[:impl.MaxMessages+1], group)
		checkNothing(t, [][]int{{group}}, group)
		checkNothing(t, [][]int{{0}, nil}, group)
	}
}

// spare returns a copy with space behind it, which a function that appends to its argument would overwrite.
func spare(list []int) []int {
	return append(slices.Clone(list), 77, 77, 77, 77, 77, 77)[:len(list)]
}

// spareList returns a copy of a list of sets with space behind it and behind each set.
func spareList(list [][]int) [][]int {
	out := [][]int{}
	for _, set := range list {
		out = append(out, spare(set))
	}
	return append(out, []int{77}, []int{77})[:len(list)]
}

// whole returns what is in the memory of a slice, as text.
func whole(list []int) string {
	text := ""
	for _, x := range list[:cap(list)] {
		text += strconv.Itoa(x) + " "
	}
	return text
}

// wholeList returns what is in the memory of a list of sets, as text.
func wholeList(list [][]int) string {
	text := strconv.Itoa(cap(list))
	for _, set := range list[:cap(list)] {
		text += "/" + whole(set)
	}
	return text
}

// overwrite fills all the memory of a slice.
func overwrite(list []int) {
	list = list[:cap(list)]
	for i := range list {
		list[i] = 99
	}
}

// TestCommonAndUnionMemory checks that arguments stay as they are, and results are memory of their own.
func TestCommonAndUnionMemory(t *testing.T) {
	lists := append(allSets(), notSets()...)
	for _, f := range []func(a, b []int) []int{impl.GroupsCommon, impl.GroupsUnion} {
		for _, x := range lists {
			for _, y := range lists {
				a, b := spare(x), spare(y)
				beforeA, beforeB := whole(a), whole(b)
				first, second := f(a, b), f(a, b)
				want := whole(second)
				overwrite(first)
				if whole(a) != beforeA || whole(b) != beforeB || whole(second) != want {
					t.Errorf("memory of %v and %v was changed", x, y)
				}
				overwrite(a)
				overwrite(b)
				if whole(second) != want {
					t.Errorf("the result shares memory with %v or %v", x, y)
				}
			}
		}
	}
}

// TestValidMemory checks that GroupsValid leaves its argument as it is.
func TestValidMemory(t *testing.T) {
	for _, x := range append(allSets(), notSets()...) {
		a := spare(x)
		before := whole(a)
		impl.GroupsValid(a)
		if whole(a) != before {
			t.Errorf("GroupsValid changes %v", x)
		}
	}
}

// TestNamedAndLinkedMemory checks that arguments stay as they are, and results are memory of their own.
func TestNamedAndLinkedMemory(t *testing.T) {
	lists := append(setLists(), [][]int{{1, 0}, {2}}, [][]int{{2}, {3, 3}}, allSets())
	for _, f := range []func(list [][]int, group int) []int{impl.GroupsNamed, impl.GroupsLinked} {
		for _, x := range lists {
			for group := -1; group <= impl.MaxGroups; group++ {
				list := spareList(x)
				before := wholeList(list)
				first, second := f(list, group), f(list, group)
				want := whole(second)
				overwrite(first)
				if wholeList(list) != before || whole(second) != want {
					t.Errorf("memory of %v or of another result was changed", x)
				}
				for _, set := range list[:cap(list)] {
					overwrite(set)
				}
				if whole(second) != want {
					t.Errorf("the result shares memory with %v", x)
				}
			}
		}
	}
}
