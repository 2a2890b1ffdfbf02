package tests

import (
	"math"
	"math/bits"
	"math/rand/v2"
	"slices"
	"testing"

	"loop.example/groupmulticast/impl"
)

// noLengths are numbers that are not lengths of a log.
var noLengths = []int{-1, -2, -99, 100, 101, 198, math.MinInt, math.MaxInt}

// someLengths are lengths of a log: the limits, and neighbours.
var someLengths = []int{0, 1, 2, 49, 50, 51, 97, 98, 99}

// tuples returns all lists of n of the numbers.
func tuples(numbers []int, n int) [][]int {
	lists := [][]int{{}}
	for range n {
		longer := [][]int{}
		for _, list := range lists {
			for _, x := range numbers {
				longer = append(longer, append(slices.Clone(list), x))
			}
		}
		lists = longer
	}
	return lists
}

// lengthLists returns lengths of 1 to MaxCopies copies, always the same: all of three lengths, so that many are equal, and any.
func lengthLists() [][]int {
	lists := [][]int{}
	r := rand.New(rand.NewPCG(7, 8))
	for n := 1; n <= impl.MaxCopies; n++ {
		lists = append(lists, tuples([]int{0, 1, 99}, n)...)
		for range 100 {
			wide, narrow := []int{}, []int{}
			for range n {
				wide = append(wide, r.IntN(impl.MaxLength+1))
				narrow = append(narrow, impl.MaxLength-r.IntN(4))
			}
			lists = append(lists, wide, narrow)
		}
	}
	return lists
}

// badLengths returns invalid lengths: of no copies, of too many, and with a number that is no length at every place.
func badLengths() [][]int {
	lists := [][]int{nil, {}, make([]int, 0, 3)}
	for _, length := range []int{0, 5, 99} {
		for _, n := range []int{8, 9, 14, 100} {
			lists = append(lists, slices.Repeat([]int{length}, n))
		}
	}
	for _, bad := range noLengths {
		for n := range impl.MaxCopies {
			good := []int{}
			for i := range n {
				good = append(good, []int{99, 0, 5}[i%3])
			}
			for at := range n + 1 {
				lists = append(lists, slices.Insert(slices.Clone(good), at, bad))
			}
		}
	}
	return lists
}

// copiesOf returns the copies below n whose bits are set.
func copiesOf(set int, n int) []int {
	copies := []int{}
	for i := range n {
		if set>>i&1 == 1 {
			copies = append(copies, i)
		}
	}
	return copies
}

// majorities returns all majorities of n copies.
func majorities(n int) [][]int {
	lists := [][]int{}
	for set := range 1 << n {
		if 2*bits.OnesCount(uint(set)) > n {
			lists = append(lists, copiesOf(set, n))
		}
	}
	return lists
}

// notMajorities returns lists that are not majorities of n copies: too few, not ascending, repeated, or with copies that do not exist.
func notMajorities(n int) [][]int {
	lists := [][]int{nil, {}, make([]int, 0, 3)}
	for set := range 1 << n {
		if 2*bits.OnesCount(uint(set)) <= n {
			lists = append(lists, copiesOf(set, n))
		}
	}
	for _, live := range majorities(n) {
		if len(live) > 1 {
			backwards, last := slices.Clone(live), len(live)-1
			slices.Reverse(backwards)
			exchanged := slices.Clone(live)
			exchanged[last-1], exchanged[last] = live[last], live[last-1]
			lists = append(lists, backwards, exchanged)
		}
		for at := range len(live) + 1 {
			for _, more := range append(slices.Clone(live), -1, n, n+1, -n, 7, 64, math.MinInt, math.MaxInt) {
				lists = append(lists, slices.Insert(slices.Clone(live), at, more))
			}
		}
		for at := range live {
			for _, other := range []int{-1, n, 64, math.MinInt, math.MaxInt} {
				replaced := slices.Clone(live)
				replaced[at] = other
				lists = append(lists, replaced)
			}
		}
	}
	return append(lists, slices.Repeat([]int{0}, n+1), slices.Repeat([]int{n - 1}, n+1), slices.Repeat([]int{-1}, n))
}

// withAtLeast returns how many of some copies have at least a number of entries.
func withAtLeast(lengths []int, length int) int {
	count := 0
	for _, own := range lengths {
		if own >= length {
			count++
		}
	}
	return count
}

// wantedIndex returns what the document says of CommitIndex of valid lengths.
func wantedIndex(lengths []int) int {
	for length := impl.MaxLength; ; length-- {
		if 2*withAtLeast(lengths, length) > len(lengths) {
			return length
		}
	}
}

// wantedLeader returns what the document says of CommitLeader of valid arguments.
func wantedLeader(lengths []int, live []int) int {
	most := -1
	for _, i := range live {
		most = max(most, lengths[i])
	}
	return live[slices.IndexFunc(live, func(i int) bool { return lengths[i] == most })]
}

// wantedRepair returns what the document says of CommitRepair of valid arguments.
func wantedRepair(lengths []int, live []int) []int {
	want := slices.Clone(lengths)
	for _, i := range live {
		want[i] = lengths[wantedLeader(lengths, live)]
	}
	return want
}

// wantedNeeded returns the least number of copies that may get entries so that more than half have a length, by trying.
func wantedNeeded(lengths []int, length int) int {
	have := withAtLeast(lengths, length)
	for more := 0; ; more++ {
		if 2*(have+more) > len(lengths) {
			return more
		}
	}
}

// checkIndex checks that CommitIndex is a number.
func checkIndex(t *testing.T, lengths []int, want int) {
	t.Helper()
	if got := impl.CommitIndex(lengths); got != want {
		t.Errorf("CommitIndex(%v) = %d, not %d", lengths, got, want)
	}
}

// checkLeader checks that CommitLeader is a copy, or -1.
func checkLeader(t *testing.T, lengths []int, live []int, want int) {
	t.Helper()
	if got := impl.CommitLeader(lengths, live); got != want {
		t.Errorf("CommitLeader(%v, %v) = %d, not %d", lengths, live, got, want)
	}
}

// checkRepair checks that CommitRepair succeeds with some lengths.
func checkRepair(t *testing.T, lengths []int, live []int, want []int) {
	t.Helper()
	if got, ok := impl.CommitRepair(lengths, live); !ok || !slices.Equal(got, want) {
		t.Errorf("CommitRepair(%v, %v) = %v, %v, not %v", lengths, live, got, ok, want)
	}
}

// checkNoLeader checks that CommitLeader and CommitRepair refuse their arguments.
func checkNoLeader(t *testing.T, lengths []int, live []int) {
	t.Helper()
	checkLeader(t, lengths, live, -1)
	if got, ok := impl.CommitRepair(lengths, live); ok || len(got) != 0 {
		t.Errorf("CommitRepair(%v, %v) = %v, %v", lengths, live, got, ok)
	}
}

// checkNeeded checks that CommitNeeded is a number.
func checkNeeded(t *testing.T, lengths []int, length int, want int) {
	t.Helper()
	if got := impl.CommitNeeded(lengths, length); got != want {
		t.Errorf("CommitNeeded(%v, %d) = %d, not %d", lengths, length, got, want)
	}
}

func TestCommitConstants(t *testing.T) {
	if impl.MaxCopies != 7 || impl.MaxLength != 99 {
		t.Errorf("MaxCopies is %d, MaxLength is %d", impl.MaxCopies, impl.MaxLength)
	}
}

// TestCommitIndexExamples has odd and even numbers of copies, with equal lengths just above, at and just below the middle.
func TestCommitIndexExamples(t *testing.T) {
	for _, c := range []struct {
		lengths []int
		want    int
	}{
		{[]int{0}, 0}, {[]int{7}, 7}, {[]int{99}, 99},
		{[]int{5, 3}, 3}, {[]int{3, 5}, 3}, {[]int{4, 4}, 4}, {[]int{99, 0}, 0},
		{[]int{5, 3, 1}, 3}, {[]int{1, 5, 3}, 3}, {[]int{5, 5, 1}, 5}, {[]int{5, 1, 1}, 1},
		{[]int{5, 5, 3, 1}, 3}, {[]int{5, 3, 3, 1}, 3}, {[]int{5, 3, 1, 1}, 1}, {[]int{5, 5, 5, 1}, 5}, {[]int{5, 5, 1, 1}, 1},
		{[]int{5, 4, 4, 2, 1}, 4}, {[]int{5, 4, 3, 3, 1}, 3}, {[]int{5, 5, 5, 1, 1}, 5}, {[]int{5, 5, 1, 1, 1}, 1},
		{[]int{6, 5, 4, 3, 2, 1}, 3}, {[]int{9, 9, 9, 2, 2, 2}, 2}, {[]int{9, 9, 9, 9, 2, 2}, 9},
		{[]int{7, 6, 5, 4, 3, 2, 1}, 4}, {[]int{1, 7, 2, 6, 3, 5, 4}, 4}, {[]int{99, 99, 99, 99, 0, 0, 0}, 99}, {[]int{99, 99, 99, 0, 0, 0, 0}, 0},
	} {
		checkIndex(t, c.lengths, c.want)
	}
}

// TestCommitEqualLengths has 1 to MaxCopies copies of one length, and of one length but for one copy.
func TestCommitEqualLengths(t *testing.T) {
	for n := 1; n <= impl.MaxCopies; n++ {
		for _, length := range someLengths {
			equal := slices.Repeat([]int{length}, n)
			checkIndex(t, equal, length)
			for _, live := range majorities(n) {
				checkLeader(t, equal, live, live[0])
				checkRepair(t, equal, live, equal)
			}
			for at := range n {
				for _, other := range someLengths {
					one := slices.Clone(equal)
					one[at] = other
					// One copy of two decides if it is the shorter one, and the only copy always; one of more never does.
					want := length
					if n == 1 || n == 2 && other < length {
						want = other
					}
					checkIndex(t, one, want)
				}
			}
		}
	}
}

// TestCommitLeaderLongestEqual has two equal lengths, the greatest ones, at every two places: the first that is live leads.
func TestCommitLeaderLongestEqual(t *testing.T) {
	for n := 2; n <= impl.MaxCopies; n++ {
		for second := range n {
			for first := range second {
				lengths := slices.Repeat([]int{4}, n)
				lengths[first], lengths[second] = 9, 9
				for _, live := range majorities(n) {
					want := live[0]
					if slices.Contains(live, first) {
						want = first
					} else if slices.Contains(live, second) {
						want = second
					}
					checkLeader(t, lengths, live, want)
				}
			}
		}
	}
}

func TestCommitLeaderExamples(t *testing.T) {
	checkLeader(t, []int{5, 3, 1}, []int{0, 1, 2}, 0)
	checkLeader(t, []int{5, 3, 1}, []int{1, 2}, 1)
	checkLeader(t, []int{5, 3, 1}, []int{0, 2}, 0)
	checkLeader(t, []int{1, 3, 5}, []int{0, 1, 2}, 2)
	checkLeader(t, []int{1, 5, 5}, []int{0, 1, 2}, 1)
	checkLeader(t, []int{1, 5, 5}, []int{0, 2}, 2)
	checkLeader(t, []int{0, 0, 0, 0}, []int{1, 2, 3}, 1)
	checkLeader(t, []int{0}, []int{0}, 0)
	checkNoLeader(t, []int{5, 3, 1}, []int{2})
	checkNoLeader(t, []int{5, 3, 1, 0}, []int{0, 1})
	checkNoLeader(t, []int{5, 3}, []int{0})
	checkNoLeader(t, []int{5, 3}, []int{1})
}

func TestCommitRepairExamples(t *testing.T) {
	checkRepair(t, []int{5, 3, 1}, []int{1, 2}, []int{5, 3, 3})
	checkRepair(t, []int{5, 3, 1}, []int{0, 2}, []int{5, 3, 5})
	checkRepair(t, []int{5, 3, 1}, []int{0, 1, 2}, []int{5, 5, 5})
	checkRepair(t, []int{2, 7, 7, 0}, []int{0, 1, 2}, []int{7, 7, 7, 0})
	checkRepair(t, []int{0, 99, 0, 0, 0, 98, 0}, []int{0, 2, 5, 6}, []int{98, 99, 98, 0, 0, 98, 98})
	checkRepair(t, []int{42}, []int{0}, []int{42})
	checkRepair(t, []int{0, 99}, []int{0, 1}, []int{99, 99})
}

// TestCommitLeaderIsAsSaid compares CommitLeader and CommitRepair with the words of the document for all majorities.
func TestCommitLeaderIsAsSaid(t *testing.T) {
	for _, lengths := range lengthLists() {
		for _, live := range majorities(len(lengths)) {
			checkLeader(t, lengths, live, wantedLeader(lengths, live))
			checkRepair(t, lengths, live, wantedRepair(lengths, live))
		}
	}
}

// TestCommitMajority checks every number of copies with every set of them, and with lists that are not sets of copies.
func TestCommitMajority(t *testing.T) {
	for n := 1; n <= impl.MaxCopies; n++ {
		lengths := []int{9, 3, 5, 9, 0, 99, 1}[:n]
		for set := range 1 << n {
			live := copiesOf(set, n)
			if 2*len(live) > n {
				checkLeader(t, lengths, live, wantedLeader(lengths, live))
				checkRepair(t, lengths, live, wantedRepair(lengths, live))
			} else {
				checkNoLeader(t, lengths, live)
			}
		}
		for _, live := range notMajorities(n) {
			checkNoLeader(t, lengths, live)
		}
	}
}

// TestCommitMajorityAllLists checks all lists of up to n+1 numbers from -1 to n for few copies.
func TestCommitMajorityAllLists(t *testing.T) {
	for n := 1; n <= 4; n++ {
		lengths := []int{2, 7, 7, 1}[:n]
		for size := range n + 2 {
			numbers := []int{}
			for i := -1; i <= n; i++ {
				numbers = append(numbers, i)
			}
			for _, live := range tuples(numbers, size) {
				if slices.ContainsFunc(majorities(n), func(m []int) bool { return slices.Equal(m, live) }) {
					checkLeader(t, lengths, live, wantedLeader(lengths, live))
				} else {
					checkNoLeader(t, lengths, live)
				}
			}
		}
	}
}

// TestCommitInvalidLengths checks that nothing else matters if the lengths are invalid: not the copies that are live, nor the length.
func TestCommitInvalidLengths(t *testing.T) {
	for _, bad := range badLengths() {
		checkIndex(t, bad, -1)
		for _, length := range append(slices.Clone(someLengths), noLengths...) {
			checkNeeded(t, bad, length, -1)
		}
		lives := [][]int{nil, {}, {0}, {0, 1}, {1, 2, 3}, {0, 1, 2, 3}, {3, 4, 5, 6}, {0, 1, 2, 3, 4, 5, 6}, {-1}, {0, 0}}
		if len(bad) <= impl.MaxCopies {
			lives = append(lives, majorities(len(bad))...)
		} else {
			all := []int{}
			for i := range bad {
				all = append(all, i)
			}
			lives = append(lives, all, all[1:], all[:len(all)-1])
		}
		for _, live := range lives {
			checkNoLeader(t, bad, live)
		}
	}
}

// TestCommitManyCopies checks the greatest number of copies, where the last ones decide, and one more.
func TestCommitManyCopies(t *testing.T) {
	seven := []int{0, 1, 2, 40, 41, 42, 43}
	checkIndex(t, seven, 40)
	checkNeeded(t, seven, 41, 1)
	checkLeader(t, seven, []int{0, 1, 2, 6}, 6)
	checkRepair(t, seven, []int{0, 1, 2, 6}, []int{43, 43, 43, 40, 41, 42, 43})
	eight := append(slices.Clone(seven), 44)
	checkIndex(t, eight, -1)
	checkNeeded(t, eight, 0, -1)
	checkNeeded(t, eight, 41, -1)
	checkNoLeader(t, eight, []int{0, 1, 2, 3, 4, 5, 6, 7})
	checkNoLeader(t, eight, []int{0, 1, 2, 3, 4})
}

func TestCommitNeededExamples(t *testing.T) {
	for _, c := range []struct {
		lengths      []int
		length, want int
	}{
		{[]int{5, 3, 1}, 5, 1}, {[]int{5, 3, 1}, 4, 1}, {[]int{5, 3, 1}, 3, 0}, {[]int{5, 3, 1}, 0, 0}, {[]int{5, 3, 1}, 6, 2}, {[]int{5, 3, 1}, 99, 2},
		{[]int{5, 3}, 3, 0}, {[]int{5, 3}, 4, 1}, {[]int{5, 3}, 6, 2},
		{[]int{0}, 0, 0}, {[]int{0}, 1, 1}, {[]int{99}, 99, 0}, {[]int{98}, 99, 1},
		{[]int{5, 5, 3, 1}, 5, 1}, {[]int{5, 5, 3, 1}, 6, 3}, {[]int{5, 5, 3, 1}, 3, 0},
		{[]int{0, 0, 0, 0, 0, 0, 0}, 1, 4}, {[]int{0, 0, 0, 0, 0, 0}, 99, 4}, {[]int{99, 99, 99, 99, 99, 99, 99}, 99, 0}, {[]int{9, 9, 9, 0, 0, 0, 0}, 9, 1},
	} {
		checkNeeded(t, c.lengths, c.length, c.want)
	}
}

// TestCommitNeededIsAsSaid tries lengths at the limits, at and beside those of the copies, and those that are none.
func TestCommitNeededIsAsSaid(t *testing.T) {
	for _, lengths := range lengthLists() {
		index := impl.CommitIndex(lengths)
		for _, length := range append(slices.Concat(someLengths, lengths), index-1, index+1) {
			if length >= 0 && length <= impl.MaxLength {
				checkNeeded(t, lengths, length, wantedNeeded(lengths, length))
			} else {
				checkNeeded(t, lengths, length, -1)
			}
		}
		for _, length := range noLengths {
			checkNeeded(t, lengths, length, -1)
		}
	}
}

// TestP22 checks that more than half of the copies have CommitIndex entries, and not more than half have more, unless it is MaxLength.
func TestP22(t *testing.T) {
	for _, lengths := range lengthLists() {
		got := impl.CommitIndex(lengths)
		if got < 0 || got > impl.MaxLength || 2*withAtLeast(lengths, got) <= len(lengths) {
			t.Errorf("CommitIndex(%v) = %d", lengths, got)
		}
		if got != impl.MaxLength && 2*withAtLeast(lengths, got+1) > len(lengths) {
			t.Errorf("CommitIndex(%v) = %d, but more than half have more", lengths, got)
		}
		checkIndex(t, lengths, wantedIndex(lengths))
	}
}

// TestP23 checks that CommitLeader of any majority is one of it, with at least CommitIndex entries.
func TestP23(t *testing.T) {
	for _, lengths := range lengthLists() {
		for _, live := range majorities(len(lengths)) {
			got := impl.CommitLeader(lengths, live)
			if !slices.Contains(live, got) || lengths[got] < impl.CommitIndex(lengths) {
				t.Errorf("CommitLeader(%v, %v) = %d, CommitIndex is %d", lengths, live, got, impl.CommitIndex(lengths))
			}
		}
	}
}

// TestP24 checks that no live copy has more entries than CommitLeader, and none before it as many.
func TestP24(t *testing.T) {
	for _, lengths := range lengthLists() {
		for _, live := range majorities(len(lengths)) {
			got := impl.CommitLeader(lengths, live)
			if !slices.Contains(live, got) {
				t.Fatalf("CommitLeader(%v, %v) = %d", lengths, live, got)
			}
			for _, i := range live {
				if lengths[i] > lengths[got] || i < got && lengths[i] == lengths[got] {
					t.Errorf("CommitLeader(%v, %v) = %d, not %d", lengths, live, got, i)
				}
			}
		}
	}
}

// TestP25 checks that after CommitRepair, CommitIndex is not less than before, and is the number of entries of the leader.
func TestP25(t *testing.T) {
	for _, lengths := range lengthLists() {
		before := impl.CommitIndex(lengths)
		for _, live := range majorities(len(lengths)) {
			repaired, ok := impl.CommitRepair(lengths, live)
			after := impl.CommitIndex(repaired)
			if !ok || after < before || after != lengths[wantedLeader(lengths, live)] {
				t.Errorf("CommitRepair(%v, %v) = %v, %v: CommitIndex was %d, is %d", lengths, live, repaired, ok, before, after)
			}
		}
	}
}

// TestP26 checks that CommitRepair changes just the live copies, to the length of the leader, and nothing the second time.
func TestP26(t *testing.T) {
	for _, lengths := range lengthLists() {
		for _, live := range majorities(len(lengths)) {
			repaired, ok := impl.CommitRepair(lengths, live)
			if !ok || len(repaired) != len(lengths) {
				t.Fatalf("CommitRepair(%v, %v) = %v, %v", lengths, live, repaired, ok)
			}
			most := lengths[impl.CommitLeader(lengths, live)]
			for i, length := range repaired {
				isLive := slices.Contains(live, i)
				if isLive && length != most || !isLive && length != lengths[i] {
					t.Errorf("CommitRepair(%v, %v) = %v", lengths, live, repaired)
				}
			}
			checkRepair(t, repaired, live, repaired)
		}
	}
}

// raise returns the lengths after some copies that lack entries have got them: the first ones, or the last ones.
func raise(lengths []int, length int, copies int, last bool) []int {
	raised := slices.Clone(lengths)
	for i := range raised {
		if last {
			i = len(raised) - 1 - i
		}
		if copies > 0 && raised[i] < length {
			raised[i] = length
			copies--
		}
	}
	return raised
}

// TestP27 checks that CommitNeeded is 0 up to CommitIndex, and otherwise as many copies as are enough, whereas one less is not.
func TestP27(t *testing.T) {
	for _, lengths := range lengthLists() {
		index := impl.CommitIndex(lengths)
		for _, length := range append(slices.Concat(someLengths, lengths), index, min(index+1, impl.MaxLength)) {
			needed := impl.CommitNeeded(lengths, length)
			if needed < 0 || (needed == 0) != (length <= index) {
				t.Errorf("CommitNeeded(%v, %d) = %d, CommitIndex is %d", lengths, length, needed, index)
			}
			for _, last := range []bool{false, true} {
				if enough := raise(lengths, length, needed, last); impl.CommitIndex(enough) < length {
					t.Errorf("CommitNeeded(%v, %d) = %d, not enough as %v tells", lengths, length, needed, enough)
				}
				fewer := raise(lengths, length, needed-1, last)
				if needed > 0 && impl.CommitIndex(fewer) >= length {
					t.Errorf("CommitNeeded(%v, %d) = %d, too many as %v tells", lengths, length, needed, fewer)
				}
			}
		}
	}
}

// TestP28 checks that one more entry of any copy increases CommitIndex by one or not at all, and that it does so if it must.
func TestP28(t *testing.T) {
	for _, lengths := range lengthLists() {
		before := impl.CommitIndex(lengths)
		for i, length := range lengths {
			if length == impl.MaxLength {
				continue
			}
			more := slices.Clone(lengths)
			more[i]++
			if after := impl.CommitIndex(more); after != before && after != before+1 {
				t.Errorf("CommitIndex(%v) = %d, but %d of %v", lengths, before, after, more)
			}
		}
	}
	checkIndex(t, []int{5, 3, 3, 1}, 3)
	checkIndex(t, []int{5, 4, 3, 1}, 3)
	checkIndex(t, []int{5, 4, 4, 1}, 4)
}

// TestP29 checks that CommitIndex and CommitNeeded are the same in reverse order, also of what is invalid.
func TestP29(t *testing.T) {
	for _, lengths := range append(lengthLists(), badLengths()...) {
		reversed := slices.Clone(lengths)
		slices.Reverse(reversed)
		checkIndex(t, reversed, impl.CommitIndex(lengths))
		for _, length := range slices.Concat(someLengths, lengths, []int{-1, 100}) {
			checkNeeded(t, reversed, length, impl.CommitNeeded(lengths, length))
		}
	}
}

// TestCommitRepairMemory checks that CommitRepair leaves its arguments, and what is behind them, and returns memory of its own.
func TestCommitRepairMemory(t *testing.T) {
	check := func(x, y []int) {
		lengths, live := spare(x), spare(y)
		beforeLengths, beforeLive := whole(lengths), whole(live)
		first, ok := impl.CommitRepair(lengths, live)
		second, secondOk := impl.CommitRepair(lengths, live)
		text := whole(second)
		overwrite(first)
		if whole(lengths) != beforeLengths || whole(live) != beforeLive || whole(second) != text || ok != secondOk {
			t.Errorf("CommitRepair(%v, %v): memory of an argument or of another result was changed", x, y)
		}
		overwrite(lengths)
		overwrite(live)
		if whole(second) != text {
			t.Errorf("CommitRepair(%v, %v): the result shares memory with an argument", x, y)
		}
	}
	for n := 1; n <= impl.MaxCopies; n++ {
		for _, lengths := range [][]int{slices.Repeat([]int{5}, n), {9, 3, 5, 9, 0, 99, 1}, {1, 2, 3, 4, 5, 6, 7}} {
			for set := range 1 << n {
				check(lengths[:n], copiesOf(set, n))
			}
		}
	}
	for _, bad := range badLengths() {
		check(bad, []int{0})
		check(bad, []int{0, 1, 2, 3})
	}
}

// TestCommitMemory checks that the functions that return a number leave their arguments, and what is behind them, as they are.
func TestCommitMemory(t *testing.T) {
	for _, x := range append(lengthLists(), badLengths()...) {
		lengths, live := spare(x), spare([]int{0, 1, 2, 3})
		beforeLengths, beforeLive := whole(lengths), whole(live)
		impl.CommitIndex(lengths)
		impl.CommitLeader(lengths, live)
		impl.CommitNeeded(lengths, 5)
		if whole(lengths) != beforeLengths || whole(live) != beforeLive {
			t.Errorf("an argument was changed: %v", x)
		}
	}
}

// TestCommitNil checks that a nil slice, as an argument, is an empty one.
func TestCommitNil(t *testing.T) {
	for _, none := range [][]int{nil, {}} {
		checkIndex(t, none, -1)
		checkNeeded(t, none, 0, -1)
		checkNoLeader(t, none, []int{0})
		for _, live := range [][]int{nil, {}} {
			checkNoLeader(t, none, live)
			checkNoLeader(t, []int{5}, live)
			checkNoLeader(t, []int{5, 3, 1}, live)
		}
	}
}
