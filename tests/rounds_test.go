package tests

import (
	"fmt"
	"math/rand/v2"
	"slices"
	"sync"
	"testing"

	"loop.example/groupmulticast/impl"
)

// stamp returns a stamp.
func stamp(time, group int) impl.Stamp {
	return impl.Stamp{Time: time, Group: group}
}

// roundOf returns a round with these stamps.
func roundOf(message int, groups []int, got ...impl.Stamp) impl.Round {
	return impl.Round{Message: message, Groups: groups, Got: got}
}

// withGot returns a round with other stamps.
func withGot(r impl.Round, got []impl.Stamp) impl.Round {
	return impl.Round{Message: r.Message, Groups: r.Groups, Got: got}
}

// sameRound reports whether two rounds are equal; a nil list is an empty one.
func sameRound(a, b impl.Round) bool {
	return a.Message == b.Message && slices.Equal(a.Groups, b.Groups) && slices.Equal(a.Got, b.Got)
}

// stampOf returns the index of the stamp of a group in a list, or -1.
func stampOf(list []impl.Stamp, group int) int {
	return slices.IndexFunc(list, func(s impl.Stamp) bool { return s.Group == group })
}

// isSet reports whether a list is one of all sets of groups.
func isSet(list []int) bool {
	return slices.ContainsFunc(allSets(), func(set []int) bool { return slices.Equal(set, list) })
}

// wantedRoundValid returns what the document says of RoundValid, one condition after the other.
func wantedRoundValid(r impl.Round) bool {
	if r.Message < 0 || r.Message > 11 || !isSet(r.Groups) {
		return false
	}
	for i, s := range r.Got {
		if s.Time < 1 || s.Time > 999 || s.Group < 0 || s.Group > 4 || !slices.Contains(r.Groups, s.Group) {
			return false
		}
		if i > 0 && r.Got[i-1].Group >= s.Group {
			return false
		}
	}
	return true
}

// wantedAdd returns what the document says of RoundAdd of a valid round and stamp.
func wantedAdd(r impl.Round, s impl.Stamp) (impl.Round, bool) {
	if !slices.Contains(r.Groups, s.Group) || stampOf(r.Got, s.Group) >= 0 {
		return r, false
	}
	got := append(slices.Clone(r.Got), s)
	slices.SortFunc(got, func(a, b impl.Stamp) int { return a.Group - b.Group })
	return withGot(r, got), true
}

// wantedMissing returns what the document says of RoundMissing of a valid round.
func wantedMissing(r impl.Round) []int {
	return slices.DeleteFunc(slices.Clone(r.Groups), func(group int) bool { return stampOf(r.Got, group) >= 0 })
}

// wantedGreatest returns what the document says of RoundFinal of a valid round.
func wantedGreatest(r impl.Round) (impl.Stamp, bool) {
	if len(r.Got) < len(r.Groups) {
		return impl.Stamp{}, false
	}
	return slices.MaxFunc(r.Got, func(a, b impl.Stamp) int { return place(a) - place(b) }), true
}

// timings returns ways to choose the time of the stamp of a group: the same, ascending or descending by groups, at the limits, and any.
func timings() []func(group int) int {
	r := rand.New(rand.NewPCG(17, 18))
	list := []func(group int) int{
		func(group int) int { return 20 + group },
		func(group int) int { return 20 - group },
		func(group int) int { return []int{1, 999}[group%2] },
		func(group int) int { return []int{999, 1}[group%2] },
		func(group int) int { return 500 + r.IntN(2) },
		func(group int) int { return 1 + r.IntN(impl.MaxTime) },
	}
	for _, time := range []int{1, 500, 999} {
		list = append(list, func(int) int { return time })
	}
	return list
}

// validRounds are valid rounds, always the same: of all sets of groups, with stamps of each part of them and with all timings; all messages occur.
var validRounds = sync.OnceValue(func() []impl.Round {
	rounds := []impl.Round{}
	for _, set := range allSets() {
		for bits := range 1 << impl.MaxGroups {
			if !within(groupsOf(bits), set) {
				continue
			}
			for _, time := range timings() {
				got := []impl.Stamp{}
				for _, group := range groupsOf(bits) {
					got = append(got, stamp(time(group), group))
				}
				rounds = append(rounds, roundOf(len(rounds)%impl.MaxMessages, set, got...))
			}
		}
	}
	return rounds
})

// stampsFor returns stamps of all groups with the times of a round, those beside them, and the limits.
func stampsFor(r impl.Round) []impl.Stamp {
	times := []int{1, 2, 500, 998, 999}
	for _, s := range r.Got {
		times = append(times, max(s.Time-1, 1), s.Time, min(s.Time+1, impl.MaxTime))
	}
	slices.Sort(times)
	list := []impl.Stamp{}
	for _, time := range slices.Compact(times) {
		for group := range impl.MaxGroups {
			list = append(list, stamp(time, group))
		}
	}
	return list
}

// everyAdd calls f for valid rounds with stamps of all groups.
func everyAdd(f func(r impl.Round, s impl.Stamp)) {
	for _, r := range validRounds() {
		for _, s := range stampsFor(r) {
			f(r, s)
		}
	}
}

// fullRound returns a valid round of a set with all stamps, of equal times.
func fullRound(message int, set []int, time int) impl.Round {
	r := roundOf(message, set)
	for _, group := range set {
		r.Got = append(r.Got, stamp(time, group))
	}
	return r
}

// checkNew checks the results of RoundNew.
func checkNew(t *testing.T, message int, groups []int, want impl.Round, wantOk bool) {
	t.Helper()
	if r, ok := impl.RoundNew(message, groups); !sameRound(r, want) || ok != wantOk {
		t.Errorf("RoundNew(%d, %v) = %v, %v, not %v, %v", message, groups, r, ok, want, wantOk)
	}
}

// checkAdd checks the results of RoundAdd.
func checkAdd(t *testing.T, r impl.Round, s impl.Stamp, want impl.Round, wantOk bool) {
	t.Helper()
	if got, ok := impl.RoundAdd(r, s); !sameRound(got, want) || ok != wantOk {
		t.Errorf("RoundAdd(%v, %v) = %v, %v, not %v, %v", r, s, got, ok, want, wantOk)
	}
}

// checkNotAdded checks that RoundAdd returns an unchanged round.
func checkNotAdded(t *testing.T, r impl.Round, s impl.Stamp) {
	t.Helper()
	checkAdd(t, r, s, r, false)
}

// checkMissing checks the result of RoundMissing.
func checkMissing(t *testing.T, r impl.Round, want ...int) {
	t.Helper()
	if got := impl.RoundMissing(r); !slices.Equal(got, want) {
		t.Errorf("RoundMissing(%v) = %v, not %v", r, got, want)
	}
}

// checkGreatest checks the results of RoundFinal.
func checkGreatest(t *testing.T, r impl.Round, want impl.Stamp, wantOk bool) {
	t.Helper()
	if got, ok := impl.RoundFinal(r); got != want || ok != wantOk {
		t.Errorf("RoundFinal(%v) = %v, %v, not %v, %v", r, got, ok, want, wantOk)
	}
}

// checkIsRound checks what the functions say of a valid round.
func checkIsRound(t *testing.T, r impl.Round) {
	t.Helper()
	if !impl.RoundValid(r) {
		t.Errorf("RoundValid(%v) = false", r)
	}
	checkMissing(t, r, wantedMissing(r)...)
	want, wantOk := wantedGreatest(r)
	checkGreatest(t, r, want, wantOk)
}

// checkNoRound checks that all functions refuse a round, whatever the stamp is, with zero values.
func checkNoRound(t *testing.T, r impl.Round) {
	t.Helper()
	if impl.RoundValid(r) {
		t.Errorf("RoundValid(%v) = true", r)
	}
	checkMissing(t, r)
	checkGreatest(t, r, impl.Stamp{}, false)
	for _, s := range []impl.Stamp{{Time: 7}, {Time: 8, Group: 1}, {Time: 1, Group: 2}, {Time: 999, Group: 3}, {Time: 20, Group: 4}, {}, {Time: 1000, Group: 2}, {Time: 5, Group: -1}, {Time: 5, Group: 5}} {
		checkAdd(t, r, s, impl.Round{}, false)
	}
}

func TestRoundsExamples(t *testing.T) {
	r, ok := impl.RoundNew(3, []int{0, 2, 4})
	if !ok || !sameRound(r, roundOf(3, []int{0, 2, 4})) {
		t.Fatalf("RoundNew returned %v, %v", r, ok)
	}
	checkMissing(t, r, 0, 2, 4)
	for _, s := range []impl.Stamp{stamp(6, 4), stamp(9, 0), stamp(9, 2)} {
		checkNotAdded(t, r, stamp(50, 1))
		checkNotAdded(t, r, stamp(50, 3))
		checkGreatest(t, r, impl.Stamp{}, false)
		if r, ok = impl.RoundAdd(r, s); !ok || !impl.RoundValid(r) {
			t.Fatalf("RoundAdd of %v returned %v, %v", s, r, ok)
		}
	}
	if !sameRound(r, roundOf(3, []int{0, 2, 4}, stamp(9, 0), stamp(9, 2), stamp(6, 4))) {
		t.Errorf("the round is %v", r)
	}
	checkMissing(t, r)
	checkGreatest(t, r, stamp(9, 2), true)
	for group := range impl.MaxGroups {
		checkNotAdded(t, r, stamp(50, group))
	}
}

// TestRoundNewMessages checks RoundNew of all messages with all sets.
func TestRoundNewMessages(t *testing.T) {
	for message := range impl.MaxMessages {
		for _, set := range allSets() {
			checkNew(t, message, set, roundOf(message, set), true)
		}
	}
}

// TestRoundNewInvalid checks RoundNew of what is no message, of what is no set, and of both.
func TestRoundNewInvalid(t *testing.T) {
	for _, message := range noMessages {
		for _, list := range append(allSets(), notSets()...) {
			checkNew(t, message, list, impl.Round{}, false)
		}
	}
	for _, list := range notSets() {
		for message := range impl.MaxMessages {
			checkNew(t, message, list, impl.Round{}, false)
		}
	}
}

// unnamed returns the groups that are not in a set.
func unnamed(set []int) []int {
	return slices.DeleteFunc(groupsOf(31), func(group int) bool { return slices.Contains(set, group) })
}

// TestRoundUnnamed checks groups that are not named, with no stamps there, with some and with all: they are neither added, nor missing, nor decide.
func TestRoundUnnamed(t *testing.T) {
	for _, r := range validRounds() {
		for _, group := range unnamed(r.Groups) {
			for _, time := range someTimes {
				checkNotAdded(t, r, stamp(time, group))
			}
			if missing := impl.RoundMissing(r); slices.Contains(missing, group) {
				t.Errorf("RoundMissing(%v) = %v", r, missing)
			}
			if s, ok := impl.RoundFinal(r); ok && s.Group == group {
				t.Errorf("RoundFinal(%v) = %v", r, s)
			}
		}
		want, wantOk := wantedGreatest(r)
		checkGreatest(t, r, want, wantOk)
	}
}

// TestRoundUnnamedExamples checks a set in the middle of which, and on both sides of which, groups are not named.
func TestRoundUnnamedExamples(t *testing.T) {
	set := []int{1, 3}
	for _, group := range []int{0, 2, 4} {
		none, all := roundOf(6, set), roundOf(6, set, stamp(5, 1), stamp(4, 3))
		for _, r := range []impl.Round{none, roundOf(6, set, stamp(5, 1)), roundOf(6, set, stamp(4, 3)), all} {
			checkNotAdded(t, r, stamp(9, group))
			checkNotAdded(t, r, stamp(1, group))
			checkIsRound(t, r)
		}
		checkMissing(t, none, 1, 3)
		checkMissing(t, roundOf(6, set, stamp(5, 1)), 3)
		checkMissing(t, roundOf(6, set, stamp(4, 3)), 1)
		checkMissing(t, all)
		checkGreatest(t, all, stamp(5, 1), true)
		// Also if there are as many stamps as groups then.
		checkNoRound(t, roundOf(6, set, stamp(9, group)))
		checkNoRound(t, roundOf(6, set, stamp(9, min(group, 1)), stamp(9, max(group, 1))))
		checkNoRound(t, roundOf(6, []int{group}, stamp(9, 3)))
	}
}

// TestRoundGotUnnamed puts a stamp of a group that is not named at its place among stamps of a valid round, and in place of one: nothing but this is wrong.
func TestRoundGotUnnamed(t *testing.T) {
	for _, r := range validRounds() {
		for _, group := range unnamed(r.Groups) {
			at := len(slices.DeleteFunc(slices.Clone(r.Got), func(s impl.Stamp) bool { return s.Group > group }))
			for _, time := range []int{1, 500, 999} {
				checkNoRound(t, withGot(r, slices.Insert(slices.Clone(r.Got), at, stamp(time, group))))
			}
			if at > 0 {
				checkNoRound(t, withGot(r, slices.Replace(slices.Clone(r.Got), at-1, at, stamp(500, group))))
			}
		}
	}
}

// TestRoundAddAnyOrder adds the stamps of all sets in all orders.
func TestRoundAddAnyOrder(t *testing.T) {
	for _, set := range allSets() {
		for _, time := range timings() {
			full := roundOf(7, set)
			for _, group := range set {
				full.Got = append(full.Got, stamp(time(group), group))
			}
			permutations(len(set), func(order []int) {
				r := roundOf(7, set)
				for _, i := range order {
					want, _ := wantedAdd(r, full.Got[i])
					checkAdd(t, r, full.Got[i], want, true)
					r, _ = impl.RoundAdd(r, full.Got[i])
					checkIsRound(t, r)
				}
				if !sameRound(r, full) {
					t.Errorf("in the order %v, the stamps lead to %v, not %v", order, r, full)
				}
			})
		}
	}
}

// TestRoundAddPlaces adds the stamp of the first, a middle and the last group to a round with all others.
func TestRoundAddPlaces(t *testing.T) {
	for _, set := range allSets() {
		full := fullRound(2, set, 8)
		for i := range set {
			for _, time := range []int{1, 7, 8, 9, 999} {
				s := stamp(time, set[i])
				want := slices.Clone(full.Got)
				want[i] = s
				checkAdd(t, withGot(full, slices.Delete(slices.Clone(full.Got), i, i+1)), s, withGot(full, want), true)
				checkAdd(t, roundOf(2, set), s, roundOf(2, set, s), true)
			}
		}
	}
}

// TestRoundAddSecond adds a second stamp of a group, equal to the first one and another, with stamps of other groups there and without.
func TestRoundAddSecond(t *testing.T) {
	for _, set := range allSets() {
		full := fullRound(9, set, 8)
		for i, group := range set {
			for _, r := range []impl.Round{full, withGot(full, full.Got[i:i+1]), withGot(full, full.Got[i:]), withGot(full, full.Got[:i+1])} {
				for _, time := range []int{1, 7, 8, 9, 999} {
					checkNotAdded(t, r, stamp(time, group))
				}
			}
		}
	}
}

// TestRoundAddInvalidStamp checks that an invalid stamp gives the zero value, also one of a group that is not named, or of which there is a stamp.
func TestRoundAddInvalidStamp(t *testing.T) {
	for _, r := range validRounds() {
		for _, s := range []impl.Stamp{{Group: 0}, {Group: 2}, {Group: 4}, {Time: 1000}, {Time: 1000, Group: 2}, {Time: 1000, Group: 4}, {Time: -1, Group: 1}, {Time: 5, Group: -1}, {Time: 5, Group: 5}} {
			checkAdd(t, r, s, impl.Round{}, false)
		}
	}
	for _, r := range []impl.Round{roundOf(4, []int{1, 3}), roundOf(4, []int{1, 3}, stamp(6, 3)), roundOf(4, []int{0, 1, 2, 3, 4}), fullRound(4, []int{0, 4}, 3), fullRound(4, groupsOf(31), 999)} {
		for _, s := range badStamps() {
			checkAdd(t, r, s, impl.Round{}, false)
		}
	}
}

// TestRoundAddInvalidRound checks that an invalid round gives the zero value with every stamp: one that would be added otherwise, one of a group that is not named, and a second one.
func TestRoundAddInvalidRound(t *testing.T) {
	bad := []impl.Round{
		roundOf(-1, []int{1, 3}, stamp(6, 3)), roundOf(12, []int{1, 3}, stamp(6, 3)),
		roundOf(4, []int{3, 1}), roundOf(4, []int{1, 1, 3}), roundOf(4, []int{1, 5}), roundOf(4, nil), roundOf(4, []int{}),
		roundOf(4, []int{1, 3}, stamp(0, 3)), roundOf(4, []int{1, 3}, stamp(1000, 3)), roundOf(4, []int{1, 3}, stamp(6, 2)),
		roundOf(4, []int{1, 3}, stamp(6, 3), stamp(6, 3)), roundOf(4, []int{1, 3}, stamp(6, 3), stamp(6, 1)),
	}
	for _, r := range bad {
		checkNoRound(t, r)
		for _, s := range append(someStamps(), badStamps()...) {
			checkAdd(t, r, s, impl.Round{}, false)
		}
	}
}

// TestRoundValidMessage changes nothing but the message of valid rounds.
func TestRoundValidMessage(t *testing.T) {
	for _, r := range validRounds() {
		for message := range impl.MaxMessages {
			if !impl.RoundValid(roundOf(message, r.Groups, r.Got...)) {
				t.Errorf("RoundValid(%v) = false with message %d", r, message)
			}
		}
		for _, message := range noMessages {
			checkNoRound(t, roundOf(message, r.Groups, r.Got...))
		}
	}
}

// TestRoundValidGroups has lists that are no sets of groups: without stamps, and with those of all groups that they name.
func TestRoundValidGroups(t *testing.T) {
	for _, list := range notSets() {
		checkNoRound(t, roundOf(5, list))
		named := slices.DeleteFunc(groupsOf(31), func(group int) bool { return !slices.Contains(list, group) })
		r := fullRound(5, named, 7)
		r.Groups = list
		checkNoRound(t, r)
	}
	for _, r := range validRounds() {
		descending := slices.Clone(r.Groups)
		slices.Reverse(descending)
		if len(descending) > 1 {
			checkNoRound(t, roundOf(r.Message, descending, r.Got...))
		}
		for _, group := range r.Groups {
			checkNoRound(t, roundOf(r.Message, append(slices.Clone(r.Groups), group), r.Got...))
		}
		for i := range r.Groups {
			checkNoRound(t, roundOf(r.Message, slices.Insert(slices.Clone(r.Groups), i, r.Groups[i]), r.Got...))
		}
	}
	checkNoRound(t, impl.Round{})
}

// TestRoundValidStamp makes one stamp of valid rounds invalid, at every place.
func TestRoundValidStamp(t *testing.T) {
	for _, r := range validRounds() {
		for i := range r.Got {
			for _, time := range noTimes {
				got := slices.Clone(r.Got)
				got[i].Time = time
				checkNoRound(t, withGot(r, got))
			}
		}
		// Negative groups stand first and others last, as they would if they existed.
		for _, group := range noGroups {
			if group < 0 {
				checkNoRound(t, withGot(r, slices.Insert(slices.Clone(r.Got), 0, stamp(7, group))))
			} else {
				checkNoRound(t, withGot(r, append(slices.Clone(r.Got), stamp(7, group))))
			}
		}
		for i := range r.Got {
			got := slices.Clone(r.Got)
			got[i].Group += impl.MaxGroups
			checkNoRound(t, withGot(r, got))
		}
	}
}

// TestRoundValidTwice has two stamps of a group, equal ones and others, at all places.
func TestRoundValidTwice(t *testing.T) {
	for _, r := range validRounds() {
		for _, s := range r.Got {
			for at := range len(r.Got) + 1 {
				for _, time := range []int{1, s.Time, 999} {
					checkNoRound(t, withGot(r, slices.Insert(slices.Clone(r.Got), at, stamp(time, s.Group))))
				}
			}
		}
	}
	for _, n := range []int{2, 5, 6, 12, 13, 100} {
		checkNoRound(t, roundOf(0, []int{3}, slices.Repeat([]impl.Stamp{stamp(6, 3)}, n)...))
		checkNoRound(t, roundOf(0, groupsOf(31), slices.Repeat(fullRound(0, groupsOf(31), 6).Got, n)...))
	}
}

// TestRoundValidOrder has stamps in every other order than ascending by group, also if their times ascend then.
func TestRoundValidOrder(t *testing.T) {
	for _, set := range allSets() {
		permutations(len(set), func(order []int) {
			same, ascending := roundOf(1, set), roundOf(1, set)
			for i, at := range order {
				same.Got = append(same.Got, stamp(30, set[at]))
				ascending.Got = append(ascending.Got, stamp(31+i, set[at]))
			}
			if slices.IsSorted(order) {
				checkIsRound(t, same)
				checkIsRound(t, ascending)
			} else {
				checkNoRound(t, same)
				checkNoRound(t, ascending)
			}
		})
	}
}

// TestRoundValidGot checks stamps that are nil, empty, partly and wholly there, for all sets.
func TestRoundValidGot(t *testing.T) {
	for _, set := range allSets() {
		full := fullRound(11, set, 40)
		checkIsRound(t, withGot(full, nil))
		checkIsRound(t, withGot(full, []impl.Stamp{}))
		checkIsRound(t, withGot(full, make([]impl.Stamp, 0, 3)))
		for i := range full.Got {
			checkIsRound(t, withGot(full, full.Got[:i]))
			checkIsRound(t, withGot(full, full.Got[i:]))
		}
	}
	for _, r := range validRounds() {
		checkIsRound(t, r)
	}
}

// TestRoundIsAsSaid compares all functions with what the document says, for stamps of all short lists of numbers as groups.
func TestRoundIsAsSaid(t *testing.T) {
	sets := append(allSets(), nil, []int{3, 1}, []int{2, 2}, []int{-1, 2}, []int{3, 5})
	for n := range 4 {
		for i, groups := range tuples([]int{-1, 0, 1, 2, 3, 4, 5}, n) {
			got := []impl.Stamp{}
			for k, group := range groups {
				got = append(got, stamp([]int{4, 5, 3, 4}[(i+k)%4], group))
			}
			for _, set := range sets {
				r := roundOf(i%impl.MaxMessages, set, got...)
				if wantedRoundValid(r) {
					checkIsRound(t, r)
				} else {
					checkNoRound(t, r)
				}
			}
		}
	}
	everyAdd(func(r impl.Round, s impl.Stamp) {
		want, wantOk := wantedAdd(r, s)
		checkAdd(t, r, s, want, wantOk)
	})
}

// TestRoundMissingExamples checks rounds without stamps, with some and with all of them.
func TestRoundMissingExamples(t *testing.T) {
	all := groupsOf(31)
	checkMissing(t, roundOf(0, all), 0, 1, 2, 3, 4)
	checkMissing(t, roundOf(0, all, stamp(1, 0)), 1, 2, 3, 4)
	checkMissing(t, roundOf(0, all, stamp(1, 4)), 0, 1, 2, 3)
	checkMissing(t, roundOf(0, all, stamp(1, 1), stamp(9, 3)), 0, 2, 4)
	checkMissing(t, roundOf(0, all, stamp(1, 0), stamp(1, 1), stamp(1, 3), stamp(1, 4)), 2)
	checkMissing(t, fullRound(0, all, 1))
	for group := range impl.MaxGroups {
		checkMissing(t, roundOf(0, []int{group}), group)
		checkMissing(t, roundOf(0, []int{group}, stamp(999, group)))
	}
}

// TestRoundFinalExamples checks rounds with a missing stamp, with stamps of the same time, and with one group only.
func TestRoundFinalExamples(t *testing.T) {
	for _, set := range allSets() {
		last := set[len(set)-1]
		for _, time := range []int{1, 500, 999} {
			full := fullRound(10, set, time)
			checkGreatest(t, full, stamp(time, last), true)
			for i := range set {
				checkGreatest(t, withGot(full, slices.Delete(slices.Clone(full.Got), i, i+1)), impl.Stamp{}, false)
			}
			checkGreatest(t, withGot(full, nil), impl.Stamp{}, false)
		}
		// Each group has the greatest stamp once, whatever its number is.
		for i := range set {
			full := fullRound(10, set, 50)
			full.Got[i].Time = 51
			checkGreatest(t, full, full.Got[i], true)
		}
	}
	for group := range impl.MaxGroups {
		for _, time := range someTimes {
			checkGreatest(t, roundOf(0, []int{group}, stamp(time, group)), stamp(time, group), true)
		}
	}
	checkGreatest(t, roundOf(0, []int{0, 1, 3, 4}, stamp(7, 0), stamp(9, 1), stamp(9, 3), stamp(8, 4)), stamp(9, 3), true)
}

// TestP56 checks that a new round is valid, and all groups are missing.
func TestP56(t *testing.T) {
	for message := range impl.MaxMessages {
		for _, set := range allSets() {
			r, ok := impl.RoundNew(message, set)
			if !ok || !impl.RoundValid(r) || r.Message != message || !slices.Equal(r.Groups, set) || len(r.Got) != 0 {
				t.Errorf("RoundNew(%d, %v) = %v, %v", message, set, r, ok)
			}
			checkMissing(t, r, set...)
			checkGreatest(t, r, impl.Stamp{}, false)
		}
	}
}

// TestP57 checks that a group is not missing after RoundAdd, and that another stamp of it, or the same, changes nothing.
func TestP57(t *testing.T) {
	everyAdd(func(r impl.Round, s impl.Stamp) {
		after, ok := impl.RoundAdd(r, s)
		if !ok {
			return
		}
		if !impl.RoundValid(after) || slices.Contains(impl.RoundMissing(after), s.Group) || !slices.Contains(after.Got, s) {
			t.Errorf("RoundAdd(%v, %v) = %v", r, s, after)
		}
		for _, time := range []int{1, max(s.Time-1, 1), s.Time, min(s.Time+1, 999), 999} {
			checkNotAdded(t, after, stamp(time, s.Group))
		}
	})
}

// TestP58 checks that RoundAdd succeeds if and only if the group is missing, and that nothing changes otherwise.
func TestP58(t *testing.T) {
	everyAdd(func(r impl.Round, s impl.Stamp) {
		after, ok := impl.RoundAdd(r, s)
		if ok != slices.Contains(impl.RoundMissing(r), s.Group) || ok == sameRound(after, r) {
			t.Errorf("RoundAdd(%v, %v) = %v, %v", r, s, after, ok)
		}
		rest := slices.DeleteFunc(slices.Clone(after.Got), func(x impl.Stamp) bool { return ok && x == s })
		if !sameRound(withGot(after, rest), r) {
			t.Errorf("RoundAdd(%v, %v) = %v changes other stamps", r, s, after)
		}
	})
}

// addBoth adds two stamps, and returns the round and both outcomes.
func addBoth(r impl.Round, a, b impl.Stamp) (impl.Round, bool, bool) {
	r, first := impl.RoundAdd(r, a)
	r, second := impl.RoundAdd(r, b)
	return r, first, second
}

// TestP59 checks that two stamps of different groups give the same round in either order, also if one is not added.
func TestP59(t *testing.T) {
	for _, r := range validRounds() {
		for _, a := range []impl.Stamp{{Time: 3}, {Time: 3, Group: 1}, {Time: 3, Group: 2}, {Time: 3, Group: 3}, {Time: 3, Group: 4}} {
			for group := range impl.MaxGroups {
				for _, b := range []impl.Stamp{{Time: 2, Group: group}, {Time: 3, Group: group}, {Time: 4, Group: group}} {
					one, okA, okB := addBoth(r, a, b)
					other, otherB, otherA := addBoth(r, b, a)
					if a.Group != b.Group && (!sameRound(one, other) || okA != otherA || okB != otherB) {
						t.Errorf("%v and %v lead from %v to %v or %v", a, b, r, one, other)
					}
				}
			}
		}
	}
}

// TestP60 checks that RoundMissing has exactly the named groups without a stamp, ascending.
func TestP60(t *testing.T) {
	for _, r := range validRounds() {
		missing := impl.RoundMissing(r)
		if !slices.IsSorted(missing) || len(missing)+len(r.Got) != len(r.Groups) {
			t.Errorf("RoundMissing(%v) = %v", r, missing)
		}
		for group := range impl.MaxGroups {
			want := slices.Contains(r.Groups, group) && stampOf(r.Got, group) < 0
			if slices.Contains(missing, group) != want {
				t.Errorf("RoundMissing(%v) = %v", r, missing)
			}
		}
	}
}

// TestP61 checks that RoundFinal succeeds if and only if no group is missing, and is StampMax then.
func TestP61(t *testing.T) {
	for _, r := range validRounds() {
		s, ok := impl.RoundFinal(r)
		if ok != (len(impl.RoundMissing(r)) == 0) {
			t.Errorf("RoundFinal(%v) = %v, %v", r, s, ok)
		}
		want := impl.Stamp{}
		if ok {
			want, _ = impl.StampMax(r.Got)
		}
		if s != want {
			t.Errorf("RoundFinal(%v) = %v, not %v", r, s, want)
		}
	}
}

// TestP62 checks that the final stamp is one of the stamps, and not less than any.
func TestP62(t *testing.T) {
	complete := 0
	for _, r := range validRounds() {
		s, ok := impl.RoundFinal(r)
		if !ok {
			continue
		}
		complete++
		if !slices.Contains(r.Got, s) || slices.ContainsFunc(r.Got, func(x impl.Stamp) bool { return impl.StampLess(s, x) }) {
			t.Errorf("RoundFinal(%v) = %v", r, s)
		}
	}
	if complete != len(allSets())*len(timings()) {
		t.Errorf("%d rounds have a final stamp", complete)
	}
}

// TestP63 adds stamps of all missing groups, ascending and descending: then there is a final stamp, of a named group.
func TestP63(t *testing.T) {
	for _, r := range validRounds() {
		for _, time := range timings() {
			for _, descending := range []bool{false, true} {
				missing := impl.RoundMissing(r)
				if descending {
					slices.Reverse(missing)
				}
				full, ok := r, true
				for _, group := range missing {
					if full, ok = impl.RoundAdd(full, stamp(time(group), group)); !ok {
						t.Errorf("RoundAdd of group %d to %v failed", group, r)
					}
				}
				want, _ := wantedGreatest(full)
				if s, ok := impl.RoundFinal(full); !ok || !slices.Contains(r.Groups, s.Group) || s != want {
					t.Errorf("RoundFinal(%v) = %v, %v", full, s, ok)
				}
			}
		}
	}
}

// spareStamps returns a copy with space behind it, which a function that appends to its argument would overwrite.
func spareStamps(list []impl.Stamp) []impl.Stamp {
	return append(slices.Clone(list), slices.Repeat([]impl.Stamp{stamp(77, 77)}, 6)...)[:len(list)]
}

// wholeRound returns what is in the memory of a round, as text.
func wholeRound(r impl.Round) string {
	return fmt.Sprint(r.Message, whole(r.Groups), len(r.Groups), r.Got[:cap(r.Got)], len(r.Got))
}

// overwriteStamps fills all the memory of a list.
func overwriteStamps(list []impl.Stamp) {
	list = list[:cap(list)]
	for i := range list {
		list[i] = stamp(99, 99)
	}
}

// overwriteRound fills all the memory of both lists of a round.
func overwriteRound(r impl.Round) {
	overwrite(r.Groups)
	overwriteStamps(r.Got)
}

// checkRoundMemory checks that f leaves its argument, and what is behind it, and that its result shares memory neither with another one nor with the argument.
func checkRoundMemory(t *testing.T, r impl.Round, f func(r impl.Round) impl.Round) {
	t.Helper()
	argument := impl.Round{Message: r.Message, Groups: spare(r.Groups), Got: spareStamps(r.Got)}
	before := wholeRound(argument)
	first := f(argument)
	result := f(argument)
	want := wholeRound(result)
	overwriteRound(first)
	if wholeRound(argument) != before {
		t.Fatalf("an argument was changed: %v", r)
	}
	if wholeRound(result) != want {
		t.Fatalf("the results of two calls share memory: %v", r)
	}
	overwriteRound(argument)
	if wholeRound(result) != want {
		t.Fatalf("a result shares memory with the argument: %v", r)
	}
}

// TestRoundMemory checks the memory of all functions, for valid rounds and for invalid ones.
func TestRoundMemory(t *testing.T) {
	rounds := append(slices.Clone(validRounds()), impl.Round{}, roundOf(12, []int{1, 3}, stamp(6, 3)), roundOf(4, []int{3, 1}, stamp(6, 3)), roundOf(4, []int{1, 3}, stamp(6, 2)), roundOf(4, []int{1, 3}, stamp(6, 3), stamp(5, 1)))
	for _, r := range rounds {
		for _, s := range []impl.Stamp{{Time: 6}, {Time: 6, Group: 1}, {Time: 500, Group: 2}, {Time: 1, Group: 3}, {Time: 999, Group: 4}, {Time: 1000, Group: 1}} {
			checkRoundMemory(t, r, func(r impl.Round) impl.Round {
				after, _ := impl.RoundAdd(r, s)
				return after
			})
		}
		checkRoundMemory(t, r, func(r impl.Round) impl.Round {
			fresh, _ := impl.RoundNew(r.Message, r.Groups)
			return fresh
		})
		checkRoundMemory(t, r, func(r impl.Round) impl.Round {
			impl.RoundValid(r)
			impl.RoundFinal(r)
			return impl.Round{Groups: impl.RoundMissing(r)}
		})
	}
}

// TestRoundSpareSpace checks that two stamps that are added to one round do not overwrite each other.
func TestRoundSpareSpace(t *testing.T) {
	for _, r := range validRounds() {
		missing := wantedMissing(r)
		if len(missing) < 2 {
			continue
		}
		fresh, _ := impl.RoundAdd(roundOf(r.Message, r.Groups, r.Got...), stamp(60, missing[0]))
		last := missing[len(missing)-1]
		one, _ := impl.RoundAdd(fresh, stamp(61, last))
		other, _ := impl.RoundAdd(fresh, stamp(62, last))
		wantOne, _ := wantedAdd(fresh, stamp(61, last))
		wantOther, _ := wantedAdd(fresh, stamp(62, last))
		if !sameRound(one, wantOne) || !sameRound(other, wantOther) {
			t.Errorf("from %v, RoundAdd leads to %v and %v", fresh, one, other)
		}
	}
}
