package tests

import (
	"fmt"
	"math"
	"math/rand/v2"
	"slices"
	"sync"
	"testing"

	"loop.example/groupmulticast/impl"
)

// noCredits are numbers of free credits out of range.
var noCredits = []int{-1, -2, -9, -10, 10, 11, 99, math.MinInt, math.MaxInt}

// noSenders are numbers of senders that there cannot be.
var noSenders = []int{0, -1, -6, -64, 7, 8, 12, 64, math.MinInt, math.MaxInt}

// freeOf returns the same number of free credits for each group.
func freeOf(number int) []int {
	return slices.Repeat([]int{number}, impl.MaxGroups)
}

// freeBut returns no free credits, but a number of them of one group.
func freeBut(group, number int) []int {
	free := freeOf(0)
	free[group] = number
	return free
}

// idle returns a sender that does not wait.
func idle(has ...int) impl.Hold {
	return impl.Hold{Has: has, Wait: -1}
}

// waits returns a sender that waits for a group.
func waits(group int, has ...int) impl.Hold {
	return impl.Hold{Has: has, Wait: group}
}

// creditsOf returns credits.
func creditsOf(free []int, holds ...impl.Hold) impl.Credits {
	return impl.Credits{Free: free, Holds: holds}
}

// copyOf returns credits in memory of their own.
func copyOf(c impl.Credits) impl.Credits {
	after := creditsOf(slices.Clone(c.Free))
	for _, h := range c.Holds {
		after.Holds = append(after.Holds, impl.Hold{Has: slices.Clone(h.Has), Wait: h.Wait})
	}
	return after
}

// withHold returns credits with another state of a sender.
func withHold(c impl.Credits, sender int, h impl.Hold) impl.Credits {
	after := copyOf(c)
	after.Holds[sender] = h
	return after
}

// withFree returns credits with other free ones.
func withFree(c impl.Credits, free []int) impl.Credits {
	after := copyOf(c)
	after.Free = free
	return after
}

// sameHold reports whether two senders are equal; a nil list is an empty one.
func sameHold(a, b impl.Hold) bool {
	return a.Wait == b.Wait && slices.Equal(a.Has, b.Has)
}

// sameCredits reports whether credits are equal.
func sameCredits(a, b impl.Credits) bool {
	return slices.Equal(a.Free, b.Free) && slices.EqualFunc(a.Holds, b.Holds, sameHold)
}

// numbersOf returns the number of credits of each group, free ones and those that senders have.
func numbersOf(c impl.Credits) []int {
	numbers := slices.Clone(c.Free)
	for _, h := range c.Holds {
		for _, group := range h.Has {
			numbers[group]++
		}
	}
	return numbers
}

// holdersOf returns the senders that have a credit of a group.
func holdersOf(c impl.Credits, group int) []int {
	holders := []int{}
	for sender, h := range c.Holds {
		if slices.Contains(h.Has, group) {
			holders = append(holders, sender)
		}
	}
	return holders
}

// waitersOf returns the senders that wait for a group.
func waitersOf(c impl.Credits, group int) []int {
	waiters := []int{}
	for sender, h := range c.Holds {
		if h.Wait == group {
			waiters = append(waiters, sender)
		}
	}
	return waiters
}

// wantedHold returns whether a sender may be in a state, one condition after the other.
func wantedHold(h impl.Hold, free []int) bool {
	if len(h.Has) > 0 && !isSet(h.Has) {
		return false
	}
	if h.Wait == -1 {
		return true
	}
	return h.Wait >= 0 && h.Wait <= 4 && free[h.Wait] == 0 && !slices.Contains(h.Has, h.Wait)
}

// wantedCredits returns what the document says of CreditsValid, one condition after the other.
func wantedCredits(c impl.Credits) bool {
	if len(c.Free) != 5 || slices.Min(c.Free) < 0 || slices.Max(c.Free) > 9 {
		return false
	}
	if len(c.Holds) < 1 || len(c.Holds) > 6 {
		return false
	}
	return !slices.ContainsFunc(c.Holds, func(h impl.Hold) bool { return !wantedHold(h, c.Free) })
}

// obtain gives a credit of a group to a sender.
func obtain(h *impl.Hold, group int) {
	h.Has = append(h.Has, group)
	slices.Sort(h.Has)
	h.Wait = -1
}

// wantedAsk returns what the document says of CreditsAsk of valid arguments.
func wantedAsk(c impl.Credits, sender, group int) (impl.Credits, bool) {
	after := copyOf(c)
	h := &after.Holds[sender]
	if h.Wait != -1 || slices.Contains(h.Has, group) {
		return after, false
	}
	if after.Free[group] > 0 {
		after.Free[group]--
		obtain(h, group)
	} else {
		h.Wait = group
	}
	return after, true
}

// wantedGive returns what the document says of CreditsGive of valid arguments.
func wantedGive(c impl.Credits, sender int) (impl.Credits, bool) {
	after := copyOf(c)
	has := c.Holds[sender].Has
	full := slices.ContainsFunc(has, func(group int) bool { return c.Free[group] == 9 })
	if c.Holds[sender].Wait != -1 || len(has) == 0 || full {
		return after, false
	}
	after.Holds[sender] = idle()
	for _, group := range has {
		if line := waitersOf(after, group); len(line) > 0 {
			obtain(&after.Holds[line[0]], group)
		} else {
			after.Free[group]++
		}
	}
	return after, true
}

// closed reports whether each of some senders waits, and only for such as are among them.
func closed(c impl.Credits, senders []int) bool {
	return !slices.ContainsFunc(senders, func(sender int) bool {
		group := c.Holds[sender].Wait
		return group == -1 || !within(holdersOf(c, group), senders)
	})
}

// wantedStuck returns what the document says of CreditsStuck of valid credits. No one of senders that wait only for each other is ever removed, and those that remain are such senders: so they are all that there are.
func wantedStuck(c impl.Credits) []int {
	stuck := []int{}
	for bits := range 1 << len(c.Holds) {
		senders := []int{}
		for sender := range c.Holds {
			if bits>>sender&1 == 1 {
				senders = append(senders, sender)
			}
		}
		if closed(c, senders) {
			stuck = append(stuck, senders...)
		}
	}
	slices.Sort(stuck)
	return slices.Compact(stuck)
}

// wantedOrdered returns what the document says of CreditsOrdered of valid credits.
func wantedOrdered(c impl.Credits) bool {
	return !slices.ContainsFunc(c.Holds, func(h impl.Hold) bool {
		return h.Wait != -1 && slices.ContainsFunc(h.Has, func(group int) bool { return group >= h.Wait })
	})
}

// statesOf returns all states of a sender that has some of these groups, and waits for one of them or for none.
func statesOf(groups []int) []impl.Hold {
	states := []impl.Hold{}
	for bits := range 1 << impl.MaxGroups {
		has := groupsOf(bits)
		if !within(has, groups) {
			continue
		}
		states = append(states, idle(has...))
		for _, group := range groups {
			if !slices.Contains(has, group) {
				states = append(states, waits(group, has...))
			}
		}
	}
	return states
}

// freeFor returns free credits with which senders may wait as they do: of other groups, any of these numbers.
func freeFor(r *rand.Rand, holds []impl.Hold, numbers []int) []int {
	free := []int{}
	for group := range impl.MaxGroups {
		number := numbers[r.IntN(len(numbers))]
		if slices.ContainsFunc(holds, func(h impl.Hold) bool { return h.Wait == group }) {
			number = 0
		}
		free = append(free, number)
	}
	return free
}

// smallCredits are all states of three senders with two groups, and of two senders with three groups.
func smallCredits() []impl.Credits {
	r := rand.New(rand.NewPCG(41, 42))
	list := []impl.Credits{}
	two, three := statesOf([]int{1, 3}), statesOf([]int{0, 2, 4})
	for _, a := range two {
		for _, b := range two {
			for _, c := range two {
				holds := []impl.Hold{a, b, c}
				list = append(list, creditsOf(freeFor(r, holds, []int{0, 1, 8, 9}), holds...))
			}
		}
	}
	for _, a := range three {
		for _, b := range three {
			holds := []impl.Hold{a, b}
			list = append(list, creditsOf(freeFor(r, holds, []int{0, 1, 8, 9}), holds...))
		}
	}
	return list
}

// randomHold returns a sender that has a part of percent of the groups, and perhaps waits; if ordered, for a greater group.
func randomHold(r *rand.Rand, percent, waiting int, ordered bool) impl.Hold {
	has := partOf(r, everyone, percent)
	wait := r.IntN(impl.MaxGroups)
	above := len(has) == 0 || wait > has[len(has)-1]
	if r.IntN(100) >= waiting || slices.Contains(has, wait) || ordered && !above {
		return idle(has...)
	}
	return waits(wait, has...)
}

// randomCredits are credits of any number of senders, of which few or many wait, half of them ordered.
func randomCredits() []impl.Credits {
	r := rand.New(rand.NewPCG(43, 44))
	list := []impl.Credits{}
	for n := 1; n <= impl.MaxTraces; n++ {
		for _, percent := range []int{15, 35, 60} {
			for _, waiting := range []int{30, 70, 100} {
				for i := range 24 {
					holds := []impl.Hold{}
					for range n {
						holds = append(holds, randomHold(r, percent, waiting, i%2 == 0))
					}
					list = append(list, creditsOf(freeFor(r, holds, []int{0, 0, 1, 5, 8, 9}), holds...))
				}
			}
		}
	}
	return list
}

// ringCredits returns senders in a ring, each of which waits for a group of the next one. There is a group less than senders may be: in a ring of all of them, two senders have a credit of the same group.
func ringCredits(n int) impl.Credits {
	c := creditsOf(freeOf(0))
	for sender := range n {
		next := (sender + 1) % n
		c.Holds = append(c.Holds, waits(ringGroup(next), ringGroup(sender)))
	}
	return c
}

// ringGroup returns the group that a sender of a ring has.
func ringGroup(sender int) int {
	if sender == impl.MaxGroups {
		return 1
	}
	return sender
}

// permuted returns credits with the senders in another sequence.
func permuted(c impl.Credits, order []int) impl.Credits {
	after := creditsOf(slices.Clone(c.Free))
	for _, sender := range order {
		after.Holds = append(after.Holds, c.Holds[sender])
	}
	return copyOf(after)
}

// validCredits are valid credits, always the same.
var validCredits = sync.OnceValue(func() []impl.Credits {
	list := append(smallCredits(), randomCredits()...)
	r := rand.New(rand.NewPCG(45, 46))
	for n := 2; n <= impl.MaxTraces; n++ {
		for range 20 {
			ring := permuted(ringCredits(n), r.Perm(n))
			sender := r.IntN(n)
			list = append(list, ring, withHold(ring, sender, idle(ring.Holds[sender].Has...)))
		}
	}
	for _, number := range []int{0, 1, 9} {
		for n := 1; n <= impl.MaxTraces; n++ {
			list = append(list, creditsOf(freeOf(number), slices.Repeat([]impl.Hold{idle()}, n)...))
		}
	}
	return list
})

// orderedCredits are those of the valid credits that are ordered.
var orderedCredits = sync.OnceValue(func() []impl.Credits {
	return slices.DeleteFunc(slices.Clone(validCredits()), func(c impl.Credits) bool { return !wantedOrdered(c) })
})

// badFree are lists that are no numbers of free credits of all groups.
func badFree() [][]int {
	lists := [][]int{nil, {}}
	for n := 1; n <= 12; n++ {
		if n != impl.MaxGroups {
			lists = append(lists, slices.Repeat([]int{0}, n), slices.Repeat([]int{3}, n), slices.Repeat([]int{9}, n))
		}
	}
	for _, number := range noCredits {
		for place := range impl.MaxGroups {
			for _, other := range []int{0, 4, 9} {
				free := freeOf(other)
				free[place] = number
				lists = append(lists, free)
			}
		}
		lists = append(lists, freeOf(number), []int{number})
	}
	return append(lists, freeOf(4)[:4], make([]int, 1000))
}

// badHas are lists that are no sets of groups, and are not empty.
func badHas() [][]int {
	return slices.DeleteFunc(notSets(), func(list []int) bool { return len(list) == 0 })
}

// noWaits are numbers for which no sender waits, and which do not say that it does not.
var noWaits = slices.DeleteFunc(slices.Clone(append([]int{-2, -3, -6, -63, 7}, noGroups...)), func(wait int) bool { return wait == -1 })

// badCredits are invalid credits, of which each breaks one part of the rule.
var badCredits = sync.OnceValue(func() []impl.Credits {
	list := []impl.Credits{{}, creditsOf(freeOf(2))}
	good := creditsOf([]int{0, 3, 0, 9, 0}, idle(0, 3), waits(2, 1), idle(), waits(4, 0, 2), idle(2, 4), waits(0, 1))
	for _, free := range badFree() {
		list = append(list, creditsOf(free, idle(), idle(0, 4), idle(1)))
	}
	for _, n := range []int{7, 8, 13, 100} {
		list = append(list, creditsOf(freeOf(0), slices.Repeat([]impl.Hold{idle()}, n)...), creditsOf(freeOf(0), slices.Repeat([]impl.Hold{waits(2, 1)}, n)...))
	}
	for sender := range good.Holds {
		for _, has := range badHas() {
			list = append(list, withHold(good, sender, idle(has...)))
		}
		for _, wait := range noWaits {
			list = append(list, withHold(good, sender, waits(wait)), withHold(good, sender, waits(wait, 1, 3)))
		}
		list = append(list, withHold(good, sender, waits(1)), withHold(good, sender, waits(3, 0)), withHold(good, sender, waits(2, 2)), withHold(good, sender, waits(0, 0, 1, 4)))
	}
	return list
})

// everyAsk calls f for valid credits with all senders and groups.
func everyAsk(f func(c impl.Credits, sender, group int)) {
	for _, c := range validCredits() {
		for sender := range c.Holds {
			for group := range impl.MaxGroups {
				f(c, sender, group)
			}
		}
	}
}

// everyGive calls f for valid credits with all senders.
func everyGive(f func(c impl.Credits, sender int)) {
	for _, c := range validCredits() {
		for sender := range c.Holds {
			f(c, sender)
		}
	}
}

// checkCreditsNew checks the results of CreditsNew.
func checkCreditsNew(t *testing.T, free []int, senders int, want impl.Credits, wantOk bool) {
	t.Helper()
	if c, ok := impl.CreditsNew(free, senders); !sameCredits(c, want) || ok != wantOk {
		t.Errorf("CreditsNew(%v, %d) = %v, %v, not %v, %v", free, senders, c, ok, want, wantOk)
	}
}

// checkAsk checks the results of CreditsAsk, and returns the credits.
func checkAsk(t *testing.T, c impl.Credits, sender, group int, want impl.Credits, wantOk bool) impl.Credits {
	t.Helper()
	after, ok := impl.CreditsAsk(c, sender, group)
	if !sameCredits(after, want) || ok != wantOk {
		t.Errorf("CreditsAsk(%v, %d, %d) = %v, %v, not %v, %v", c, sender, group, after, ok, want, wantOk)
	}
	return after
}

// checkGive checks the results of CreditsGive, and returns the credits.
func checkGive(t *testing.T, c impl.Credits, sender int, want impl.Credits, wantOk bool) impl.Credits {
	t.Helper()
	after, ok := impl.CreditsGive(c, sender)
	if !sameCredits(after, want) || ok != wantOk {
		t.Errorf("CreditsGive(%v, %d) = %v, %v, not %v, %v", c, sender, after, ok, want, wantOk)
	}
	return after
}

// checkStuck checks the result of CreditsStuck.
func checkStuck(t *testing.T, c impl.Credits, want ...int) {
	t.Helper()
	if got := impl.CreditsStuck(c); !slices.Equal(got, want) {
		t.Errorf("CreditsStuck(%v) = %v, not %v", c, got, want)
	}
}

// checkOrdered checks the result of CreditsOrdered.
func checkOrdered(t *testing.T, c impl.Credits, want bool) {
	t.Helper()
	if got := impl.CreditsOrdered(c); got != want {
		t.Errorf("CreditsOrdered(%v) = %v", c, got)
	}
}

// checkCredits checks what the functions that change nothing say of valid credits.
func checkCredits(t *testing.T, c impl.Credits) {
	t.Helper()
	if !impl.CreditsValid(c) {
		t.Errorf("CreditsValid(%v) = false", c)
	}
	checkStuck(t, c, wantedStuck(c)...)
	checkOrdered(t, c, wantedOrdered(c))
}

// checkNoCredits checks that all functions refuse credits, whatever the sender and the group are, with zero values.
func checkNoCredits(t *testing.T, c impl.Credits) {
	t.Helper()
	if impl.CreditsValid(c) {
		t.Errorf("CreditsValid(%v) = true", c)
	}
	checkStuck(t, c)
	checkOrdered(t, c, false)
	for sender := -1; sender <= impl.MaxTraces+1; sender++ {
		checkGive(t, c, sender, impl.Credits{}, false)
		for group := -1; group <= impl.MaxGroups; group++ {
			checkAsk(t, c, sender, group, impl.Credits{}, false)
		}
	}
}

func TestCreditsConstants(t *testing.T) {
	if impl.MaxGroups != 5 || impl.MaxCredit != 9 || impl.MaxTraces != 6 {
		t.Errorf("the constants are %d, %d and %d", impl.MaxGroups, impl.MaxCredit, impl.MaxTraces)
	}
}

// TestCreditsNewExamples has numbers of free credits in the middle and at both ends of their range, for all numbers of senders.
func TestCreditsNewExamples(t *testing.T) {
	lists := [][]int{{0, 1, 2, 3, 4}, {9, 8, 7, 6, 5}, {9, 0, 9, 0, 9}}
	for number := range impl.MaxCredit + 1 {
		lists = append(lists, freeOf(number))
		for place := range impl.MaxGroups {
			free := freeOf(5)
			free[place] = number
			lists = append(lists, free)
		}
	}
	for _, free := range lists {
		for senders := 1; senders <= impl.MaxTraces; senders++ {
			want := creditsOf(free, slices.Repeat([]impl.Hold{idle()}, senders)...)
			checkCreditsNew(t, free, senders, want, true)
			checkCredits(t, want)
			checkStuck(t, want)
			checkOrdered(t, want, true)
		}
	}
}

// TestCreditsNewInvalid has too few and too many numbers of free credits, numbers out of range, and numbers of senders out of range.
func TestCreditsNewInvalid(t *testing.T) {
	for _, free := range badFree() {
		for senders := 1; senders <= impl.MaxTraces; senders++ {
			checkCreditsNew(t, free, senders, impl.Credits{}, false)
		}
		for _, senders := range noSenders {
			checkCreditsNew(t, free, senders, impl.Credits{}, false)
		}
	}
	for number := range impl.MaxCredit + 1 {
		for _, senders := range noSenders {
			checkCreditsNew(t, freeOf(number), senders, impl.Credits{}, false)
		}
	}
}

// TestCreditsValidFree breaks nothing but the numbers of free credits: how many they are, and the range of each.
func TestCreditsValidFree(t *testing.T) {
	for _, holds := range [][]impl.Hold{{idle()}, {idle(0, 1, 2, 3, 4)}, {idle(3), idle(), idle(1, 4), idle(3), idle(0, 2), idle(4)}} {
		for _, free := range badFree() {
			checkNoCredits(t, creditsOf(free, holds...))
		}
		for number := range impl.MaxCredit + 1 {
			checkCredits(t, creditsOf(freeOf(number), holds...))
			for place := range impl.MaxGroups {
				checkCredits(t, creditsOf(freeBut(place, number), holds...))
			}
		}
	}
	// Somebody waits for a group of which there is no number.
	for n := range impl.MaxGroups {
		checkNoCredits(t, creditsOf(make([]int, n), waits(n)))
		checkNoCredits(t, creditsOf(make([]int, n), idle(), waits(4, 0), waits(0, 1)))
	}
	checkNoCredits(t, creditsOf(make([]int, 6), waits(4)))
	checkNoCredits(t, creditsOf(make([]int, 6), waits(5)))
}

// TestCreditsValidSenders has all numbers of senders, also those that there cannot be: that do not wait, that have something, and that wait.
func TestCreditsValidSenders(t *testing.T) {
	for _, h := range []impl.Hold{idle(), idle(0, 1, 2, 3, 4), waits(3), waits(3, 0, 4)} {
		for n := range 20 {
			c := creditsOf(freeOf(0), slices.Repeat([]impl.Hold{h}, n)...)
			if n < 1 || n > impl.MaxTraces {
				checkNoCredits(t, c)
			} else {
				checkCredits(t, c)
			}
		}
	}
	checkNoCredits(t, creditsOf(freeOf(0), []impl.Hold{}...))
	checkNoCredits(t, impl.Credits{Free: freeOf(9)})
}

// goodCredits returns credits of n senders, with which any sender may have anything, and wait for any group but 3.
func goodCredits(n int) impl.Credits {
	holds := []impl.Hold{idle(0, 3), waits(2, 1), idle(), waits(4, 0, 2), idle(2, 4), waits(0, 1, 4)}
	return creditsOf([]int{0, 0, 0, 7, 0}, holds[:n]...)
}

// everySender calls f for credits with each sender of one to all senders: the only one, the first, those in the middle and the last.
func everySender(f func(c impl.Credits, sender int)) {
	for n := 1; n <= impl.MaxTraces; n++ {
		for sender := range n {
			f(goodCredits(n), sender)
		}
	}
}

// TestCreditsValidHas has a list that is no set of groups with each sender, and the empty one.
func TestCreditsValidHas(t *testing.T) {
	everySender(func(c impl.Credits, sender int) {
		for _, has := range badHas() {
			checkNoCredits(t, withHold(c, sender, idle(has...)))
			if !slices.Contains(has, 2) {
				checkNoCredits(t, withHold(c, sender, waits(2, has...)))
			}
		}
		for _, has := range append(allSets(), nil, []int{}, make([]int, 0, 3)) {
			checkCredits(t, withHold(c, sender, idle(has...)))
			if !slices.Contains(has, 2) {
				checkCredits(t, withHold(c, sender, waits(2, has...)))
			}
		}
	})
}

// TestCreditsValidWait has numbers that are no groups for which each sender waits.
func TestCreditsValidWait(t *testing.T) {
	everySender(func(c impl.Credits, sender int) {
		for _, has := range [][]int{nil, {}, {3}, {0, 3}} {
			for _, wait := range noWaits {
				checkNoCredits(t, withHold(c, sender, waits(wait, has...)))
			}
			for wait := -1; wait < impl.MaxGroups; wait++ {
				if wait != 3 && !slices.Contains(has, wait) {
					checkCredits(t, withHold(c, sender, waits(wait, has...)))
				}
			}
		}
	})
}

// TestCreditsValidWaitFree lets each sender wait for a group with free credits.
func TestCreditsValidWaitFree(t *testing.T) {
	everySender(func(c impl.Credits, sender int) {
		checkNoCredits(t, withHold(c, sender, waits(3)))
		checkNoCredits(t, withHold(c, sender, waits(3, 0, 4)))
	})
	for n := 1; n <= impl.MaxTraces; n++ {
		for sender := range n {
			c := creditsOf(freeOf(0), slices.Repeat([]impl.Hold{idle(2)}, n)...)
			for group := range impl.MaxGroups {
				for number := range impl.MaxCredit + 1 {
					x := withHold(withFree(c, freeBut(group, number)), sender, waits(group))
					if number > 0 {
						checkNoCredits(t, x)
					} else {
						checkCredits(t, x)
					}
					// Free credits of other groups do not matter.
					other := (group + 1) % impl.MaxGroups
					checkCredits(t, withHold(withFree(c, freeBut(other, number)), sender, waits(group)))
				}
			}
		}
	}
}

// TestCreditsValidWaitHas lets each sender wait for a group of which it has a credit.
func TestCreditsValidWaitHas(t *testing.T) {
	everySender(func(c impl.Credits, sender int) {
		for _, set := range allSets() {
			for _, wait := range []int{0, 1, 2, 4} {
				x := withHold(c, sender, waits(wait, set...))
				if slices.Contains(set, wait) {
					checkNoCredits(t, x)
				} else {
					checkCredits(t, x)
				}
			}
		}
	})
}

// TestCreditsValidIsAsSaid compares CreditsValid with the words of the document, for one and two senders with all short lists.
func TestCreditsValidIsAsSaid(t *testing.T) {
	states := []impl.Hold{}
	for n := range 3 {
		for _, has := range tuples([]int{-1, 0, 1, 2, 4, 5}, n) {
			for wait := -2; wait <= impl.MaxGroups; wait++ {
				states = append(states, waits(wait, has...))
			}
		}
	}
	valid := 0
	for i, a := range states {
		for _, free := range [][]int{{0, 0, 0, 0, 0}, {0, 1, 0, 0, 9}, {9, 0, 1, 0, 0}, {0, 0, 0, 10, 0}, {-1, 0, 0, 0, 0}, {0, 0, 0, 0}} {
			for _, c := range []impl.Credits{creditsOf(free, a), creditsOf(free, idle(0, 3), a), creditsOf(free, a, idle(4), idle()), creditsOf(free, a, states[i*5%len(states)])} {
				if wantedCredits(c) {
					checkCredits(t, c)
					valid++
				} else {
					checkNoCredits(t, c)
				}
			}
		}
	}
	if valid < 300 {
		t.Errorf("only %d are valid", valid)
	}
	for _, c := range validCredits() {
		if !wantedCredits(c) {
			t.Fatalf("%v are no credits", c)
		}
		checkCredits(t, c)
	}
}

// TestCreditsInvalid checks that invalid credits are refused before anything else is looked at.
func TestCreditsInvalid(t *testing.T) {
	for _, c := range badCredits() {
		if wantedCredits(c) {
			t.Fatalf("%v are credits", c)
		}
		checkNoCredits(t, c)
	}
}

// TestCreditsAskFree has one free credit and several of them: none are free after the last one.
func TestCreditsAskFree(t *testing.T) {
	for group := range impl.MaxGroups {
		for number := 1; number <= impl.MaxCredit; number++ {
			before := creditsOf(freeBut(group, number), idle(), idle(), idle())
			checkAsk(t, before, 0, group, creditsOf(freeBut(group, number-1), idle(group), idle(), idle()), true)
			checkAsk(t, before, 1, group, creditsOf(freeBut(group, number-1), idle(), idle(group), idle()), true)
			checkAsk(t, before, 2, group, creditsOf(freeBut(group, number-1), idle(), idle(), idle(group)), true)
		}
		before := creditsOf(freeOf(impl.MaxCredit), idle())
		free := freeOf(impl.MaxCredit)
		free[group]--
		checkAsk(t, before, 0, group, creditsOf(free, idle(group)), true)
	}
}

// TestCreditsAskNone has no free credit of the group, but of all others: the sender waits, behind others or alone.
func TestCreditsAskNone(t *testing.T) {
	for group := range impl.MaxGroups {
		free := freeOf(9)
		free[group] = 0
		for _, h := range []impl.Hold{idle(), idle(group), waits(group), waits(group, (group+1)%impl.MaxGroups)} {
			checkAsk(t, creditsOf(free, idle(), h), 0, group, creditsOf(free, waits(group), h), true)
			checkAsk(t, creditsOf(free, h, idle()), 1, group, creditsOf(free, h, waits(group)), true)
			checkAsk(t, creditsOf(free, h, idle(), h), 1, group, creditsOf(free, h, waits(group), h), true)
		}
		checkAsk(t, creditsOf(free, idle()), 0, group, creditsOf(free, waits(group)), true)
	}
}

// TestCreditsAskTwo lets two senders ask for the last free credit of a group, and a third one, in either sequence.
func TestCreditsAskTwo(t *testing.T) {
	c := creditsOf(freeBut(3, 1), idle(), idle(), idle())
	first := checkAsk(t, c, 1, 3, creditsOf(freeOf(0), idle(), idle(3), idle()), true)
	second := checkAsk(t, first, 0, 3, creditsOf(freeOf(0), waits(3), idle(3), idle()), true)
	third := checkAsk(t, second, 2, 3, creditsOf(freeOf(0), waits(3), idle(3), waits(3)), true)
	checkCredits(t, third)
	second = checkAsk(t, first, 2, 3, creditsOf(freeOf(0), idle(), idle(3), waits(3)), true)
	third = checkAsk(t, second, 0, 3, creditsOf(freeOf(0), waits(3), idle(3), waits(3)), true)
	// Who waits first is not who is served first: that is the first one in the order of senders.
	checkGive(t, third, 1, creditsOf(freeOf(0), idle(3), idle(), waits(3)), true)
}

// TestCreditsAskPlaces lets a sender that has any set ask for any group: its set stays ascending.
func TestCreditsAskPlaces(t *testing.T) {
	for _, set := range append(allSets(), nil, []int{}) {
		for group := range impl.MaxGroups {
			for _, number := range []int{0, 1, 2, 9} {
				for place := range 3 {
					c := withHold(creditsOf(freeBut(group, number), idle(2), idle(), idle(0, 4)), place, idle(set...))
					want, wantOk := wantedAsk(c, place, group)
					if wantOk == slices.Contains(set, group) {
						t.Fatalf("%v should not contain %d", set, group)
					}
					checkAsk(t, c, place, group, want, wantOk)
				}
			}
		}
	}
	checkAsk(t, creditsOf(freeOf(2), idle(1, 3)), 0, 0, creditsOf([]int{1, 2, 2, 2, 2}, idle(0, 1, 3)), true)
	checkAsk(t, creditsOf(freeOf(2), idle(1, 3)), 0, 2, creditsOf([]int{2, 2, 1, 2, 2}, idle(1, 2, 3)), true)
	checkAsk(t, creditsOf(freeOf(2), idle(1, 3)), 0, 4, creditsOf([]int{2, 2, 2, 2, 1}, idle(1, 3, 4)), true)
	checkAsk(t, creditsOf(freeOf(0), idle(1, 3)), 0, 2, creditsOf(freeOf(0), waits(2, 1, 3)), true)
}

// TestCreditsAskWaiting lets a sender that waits ask: for the group for which it waits, for one with free credits, for one without, and for one that it has.
func TestCreditsAskWaiting(t *testing.T) {
	free := []int{0, 1, 9, 0, 0}
	for _, h := range []impl.Hold{waits(3), waits(3, 0), waits(3, 1), waits(0, 1, 2, 3), waits(4, 0, 1, 2, 3), waits(0, 4)} {
		for place := range 3 {
			c := withHold(creditsOf(free, idle(3), idle(0, 3), waits(4, 3)), place, h)
			for group := range impl.MaxGroups {
				checkAsk(t, c, place, group, c, false)
			}
		}
	}
}

// TestCreditsAskHaving lets a sender ask for a group of which it has a credit: with others free and none, and if another sender has one, too, or waits for one.
func TestCreditsAskHaving(t *testing.T) {
	for _, set := range allSets() {
		for _, group := range set {
			for number := range impl.MaxCredit + 1 {
				for _, other := range []impl.Hold{idle(), idle(group), waits(group)} {
					if other.Wait >= 0 && number > 0 {
						continue
					}
					c := creditsOf(freeBut(group, number), idle(set...), other)
					checkAsk(t, c, 0, group, c, false)
					c = creditsOf(freeBut(group, number), other, idle(set...))
					checkAsk(t, c, 1, group, c, false)
				}
			}
			// It waits for another group, too.
			for wait := range impl.MaxGroups {
				if !slices.Contains(set, wait) {
					c := creditsOf(freeBut(group, 1), waits(wait, set...))
					checkAsk(t, c, 0, group, c, false)
				}
			}
		}
	}
}

// outside returns numbers that are no senders of n senders.
func outside(n int) []int {
	return []int{-1, -2, -n, -64, n, n + 1, n + 6, 64, math.MinInt, math.MaxInt}
}

// TestCreditsOutside has senders and groups out of range on either side, also with credits of which the other ones would leave them unchanged.
func TestCreditsOutside(t *testing.T) {
	for n := 1; n <= impl.MaxTraces; n++ {
		for _, h := range []impl.Hold{idle(), idle(2), idle(0, 1, 2, 3, 4), waits(2), waits(4, 0, 3)} {
			for _, free := range [][]int{freeOf(0), {9, 9, 0, 9, 0}} {
				c := creditsOf(free, slices.Repeat([]impl.Hold{h}, n)...)
				for _, sender := range outside(n) {
					checkGive(t, c, sender, impl.Credits{}, false)
					for group := -1; group <= impl.MaxGroups; group++ {
						checkAsk(t, c, sender, group, impl.Credits{}, false)
					}
				}
				for _, group := range noGroups {
					for sender := -1; sender <= n; sender++ {
						checkAsk(t, c, sender, group, impl.Credits{}, false)
					}
				}
			}
		}
	}
}

// TestCreditsAskIsAsSaid compares CreditsAsk with the words of the document.
func TestCreditsAskIsAsSaid(t *testing.T) {
	everyAsk(func(c impl.Credits, sender, group int) {
		want, wantOk := wantedAsk(c, sender, group)
		checkAsk(t, c, sender, group, want, wantOk)
	})
}

func TestCreditsGiveExamples(t *testing.T) {
	// Nobody waits: all become free.
	checkGive(t, creditsOf([]int{0, 3, 8, 0, 1}, idle(0, 1, 2)), 0, creditsOf([]int{1, 4, 9, 0, 1}, idle()), true)
	checkGive(t, creditsOf(freeOf(0), idle(0, 1, 2, 3, 4)), 0, creditsOf(freeOf(1), idle()), true)
	checkGive(t, creditsOf(freeOf(8), idle(3), idle(0, 1, 2, 3, 4), idle()), 1, creditsOf(freeOf(9), idle(3), idle(), idle()), true)
	// One waits, before and after the one that gives back.
	checkGive(t, creditsOf(freeOf(0), waits(2), idle(2)), 1, creditsOf(freeOf(0), idle(2), idle()), true)
	checkGive(t, creditsOf(freeOf(0), idle(2), waits(2)), 0, creditsOf(freeOf(0), idle(), idle(2)), true)
	// Several wait for the same group: before it, after it, and on both sides.
	checkGive(t, creditsOf(freeOf(0), waits(2), waits(2), idle(2)), 2, creditsOf(freeOf(0), idle(2), waits(2), idle()), true)
	checkGive(t, creditsOf(freeOf(0), idle(2), waits(2), waits(2)), 0, creditsOf(freeOf(0), idle(), idle(2), waits(2)), true)
	checkGive(t, creditsOf(freeOf(0), waits(2), idle(2), waits(2)), 1, creditsOf(freeOf(0), idle(2), idle(), waits(2)), true)
	checkGive(t, creditsOf(freeOf(0), idle(), idle(1), idle(2), waits(2, 0, 4), waits(2), idle()), 2, creditsOf(freeOf(0), idle(), idle(1), idle(), idle(0, 2, 4), waits(2), idle()), true)
	// Others wait for another group, also before the one that is served.
	checkGive(t, creditsOf(freeOf(0), waits(3), waits(1), waits(2), idle(2), waits(2)), 3, creditsOf(freeOf(0), waits(3), waits(1), idle(2), idle(), waits(2)), true)
	// The senders that are served have their sets ascending: below, between, above.
	checkGive(t, creditsOf(freeOf(0), idle(0, 2, 4), waits(0, 1, 3), waits(2, 1, 3), waits(4, 1, 3)), 0, creditsOf(freeOf(0), idle(), idle(0, 1, 3), idle(1, 2, 3), idle(1, 3, 4)), true)
	// Some groups are waited for and some are not.
	checkGive(t, creditsOf([]int{0, 0, 5, 0, 0}, waits(4, 3), idle(0, 1, 2, 4), waits(1)), 1, creditsOf([]int{1, 0, 6, 0, 0}, idle(3, 4), idle(), idle(1)), true)
	// Several wait for each of several groups.
	checkGive(t, creditsOf(freeOf(0), waits(3), waits(1), idle(1, 3), waits(3, 1), waits(1, 3), waits(3)), 2, creditsOf(freeOf(0), idle(3), idle(1), idle(), waits(3, 1), waits(1, 3), waits(3)), true)
}

// TestCreditsGiveFirst lets any of the other senders wait for a group: the first of them gets the credit, and only this one.
func TestCreditsGiveFirst(t *testing.T) {
	for n := 1; n <= impl.MaxTraces; n++ {
		for giver := range n {
			for bits := range 1 << n {
				if bits>>giver&1 == 1 {
					continue
				}
				group := (n + giver + bits) % impl.MaxGroups
				before := creditsOf(freeOf(0), slices.Repeat([]impl.Hold{idle((group + 1) % impl.MaxGroups)}, n)...)
				want := copyOf(before)
				before.Holds[giver], want.Holds[giver] = idle(group), idle()
				served := false
				for sender := range n {
					if bits>>sender&1 == 0 {
						continue
					}
					before.Holds[sender] = waits(group)
					want.Holds[sender] = waits(group)
					if !served {
						want.Holds[sender] = idle(group)
					}
					served = true
				}
				if !served {
					want.Free[group] = 1
				}
				checkGive(t, before, giver, want, true)
			}
		}
	}
}

// TestCreditsGiveSeveral gives several groups back at once, while each of three others waits for any group, or for none.
func TestCreditsGiveSeveral(t *testing.T) {
	for _, set := range [][]int{{0, 1, 2, 3, 4}, {0, 2, 4}, {1, 3}, {0, 4}, {1, 2, 3}} {
		for _, tuple := range tuples([]int{-1, 0, 1, 2, 3, 4}, 3) {
			for giver := range 4 {
				holds := []impl.Hold{}
				for i, wait := range tuple {
					has := slices.DeleteFunc([]int{i, 3}, func(group int) bool { return group == wait })
					holds = append(holds, waits(wait, slices.Compact(has)...))
				}
				c := creditsOf(freeOf(0), slices.Insert(holds, giver, idle(set...))...)
				want, _ := wantedGive(c, giver)
				after := checkGive(t, c, giver, want, true)
				checkCredits(t, after)
			}
		}
	}
}

// TestCreditsGiveFull has MaxCredit free credits of the first, a middle and the last of the groups of a sender, of all of them, and of another group.
func TestCreditsGiveFull(t *testing.T) {
	for _, set := range allSets() {
		for place := range 3 {
			c := creditsOf(freeOf(0), idle(), idle(), idle())
			c.Holds[place] = idle(set...)
			for group := range impl.MaxGroups {
				for _, number := range []int{0, 1, 7, 8, 9} {
					x := withFree(c, freeBut(group, number))
					if number == 9 && slices.Contains(set, group) {
						checkGive(t, x, place, x, false)
					} else {
						want, _ := wantedGive(x, place)
						checkGive(t, x, place, want, true)
					}
				}
			}
			x := withFree(c, freeOf(9))
			checkGive(t, x, place, x, false)
			free := freeOf(9)
			for _, group := range set {
				free[group] = 8
			}
			checkGive(t, withFree(c, free), place, withFree(withHold(c, place, idle()), freeOf(9)), true)
		}
	}
}

// TestCreditsGiveFullServed checks that a group at MaxCredit keeps those from being served who wait for another one.
func TestCreditsGiveFullServed(t *testing.T) {
	for _, full := range []int{0, 2, 4} {
		for _, wait := range []int{0, 2, 4} {
			if full == wait {
				continue
			}
			c := creditsOf(freeBut(full, 9), waits(wait), idle(0, 2, 4), waits(wait, 1))
			checkGive(t, c, 1, c, false)
			c.Free[full] = 8
			want := creditsOf(freeOf(1), idle(wait), idle(), waits(wait, 1))
			want.Free[1], want.Free[3], want.Free[wait], want.Free[full] = 0, 0, 0, 9
			checkGive(t, c, 1, want, true)
		}
	}
}

// TestCreditsGiveNot lets senders give back that wait, that have nothing, and both.
func TestCreditsGiveNot(t *testing.T) {
	for _, h := range []impl.Hold{idle(), {Has: []int{}, Wait: -1}, waits(2), waits(2, 1), waits(0, 3), waits(0, 1, 2, 3, 4), waits(4, 3)} {
		for n := 1; n <= impl.MaxTraces; n++ {
			for sender := range n {
				for _, free := range [][]int{freeOf(0), {0, 9, 0, 9, 0}, {0, 3, 0, 1, 0}} {
					c := creditsOf(free, slices.Repeat([]impl.Hold{idle(1)}, n)...)
					c.Holds[sender] = h
					checkGive(t, c, sender, c, false)
				}
			}
		}
	}
	// Others wait for the group.
	c := creditsOf(freeOf(0), waits(1), waits(2, 1), waits(1, 2), idle())
	for sender := range c.Holds {
		checkGive(t, c, sender, c, false)
	}
}

// TestCreditsGiveIsAsSaid compares CreditsGive with the words of the document.
func TestCreditsGiveIsAsSaid(t *testing.T) {
	everyGive(func(c impl.Credits, sender int) {
		want, wantOk := wantedGive(c, sender)
		checkGive(t, c, sender, want, wantOk)
	})
}

// TestCreditsStuckExamples has nobody, some and all senders stuck.
func TestCreditsStuckExamples(t *testing.T) {
	none := freeOf(0)
	// Nobody waits, or who waits does so for one that does not.
	checkStuck(t, creditsOf(none, idle(), idle(1), idle(0, 1, 2, 3, 4)))
	checkStuck(t, creditsOf(none, waits(1), idle(1)))
	checkStuck(t, creditsOf(none, idle(1), waits(1), waits(1), waits(1), waits(1), waits(1)))
	// Nobody has a credit of the group.
	for group := range impl.MaxGroups {
		checkStuck(t, creditsOf(none, waits(group)), 0)
		checkStuck(t, creditsOf(none, idle(), waits(group), idle((group+1)%impl.MaxGroups)), 1)
		checkStuck(t, creditsOf(none, waits(group), waits(group), waits(group), waits(group), waits(group), waits(group)), 0, 1, 2, 3, 4, 5)
	}
	// Two wait for each other, beside others.
	checkStuck(t, creditsOf(none, waits(1, 0), waits(0, 1)), 0, 1)
	checkStuck(t, creditsOf(none, idle(), waits(1, 0), idle(3), waits(0, 1)), 1, 3)
	checkStuck(t, creditsOf(none, waits(3), waits(4, 2), idle(3), waits(2, 4), waits(3, 0), idle(0)), 1, 3)
	checkStuck(t, creditsOf(none, waits(1, 0), waits(0, 1), waits(3, 2), waits(2, 3)), 0, 1, 2, 3)
	// A chain ends at a sender that does not wait, at one that waits for nobody, and in a ring.
	checkStuck(t, creditsOf(none, waits(1, 0), waits(2, 1), waits(3, 2), waits(4, 3), idle(4), waits(0)))
	checkStuck(t, creditsOf(none, waits(0), idle(4), waits(4, 3), waits(3, 2), waits(2, 1), waits(1, 0)))
	checkStuck(t, creditsOf(none, waits(1, 0), waits(2, 1), waits(3, 2), waits(4, 3), waits(0)), 0, 1, 2, 3, 4)
	checkStuck(t, creditsOf(none, waits(1, 0), waits(2, 1), waits(3, 2), waits(2, 3), idle(4)), 0, 1, 2, 3)
	checkStuck(t, creditsOf(none, waits(4), waits(0, 4), waits(1, 0), waits(2, 1), waits(1, 2), idle(3)), 0, 1, 2, 3, 4)
	// Somebody in a ring is waited for by others, which are not in it.
	checkStuck(t, creditsOf(none, waits(1, 0), waits(0, 1), waits(0), waits(1), waits(3), idle(3)), 0, 1, 2, 3)
	// Of several senders that have a credit, one is not stuck: at the first place, in the middle, at the last.
	checkStuck(t, creditsOf(none, idle(1), waits(1, 0), waits(0, 1), waits(0, 1)))
	checkStuck(t, creditsOf(none, waits(1, 0), waits(0, 1), idle(1), waits(0, 1)))
	checkStuck(t, creditsOf(none, waits(1, 0), waits(0, 1), waits(0, 1), idle(1)))
	// The one of several that is not stuck waits itself.
	checkStuck(t, creditsOf(none, waits(1, 0), waits(0, 1), waits(3, 1), idle(3)))
	checkStuck(t, creditsOf(none, idle(3), waits(3, 1), waits(0, 1), waits(1, 0)))
	checkStuck(t, creditsOf(none, waits(1, 0), waits(0, 1), waits(3, 1), waits(4, 3), idle(2)), 0, 1, 2, 3)
	// All of several senders that have a credit are stuck.
	checkStuck(t, creditsOf(none, waits(1), waits(0, 1), waits(2, 1), waits(1, 0, 2)), 0, 1, 2, 3)
	// Some are stuck, and some wait but are not.
	checkStuck(t, creditsOf(none, waits(2), waits(1), idle(2), waits(3, 4), waits(4, 3), waits(2)), 1, 3, 4)
}

// TestCreditsStuckRings has rings of two up to all senders, in any sequence. If one of them does not wait, or somebody else has a credit for which one waits, nobody is stuck.
func TestCreditsStuckRings(t *testing.T) {
	for n := 2; n <= impl.MaxTraces; n++ {
		permutations(n, func(order []int) {
			ring := permuted(ringCredits(n), order)
			all := []int{}
			for sender := range n {
				all = append(all, sender)
			}
			checkStuck(t, ring, all...)
			for sender := range n {
				checkStuck(t, withHold(ring, sender, idle(ring.Holds[sender].Has...)))
				if n < impl.MaxTraces {
					other := copyOf(ring)
					other.Holds = append(other.Holds, idle(ring.Holds[sender].Has...))
					checkStuck(t, other)
					other.Holds[n] = waits(ring.Holds[sender].Has[0])
					checkStuck(t, other, append(slices.Clone(all), n)...)
				}
			}
		})
	}
}

// TestCreditsStuckChains has chains of all lengths: they end at a sender that does not wait, at one that waits for a group of which nobody has a credit, or at two that wait for each other.
func TestCreditsStuckChains(t *testing.T) {
	for n := 1; n <= impl.MaxGroups; n++ {
		chain := creditsOf(freeOf(0))
		for sender := range n {
			chain.Holds = append(chain.Holds, waits(sender+1, sender))
		}
		chain.Holds[n-1] = idle(n - 1)
		permutations(n, func(order []int) {
			c := permuted(chain, order)
			checkStuck(t, c)
			end := slices.Index(order, n-1)
			all := []int{}
			for sender := range n {
				all = append(all, sender)
			}
			if n < impl.MaxGroups {
				checkStuck(t, withHold(c, end, waits(4, n-1)), all...)
			}
			if n > 1 {
				checkStuck(t, withHold(c, end, waits(n-2, n-1)), all...)
			}
		})
	}
}

// TestCreditsStuckHas has all sets of senders that have a credit of a group, of which some are stuck: who waits for it is stuck if all of them are.
func TestCreditsStuckHas(t *testing.T) {
	for bits := range 1 << 5 {
		for stuck := range 1 << 5 {
			c := creditsOf(freeOf(0), waits(2))
			want := []int{}
			for sender := 1; sender <= 5; sender++ {
				h := idle()
				if bits>>(sender-1)&1 == 1 {
					h = idle(2)
				}
				if stuck>>(sender-1)&1 == 1 {
					// Nobody has a credit of group 4.
					h.Wait = 4
					want = append(want, sender)
				}
				c.Holds = append(c.Holds, h)
			}
			if bits&^stuck == 0 {
				want = slices.Insert(want, 0, 0)
			}
			checkStuck(t, c, want...)
		}
	}
}

// TestCreditsStuckKinds checks that the valid credits have nobody, some and all senders stuck, and also senders that wait and are not.
func TestCreditsStuckKinds(t *testing.T) {
	numbers := [impl.MaxTraces + 1]int{}
	some, waiting := 0, 0
	for _, c := range validCredits() {
		stuck := wantedStuck(c)
		checkStuck(t, c, stuck...)
		numbers[len(stuck)]++
		if 0 < len(stuck) && len(stuck) < len(c.Holds) {
			some++
		}
		for sender, h := range c.Holds {
			if h.Wait >= 0 && !slices.Contains(stuck, sender) {
				waiting++
			}
		}
	}
	if slices.Min(numbers[:]) < 10 || some < 300 || waiting < 1000 {
		t.Errorf("the numbers of stuck senders are %v; %d times some are, and %d wait and are not", numbers, some, waiting)
	}
}

func TestCreditsOrderedExamples(t *testing.T) {
	for place := range 3 {
		for _, x := range []struct {
			h    impl.Hold
			want bool
		}{
			// It waits below, between and above those that it has.
			{waits(0, 1, 3), false},
			{waits(2, 1, 3), false},
			{waits(4, 1, 3), true},
			{waits(0, 1), false},
			{waits(1, 0), true},
			{waits(3, 4), false},
			{waits(4, 3), true},
			{waits(0, 1, 2, 3, 4), false},
			{waits(3, 0, 1, 2, 4), false},
			{waits(4, 0, 1, 2, 3), true},
			{waits(1, 0, 2), false},
			{waits(1, 0, 4), false},
			// It has nothing, or does not wait.
			{waits(0), true},
			{waits(4), true},
			{impl.Hold{Has: []int{}, Wait: 0}, true},
			{idle(), true},
			{idle(0), true},
			{idle(4), true},
			{idle(0, 1, 2, 3, 4), true},
		} {
			c := creditsOf(freeOf(0), idle(4), waits(1, 0), waits(2))
			checkOrdered(t, withHold(c, place, x.h), x.want)
		}
	}
	// Only one sender is out of order, or all are.
	checkOrdered(t, creditsOf(freeOf(0), waits(0, 1), waits(4, 0)), false)
	checkOrdered(t, creditsOf(freeOf(0), waits(4, 0), waits(0, 1)), false)
	checkOrdered(t, creditsOf(freeOf(0), waits(0, 1), waits(0, 1)), false)
	checkOrdered(t, creditsOf(freeOf(0), waits(4, 0), waits(4, 0)), true)
	// It is the credits of the sender itself that count, not those of others.
	checkOrdered(t, creditsOf(freeOf(0), idle(4), waits(0), idle(2, 3)), true)
}

// TestCreditsOrderedPlaces lets a sender with any set wait for any group: only the last of the set counts.
func TestCreditsOrderedPlaces(t *testing.T) {
	for _, set := range allSets() {
		for group := range impl.MaxGroups {
			if !slices.Contains(set, group) {
				for _, c := range []impl.Credits{creditsOf(freeOf(0), waits(group, set...)), creditsOf(freeOf(0), idle(), waits(group, set...)), creditsOf(freeOf(0), waits(group, set...), idle(4))} {
					checkOrdered(t, c, group > slices.Max(set))
				}
			}
		}
	}
}

// stepAsk asks, and checks the results.
func stepAsk(t *testing.T, c impl.Credits, sender, group int) impl.Credits {
	t.Helper()
	want, wantOk := wantedAsk(c, sender, group)
	return checkAsk(t, c, sender, group, want, wantOk)
}

// stepGive gives back, and checks the results.
func stepGive(t *testing.T, c impl.Credits, sender int) impl.Credits {
	t.Helper()
	want, wantOk := wantedGive(c, sender)
	return checkGive(t, c, sender, want, wantOk)
}

// allWaiting returns the senders that wait.
func allWaiting(c impl.Credits) []int {
	list := []int{}
	for sender, h := range c.Holds {
		if h.Wait >= 0 {
			list = append(list, sender)
		}
	}
	return list
}

// TestCreditsSequenceAscending lets each sender, three times, ask for the groups of a set in ascending order, and give back when it has them all. The numbers of credits stay, the credits stay ordered, nobody is ever stuck, and all come to the end.
func TestCreditsSequenceAscending(t *testing.T) {
	r := rand.New(rand.NewPCG(47, 48))
	waited := 0
	for n := 1; n <= impl.MaxTraces; n++ {
		for range 60 {
			free := []int{1 + r.IntN(2), 1, 1 + r.IntN(2), 1, 1 + r.IntN(3)}
			c, _ := impl.CreditsNew(free, n)
			wanted, rounds := make([][]int, n), make([]int, n)
			for sender := range n {
				wanted[sender] = allSets()[r.IntN(31)]
			}
			for step := 0; slices.Min(rounds) < 3; step++ {
				if step > 5000 {
					t.Fatalf("there is no end: %v", c)
				}
				sender := r.IntN(n)
				h := c.Holds[sender]
				if rounds[sender] == 3 {
					continue
				}
				if slices.Equal(h.Has, wanted[sender]) {
					c = stepGive(t, c, sender)
					wanted[sender] = allSets()[r.IntN(31)]
					rounds[sender]++
				} else {
					c = stepAsk(t, c, sender, wanted[sender][len(h.Has)])
				}
				waited += len(allWaiting(c))
				if !slices.Equal(numbersOf(c), free) {
					t.Fatalf("the numbers are not %v: %v", free, c)
				}
				checkCredits(t, c)
				checkOrdered(t, c, true)
				checkStuck(t, c)
			}
		}
	}
	if waited < 1000 {
		t.Errorf("only %d times somebody waits", waited)
	}
}

// TestCreditsSequenceAny lets senders ask for groups in any order, and give back at any time. The numbers of credits stay, and it is as the document says who is stuck: some are, and remain so.
func TestCreditsSequenceAny(t *testing.T) {
	r := rand.New(rand.NewPCG(49, 50))
	everStuck, disordered := 0, 0
	for n := 1; n <= impl.MaxTraces; n++ {
		for range 60 {
			free := []int{r.IntN(3), r.IntN(2), 1, r.IntN(2), 9}
			c, _ := impl.CreditsNew(free, n)
			stuck := []int{}
			for range 60 {
				if sender := r.IntN(n); r.IntN(5) == 0 {
					c = stepGive(t, c, sender)
				} else {
					c = stepAsk(t, c, sender, r.IntN(impl.MaxGroups))
				}
				if !slices.Equal(numbersOf(c), free) {
					t.Fatalf("the numbers are not %v: %v", free, c)
				}
				checkCredits(t, c)
				if !wantedOrdered(c) {
					disordered++
				}
				// Only senders that are not stuck give back, so who is stuck remains so.
				now := impl.CreditsStuck(c)
				if !within(stuck, now) {
					t.Fatalf("%v were stuck: %v", stuck, c)
				}
				stuck = now
			}
			everStuck += len(stuck)
		}
	}
	if everStuck < 300 || disordered < 1000 {
		t.Errorf("only %d senders are stuck in the end, and %d times the credits are not ordered", everStuck, disordered)
	}
}

// TestCreditsSequenceAll has all short sequences of two senders and two groups.
func TestCreditsSequenceAll(t *testing.T) {
	for _, free := range [][]int{{1, 0, 0, 0, 1}, {1, 0, 0, 0, 2}, {0, 0, 0, 0, 1}, {9, 0, 0, 0, 9}} {
		var play func(c impl.Credits, steps int)
		play = func(c impl.Credits, steps int) {
			checkCredits(t, c)
			if !slices.Equal(numbersOf(c), free) {
				t.Fatalf("the numbers are not %v: %v", free, c)
			}
			if steps == 0 {
				return
			}
			for sender := range 2 {
				play(stepAsk(t, c, sender, 0), steps-1)
				play(stepAsk(t, c, sender, 4), steps-1)
				play(stepGive(t, c, sender), steps-1)
			}
		}
		c, _ := impl.CreditsNew(free, 2)
		play(c, 4)
	}
}

// TestCreditsSequenceTwo has two senders that take two groups: in ascending order, and in opposite orders.
func TestCreditsSequenceTwo(t *testing.T) {
	c, _ := impl.CreditsNew([]int{0, 1, 0, 1, 0}, 2)
	c = checkAsk(t, c, 0, 1, creditsOf([]int{0, 0, 0, 1, 0}, idle(1), idle()), true)
	ascending := checkAsk(t, c, 1, 1, creditsOf([]int{0, 0, 0, 1, 0}, idle(1), waits(1)), true)
	checkStuck(t, ascending)
	ascending = checkAsk(t, ascending, 0, 3, creditsOf(freeOf(0), idle(1, 3), waits(1)), true)
	checkStuck(t, ascending)
	ascending = checkGive(t, ascending, 0, creditsOf([]int{0, 0, 0, 1, 0}, idle(), idle(1)), true)
	ascending = checkAsk(t, ascending, 1, 3, creditsOf(freeOf(0), idle(), idle(1, 3)), true)
	checkGive(t, ascending, 1, creditsOf([]int{0, 1, 0, 1, 0}, idle(), idle()), true)
	c = checkAsk(t, c, 1, 3, creditsOf(freeOf(0), idle(1), idle(3)), true)
	c = checkAsk(t, c, 0, 3, creditsOf(freeOf(0), waits(3, 1), idle(3)), true)
	checkOrdered(t, c, true)
	checkStuck(t, c)
	stuck := checkAsk(t, c, 1, 1, creditsOf(freeOf(0), waits(3, 1), waits(1, 3)), true)
	checkOrdered(t, stuck, false)
	checkStuck(t, stuck, 0, 1)
	checkGive(t, stuck, 0, stuck, false)
	checkGive(t, stuck, 1, stuck, false)
	checkGive(t, c, 1, creditsOf([]int{0, 0, 0, 0, 0}, idle(1, 3), idle()), true)
}

// TestP85 checks that new credits are valid and ordered, that nobody has or waits for one, and nobody is stuck.
func TestP85(t *testing.T) {
	r := rand.New(rand.NewPCG(51, 52))
	lists := append(tuples([]int{0, 9}, impl.MaxGroups), tuples([]int{1, 4, 8}, impl.MaxGroups)...)
	for range 100 {
		lists = append(lists, []int{r.IntN(10), r.IntN(10), r.IntN(10), r.IntN(10), r.IntN(10)})
	}
	for _, free := range lists {
		for senders := 1; senders <= impl.MaxTraces; senders++ {
			c, ok := impl.CreditsNew(free, senders)
			if !ok || !impl.CreditsValid(c) || !impl.CreditsOrdered(c) || len(impl.CreditsStuck(c)) != 0 {
				t.Errorf("CreditsNew(%v, %d) = %v, %v", free, senders, c, ok)
			}
			busy := slices.ContainsFunc(c.Holds, func(h impl.Hold) bool { return len(h.Has) > 0 || h.Wait != -1 })
			if busy || len(c.Holds) != senders || !slices.Equal(c.Free, free) {
				t.Errorf("CreditsNew(%v, %d) = %v", free, senders, c)
			}
		}
	}
}

// TestP86 checks that the number of credits of each group stays the same, whether something is asked for and given back or not.
func TestP86(t *testing.T) {
	everyAsk(func(c impl.Credits, sender, group int) {
		if after, _ := impl.CreditsAsk(c, sender, group); !slices.Equal(numbersOf(after), numbersOf(c)) {
			t.Errorf("CreditsAsk(%v, %d, %d) = %v", c, sender, group, after)
		}
	})
	everyGive(func(c impl.Credits, sender int) {
		if after, _ := impl.CreditsGive(c, sender); !slices.Equal(numbersOf(after), numbersOf(c)) {
			t.Errorf("CreditsGive(%v, %d) = %v", c, sender, after)
		}
	})
}

// TestP87 checks that who asks has a credit of the group if there was a free one, and waits otherwise, and that nobody else changes.
func TestP87(t *testing.T) {
	got, waiting := 0, 0
	everyAsk(func(c impl.Credits, sender, group int) {
		after, ok := impl.CreditsAsk(c, sender, group)
		if !ok {
			return
		}
		has := slices.Contains(after.Holds[sender].Has, group)
		if c.Free[group] > 0 {
			got++
			if !has || after.Holds[sender].Wait != -1 || after.Free[group] != c.Free[group]-1 {
				t.Errorf("CreditsAsk(%v, %d, %d) = %v", c, sender, group, after)
			}
		} else {
			waiting++
			if has || after.Holds[sender].Wait != group || after.Free[group] != 0 {
				t.Errorf("CreditsAsk(%v, %d, %d) = %v", c, sender, group, after)
			}
		}
		for other := range c.Holds {
			if other != sender && !sameHold(after.Holds[other], c.Holds[other]) {
				t.Errorf("CreditsAsk(%v, %d, %d) = %v changes sender %d", c, sender, group, after, other)
			}
		}
	})
	if got < 1000 || waiting < 1000 {
		t.Errorf("only %d senders have got a credit, and %d wait", got, waiting)
	}
}

// TestP88 checks that CreditsAsk fails if and only if the sender waits, or has a credit of the group, and that nothing changes then.
func TestP88(t *testing.T) {
	everyAsk(func(c impl.Credits, sender, group int) {
		h := c.Holds[sender]
		after, ok := impl.CreditsAsk(c, sender, group)
		if ok == (h.Wait >= 0 || slices.Contains(h.Has, group)) || ok == sameCredits(after, c) {
			t.Errorf("CreditsAsk(%v, %d, %d) = %v, %v", c, sender, group, after, ok)
		}
	})
}

// TestP89 checks that who has given back has nothing, that the first one that waited for each group has a credit now, and that nobody else changes.
func TestP89(t *testing.T) {
	count := 0
	everyGive(func(c impl.Credits, sender int) {
		after, ok := impl.CreditsGive(c, sender)
		if !ok {
			return
		}
		if !sameHold(after.Holds[sender], idle()) {
			t.Errorf("CreditsGive(%v, %d) = %v", c, sender, after)
		}
		served := []int{sender}
		for _, group := range c.Holds[sender].Has {
			if line := waitersOf(c, group); len(line) > 0 {
				count++
				h := after.Holds[line[0]]
				served = append(served, line[0])
				if !slices.Contains(h.Has, group) || len(h.Has) != len(c.Holds[line[0]].Has)+1 || !impl.GroupsValid(h.Has) || h.Wait != -1 {
					t.Errorf("CreditsGive(%v, %d) = %v", c, sender, after)
				}
			}
		}
		for other := range c.Holds {
			if !slices.Contains(served, other) && !sameHold(after.Holds[other], c.Holds[other]) {
				t.Errorf("CreditsGive(%v, %d) = %v changes sender %d", c, sender, after, other)
			}
		}
	})
	if count < 1000 {
		t.Errorf("only %d senders are served", count)
	}
}

// TestP90 checks that CreditsGive fails if the sender waits or has nothing, and that nothing changes if it fails.
func TestP90(t *testing.T) {
	failed := 0
	everyGive(func(c impl.Credits, sender int) {
		after, ok := impl.CreditsGive(c, sender)
		if h := c.Holds[sender]; ok && (h.Wait >= 0 || len(h.Has) == 0) {
			t.Errorf("CreditsGive(%v, %d) succeeds", c, sender)
		}
		if ok == sameCredits(after, c) {
			t.Errorf("CreditsGive(%v, %d) = %v, %v", c, sender, after, ok)
		}
		if !ok {
			failed++
		}
	})
	if failed < 1000 {
		t.Errorf("only %d times it fails", failed)
	}
}

// TestP91 checks that who is stuck waits for stuck senders only, and that everybody else does not wait, or for one that is not stuck.
func TestP91(t *testing.T) {
	for _, c := range validCredits() {
		stuck := impl.CreditsStuck(c)
		for sender, h := range c.Holds {
			want := h.Wait >= 0 && within(holdersOf(c, h.Wait), stuck)
			if slices.Contains(stuck, sender) != want {
				t.Errorf("CreditsStuck(%v) = %v", c, stuck)
			}
		}
		if !slices.IsSorted(stuck) || len(slices.Compact(slices.Clone(stuck))) != len(stuck) {
			t.Errorf("CreditsStuck(%v) = %v", c, stuck)
		}
	}
}

// TestP92 checks that nobody is stuck if the credits are ordered, and somebody has a credit of each group for which one waits.
func TestP92(t *testing.T) {
	count := 0
	for _, c := range validCredits() {
		unheld := slices.ContainsFunc(c.Holds, func(h impl.Hold) bool { return h.Wait >= 0 && len(holdersOf(c, h.Wait)) == 0 })
		if impl.CreditsOrdered(c) && !unheld {
			checkStuck(t, c)
			if len(allWaiting(c)) > 1 {
				count++
			}
		}
	}
	if count < 100 {
		t.Errorf("only %d times several senders wait", count)
	}
}

// TestP93 checks that ordered credits stay ordered when a sender asks for a greater group than those that it has.
func TestP93(t *testing.T) {
	waiting := 0
	for _, c := range orderedCredits() {
		checkOrdered(t, c, true)
		for sender, h := range c.Holds {
			for group := range impl.MaxGroups {
				if len(h.Has) > 0 && slices.Max(h.Has) >= group {
					continue
				}
				after, ok := impl.CreditsAsk(c, sender, group)
				checkOrdered(t, after, true)
				if ok && len(h.Has) > 0 && after.Holds[sender].Wait >= 0 {
					waiting++
				}
			}
		}
	}
	if waiting < 100 {
		t.Errorf("only %d senders with credits wait then", waiting)
	}
}

// TestP94 checks that ordered credits are ordered after CreditsGive.
func TestP94(t *testing.T) {
	count := 0
	for _, c := range orderedCredits() {
		for sender := range c.Holds {
			after, ok := impl.CreditsGive(c, sender)
			checkOrdered(t, after, true)
			if ok && len(allWaiting(c)) > 1 {
				count++
			}
		}
	}
	if count < 100 {
		t.Errorf("only %d senders give back while several wait", count)
	}
}

// TestP95 checks that in ordered credits each sender that waits does so for a greater group than all that it has.
func TestP95(t *testing.T) {
	for _, c := range validCredits() {
		if !impl.CreditsOrdered(c) {
			continue
		}
		for _, h := range c.Holds {
			if h.Wait >= 0 && len(h.Has) > 0 && slices.Max(h.Has) >= h.Wait {
				t.Errorf("CreditsOrdered(%v) = true", c)
			}
		}
	}
}

// TestP96 checks that who has got its only credit can give it back, and that everything is as before then.
func TestP96(t *testing.T) {
	count := 0
	everyAsk(func(c impl.Credits, sender, group int) {
		if len(c.Holds[sender].Has) > 0 || c.Free[group] == 0 {
			return
		}
		after, ok := impl.CreditsAsk(c, sender, group)
		if ok {
			count++
			checkGive(t, after, sender, c, true)
		}
	})
	if count < 1000 {
		t.Errorf("only %d senders have got a credit", count)
	}
}

// TestP97 checks that who is stuck after CreditsGive was stuck before.
func TestP97(t *testing.T) {
	count := 0
	everyGive(func(c impl.Credits, sender int) {
		after, ok := impl.CreditsGive(c, sender)
		stuck := impl.CreditsStuck(after)
		if !within(stuck, impl.CreditsStuck(c)) {
			t.Errorf("CreditsGive(%v, %d) = %v, where %v are stuck", c, sender, after, stuck)
		}
		if ok && len(stuck) > 0 {
			count++
		}
	})
	if count < 100 {
		t.Errorf("only %d times somebody is stuck afterwards", count)
	}
}

// spareHolds returns a copy of senders with space behind them, and behind all that they have.
func spareHolds(holds []impl.Hold) []impl.Hold {
	list := []impl.Hold{}
	for _, h := range holds {
		list = append(list, impl.Hold{Has: spare(h.Has), Wait: h.Wait})
	}
	behind := impl.Hold{Has: spare([]int{77}), Wait: 77}
	return append(list, behind, behind)[:len(holds)]
}

// spareCredits returns a copy of credits with space behind all lists.
func spareCredits(c impl.Credits) impl.Credits {
	return creditsOf(spare(c.Free), spareHolds(c.Holds)...)
}

// wholeCredits returns what is in the memory of credits, as text.
func wholeCredits(c impl.Credits) string {
	text := fmt.Sprint(whole(c.Free), len(c.Free), len(c.Holds))
	for _, h := range c.Holds[:cap(c.Holds)] {
		text += fmt.Sprint("/", whole(h.Has), len(h.Has), h.Wait)
	}
	return text
}

// overwriteCredits fills all the memory of credits.
func overwriteCredits(c impl.Credits) {
	overwrite(c.Free)
	holds := c.Holds[:cap(c.Holds)]
	for i, h := range holds {
		overwrite(h.Has)
		holds[i] = waits(99, 99)
	}
}

// checkCreditsApart checks that no list of credits shares memory with another one of them.
func checkCreditsApart(t *testing.T, c impl.Credits) {
	t.Helper()
	lists := [][]int{c.Free}
	for _, h := range c.Holds[:cap(c.Holds)] {
		lists = append(lists, h.Has)
	}
	for i := range lists {
		rest := slices.Delete(slices.Clone(lists), i, i+1)
		want := wholeList(rest)
		overwrite(lists[i])
		if wholeList(rest) != want {
			t.Fatalf("the lists of credits share memory: %v", c)
		}
	}
}

// checkCreditsMemory checks that f leaves its argument, and what is behind it, and that its result shares memory neither with another one nor with the argument, and its lists not with each other.
func checkCreditsMemory(t *testing.T, argument impl.Credits, f func(c impl.Credits) impl.Credits) {
	t.Helper()
	before := wholeCredits(argument)
	first, second := f(argument), f(argument)
	want := wholeCredits(second)
	overwriteCredits(first)
	if wholeCredits(argument) != before {
		t.Fatalf("an argument was changed: %s", before)
	}
	if wholeCredits(second) != want {
		t.Fatalf("the results of two calls share memory: %s", before)
	}
	overwriteCredits(argument)
	if wholeCredits(second) != want {
		t.Fatalf("a result shares memory with the argument: %s", before)
	}
	checkCreditsApart(t, second)
}

// TestCreditsMemory checks the memory of all functions, for valid credits, for which they succeed and fail, and for invalid ones.
func TestCreditsMemory(t *testing.T) {
	for i, c := range append(slices.Clone(validCredits()), badCredits()...) {
		for sender := range min(len(c.Holds), impl.MaxTraces) + 1 {
			checkCreditsMemory(t, spareCredits(c), func(c impl.Credits) impl.Credits {
				after, _ := impl.CreditsGive(c, sender)
				return after
			})
			checkCreditsMemory(t, spareCredits(c), func(c impl.Credits) impl.Credits {
				after, _ := impl.CreditsAsk(c, sender, (i+sender)%(impl.MaxGroups+1))
				return after
			})
		}
		checkCreditsMemory(t, spareCredits(c), func(c impl.Credits) impl.Credits {
			impl.CreditsValid(c)
			impl.CreditsOrdered(c)
			return impl.Credits{Free: impl.CreditsStuck(c)}
		})
	}
}

// TestCreditsNewMemory checks the memory of CreditsNew, whose senders have lists of their own.
func TestCreditsNewMemory(t *testing.T) {
	for _, free := range append(badFree(), freeOf(0), freeOf(9), []int{1, 2, 3, 4, 5}) {
		for senders := range impl.MaxTraces + 2 {
			checkCreditsMemory(t, spareCredits(impl.Credits{Free: free}), func(c impl.Credits) impl.Credits {
				after, _ := impl.CreditsNew(c.Free, senders)
				return after
			})
		}
	}
}

// TestCreditsSharedArgument has senders whose lists share memory with each other, and with the free credits: those of the results do not.
func TestCreditsSharedArgument(t *testing.T) {
	shared := func() impl.Credits {
		numbers := []int{0, 1, 2, 3, 4, 0, 0, 0, 0, 0}
		return creditsOf(numbers[5:], idle(numbers[:2]...), idle(numbers[:4]...), waits(4, numbers[:2]...), idle(numbers[1:5]...), waits(0, numbers[1:3]...))
	}
	for sender := range 5 {
		checkCreditsMemory(t, shared(), func(c impl.Credits) impl.Credits {
			want, wantOk := wantedGive(c, sender)
			return checkGive(t, c, sender, want, wantOk)
		})
		for group := range impl.MaxGroups {
			checkCreditsMemory(t, shared(), func(c impl.Credits) impl.Credits {
				want, wantOk := wantedAsk(c, sender, group)
				return checkAsk(t, c, sender, group, want, wantOk)
			})
		}
	}
}

// TestCreditsSpareSpace checks that what is given to two senders from the same credits does not overwrite each other.
func TestCreditsSpareSpace(t *testing.T) {
	c, _ := impl.CreditsNew(freeOf(3), 2)
	c, _ = impl.CreditsAsk(c, 0, 0)
	c, _ = impl.CreditsAsk(c, 0, 1)
	one, _ := impl.CreditsAsk(c, 0, 2)
	other, _ := impl.CreditsAsk(c, 0, 4)
	if !slices.Equal(one.Holds[0].Has, []int{0, 1, 2}) || !slices.Equal(other.Holds[0].Has, []int{0, 1, 4}) || !slices.Equal(c.Holds[0].Has, []int{0, 1}) {
		t.Errorf("from %v, CreditsAsk leads to %v and %v", c, one, other)
	}
}
