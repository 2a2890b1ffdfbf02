package tests

import (
	"fmt"
	"math/rand/v2"
	"slices"
	"sync"
	"testing"

	"loop.example/groupmulticast/impl"
)

// groupWith returns a group with these entries, and the time of the last one as its clock. Those before the first proposed one are delivered.
func groupWith(id int, entries ...impl.Entry) impl.Group {
	clock := 0
	for _, e := range entries {
		clock = max(clock, e.Stamp.Time)
	}
	return splitGroup(id, clock, slices.Clone(entries))
}

// atClock returns a group with another clock.
func atClock(g impl.Group, clock int) impl.Group {
	g.Clock = clock
	return g
}

// systemOf returns a system with these groups at their places, and new ones at the others.
func systemOf(groups ...impl.Group) []impl.Group {
	system := []impl.Group{}
	for id := range impl.MaxGroups {
		system = append(system, impl.Group{Id: id})
	}
	for _, g := range groups {
		system[g.Id] = g
	}
	return system
}

// withGroup returns a system with another group at the place of its number.
func withGroup(groups []impl.Group, g impl.Group) []impl.Group {
	system := slices.Clone(groups)
	system[g.Id] = g
	return system
}

// sameSystem reports whether two lists of groups are equal.
func sameSystem(a, b []impl.Group) bool {
	return slices.EqualFunc(a, b, sameGroup)
}

// entryIn returns the entry of a message in a group, and whether there is one.
func entryIn(g impl.Group, message int) (impl.Entry, bool) {
	return entryOf(slices.Concat(g.Pending, g.Done), message)
}

// entriesIn returns the entries of a message that some groups have.
func entriesIn(groups []impl.Group, set []int, message int) []impl.Entry {
	entries := []impl.Entry{}
	for _, group := range set {
		if e, has := entryIn(groups[group], message); has {
			entries = append(entries, e)
		}
	}
	return entries
}

// finalsIn returns the final stamps of a message that some groups know.
func finalsIn(groups []impl.Group, set []int, message int) []impl.Stamp {
	stamps := []impl.Stamp{}
	for _, e := range entriesIn(groups, set, message) {
		if e.Final {
			stamps = append(stamps, e.Stamp)
		}
	}
	return stamps
}

// everyone is the set of all groups.
var everyone = []int{0, 1, 2, 3, 4}

// wantedSystem returns what the document says of SystemValid, one condition after the other.
func wantedSystem(groups []impl.Group) bool {
	if len(groups) != 5 {
		return false
	}
	for i, g := range groups {
		if !wantedValid(g) || g.Id != i {
			return false
		}
	}
	for message := range impl.MaxMessages {
		for _, s := range finalsIn(groups, everyone, message) {
			for _, e := range entriesIn(groups, everyone, message) {
				if e.Final && e.Stamp != s || !e.Final && place(e.Stamp) > place(s) {
					return false
				}
			}
		}
	}
	return true
}

// wantedStamp returns what the document says of RecoverStamp of valid arguments, or of groups that are no system.
func wantedStamp(groups []impl.Group, set []int, message int) (impl.Stamp, bool) {
	if finals := finalsIn(groups, set, message); len(finals) > 0 {
		return finals[0], true
	}
	entries := entriesIn(groups, set, message)
	if len(entries) < len(set) {
		return impl.Stamp{}, false
	}
	return slices.MaxFunc(entries, func(a, b impl.Entry) int { return place(a.Stamp) - place(b.Stamp) }).Stamp, true
}

// wantedAll returns what the document says of RecoverAll of valid arguments, one group after the other.
func wantedAll(groups []impl.Group, set []int, message int) ([]impl.Group, bool) {
	after := slices.Clone(groups)
	for _, group := range set {
		after[group], _, _ = wantedPropose(after[group], message)
	}
	s, ok := wantedStamp(after, set, message)
	if !ok {
		return groups, false
	}
	for _, group := range set {
		after[group], _, _ = wantedFinal(after[group], message, s)
	}
	if len(finalsIn(after, set, message)) < len(set) {
		return groups, false
	}
	return after, true
}

// randomSystem returns a valid system of n messages with times from..to. Each group knows a part of percent of the messages, and final stamps of a part of those that may be finished.
func randomSystem(r *rand.Rand, n, from, to, percent int) []impl.Group {
	lists := make([][]impl.Entry, impl.MaxGroups)
	for _, message := range r.Perm(impl.MaxMessages)[:n] {
		decided := final(message, from+r.IntN(to-from+1), r.IntN(impl.MaxGroups))
		finished := r.IntN(2) == 0
		for id := range impl.MaxGroups {
			e := proposed(message, from+r.IntN(to-from+1), id)
			if finished && r.IntN(2) == 0 {
				e = decided
			}
			unfit := finished && place(e.Stamp) > place(decided.Stamp)
			taken := slices.ContainsFunc(lists[id], func(other impl.Entry) bool { return other.Stamp == e.Stamp })
			if !unfit && !taken && r.IntN(100) < percent {
				lists[id] = append(lists[id], e)
			}
		}
	}
	system := []impl.Group{}
	for id, list := range lists {
		g := groupWith(id, list...)
		g.Clock = []int{g.Clock, min(g.Clock+1, 999), g.Clock + r.IntN(1000-g.Clock), 999}[r.IntN(4)]
		system = append(system, g)
	}
	return system
}

// playedSystem returns a system that proposals and final stamps of messages with sets lead to, in the way of senders of which some have stopped.
func playedSystem(r *rand.Rand, steps int) []impl.Group {
	system := systemOf()
	sets := [][]int{}
	for range impl.MaxMessages {
		sets = append(sets, allSets()[r.IntN(31)])
	}
	for range steps {
		message := r.IntN(impl.MaxMessages)
		set := sets[message]
		group := set[r.IntN(len(set))]
		system[group], _, _ = wantedPropose(system[group], message)
		if s, ok := wantedStamp(system, set, message); ok {
			system[group], _, _ = wantedFinal(system[group], message, s)
		}
	}
	return system
}

// randomSystems are valid systems of all numbers of messages, always the same: with stamps near each other, far away, and up to MaxTime.
var randomSystems = sync.OnceValue(func() [][]impl.Group {
	systems := [][]impl.Group{}
	r := rand.New(rand.NewPCG(23, 24))
	for n := range impl.MaxMessages + 1 {
		for _, percent := range []int{40, 70, 90, 100} {
			for range 2 {
				systems = append(systems, randomSystem(r, n, 1, n+3, percent), randomSystem(r, n, 1, impl.MaxTime, percent))
			}
			systems = append(systems, randomSystem(r, n, 996-n, impl.MaxTime, percent))
		}
		for range 10 {
			systems = append(systems, playedSystem(r, 8*n))
		}
	}
	return systems
})

// smallSystems are all systems, valid or not, of a message 3 of which the groups 0, 1 and 4 have heard nothing, have proposed a stamp, or know a final one, and behind which the message 6 waits in group 1.
var smallSystems = sync.OnceValue(func() [][]impl.Group {
	systems := [][]impl.Group{}
	for _, states := range tuples([]int{0, 1, 2, 3, 4, 5}, 3) {
		system := systemOf(atClock(groupWith(2, proposed(3, 2, 2)), 4), groupWith(3, final(3, 2, 4)))
		if len(systems)%2 == 0 {
			system[3] = impl.Group{Id: 3}
		}
		for i, id := range []int{0, 1, 4} {
			entries := [][]impl.Entry{nil, {proposed(3, 1, id)}, {proposed(3, 3, id)}, {final(3, 2, 2)}, {final(3, 2, 4)}, {final(3, 3, 1)}}[states[i]]
			if id == 1 {
				entries = append(entries, final(6, 4, 1))
			}
			system[id] = groupWith(id, entries...)
		}
		systems = append(systems, system)
	}
	return systems
})

// recovery has arguments of RecoverStamp and RecoverAll.
type recovery struct {
	groups  []impl.Group
	set     []int
	message int
}

// recoveries are valid arguments, always the same: each system with all sets, and with messages that some groups know and others.
var recoveries = sync.OnceValue(func() []recovery {
	list := []recovery{}
	for i, groups := range randomSystems() {
		for k, set := range allSets() {
			for _, message := range []int{(i + k) % 12, (i + 5*k + 4) % 12} {
				list = append(list, recovery{groups, set, message})
			}
		}
	}
	for _, groups := range smallSystems() {
		for _, set := range allSets() {
			if wantedSystem(groups) {
				list = append(list, recovery{groups, set, 3})
			}
		}
	}
	return list
})

// checkSystem checks the result of SystemValid.
func checkSystem(t *testing.T, groups []impl.Group, want bool) {
	t.Helper()
	if got := impl.SystemValid(groups); got != want {
		t.Errorf("SystemValid(%v) = %v", groups, got)
	}
}

// checkRecoverStamp checks the results of RecoverStamp.
func checkRecoverStamp(t *testing.T, groups []impl.Group, set []int, message int, want impl.Stamp, wantOk bool) {
	t.Helper()
	if s, ok := impl.RecoverStamp(groups, set, message); s != want || ok != wantOk {
		t.Errorf("RecoverStamp(%v, %v, %d) = %v, %v, not %v, %v", groups, set, message, s, ok, want, wantOk)
	}
}

// checkRecoverAll checks the results of RecoverAll.
func checkRecoverAll(t *testing.T, groups []impl.Group, set []int, message int, want []impl.Group, wantOk bool) {
	t.Helper()
	if after, ok := impl.RecoverAll(groups, set, message); !sameSystem(after, want) || ok != wantOk {
		t.Errorf("RecoverAll(%v, %v, %d) = %v, %v, not %v, %v", groups, set, message, after, ok, want, wantOk)
	}
}

// checkRefused checks that RecoverAll of valid arguments fails and returns unchanged groups.
func checkRefused(t *testing.T, groups []impl.Group, set []int, message int) {
	t.Helper()
	checkSystem(t, groups, true)
	checkRecoverAll(t, groups, set, message, groups, false)
}

// checkInvalid checks that RecoverStamp and RecoverAll return zero values and false.
func checkInvalid(t *testing.T, groups []impl.Group, set []int, message int) {
	t.Helper()
	checkRecoverStamp(t, groups, set, message, impl.Stamp{}, false)
	checkRecoverAll(t, groups, set, message, nil, false)
}

// checkNoSystem checks that all functions refuse groups, whatever the other arguments are.
func checkNoSystem(t *testing.T, groups []impl.Group) {
	t.Helper()
	checkSystem(t, groups, false)
	for _, set := range [][]int{{0}, {4}, {1, 3}, {2, 3, 4}, everyone, nil, {3, 1}, {4, 5}} {
		for _, message := range []int{0, 3, 7, 11, -1, 12} {
			checkInvalid(t, groups, set, message)
		}
	}
}

// finish checks that RecoverAll succeeds with a final stamp and a valid system, and returns it.
func finish(t *testing.T, groups []impl.Group, set []int, message int, s impl.Stamp) []impl.Group {
	t.Helper()
	after, ok := impl.RecoverAll(groups, set, message)
	if !ok {
		t.Fatalf("RecoverAll(%v, %v, %d) failed", groups, set, message)
	}
	checkSystem(t, after, true)
	for _, group := range set {
		checkStamp(t, after[group], message, impl.Entry{Message: message, Stamp: s, Final: true}, true)
	}
	checkRecoverStamp(t, after, set, message, s, true)
	return after
}

// checkGroup checks the clock and the lists of one group of a system.
func checkGroup(t *testing.T, groups []impl.Group, id, clock int, pending, done []impl.Entry) {
	t.Helper()
	if groups[id].Id != id {
		t.Errorf("group %d is %v", id, groups[id])
	}
	checkEntries(t, groups[id], clock, pending, done)
}

// TestRecoverWithFinals has a message whose final stamp none of its groups knows, one of them, some and all.
func TestRecoverWithFinals(t *testing.T) {
	set := []int{0, 1, 3, 4}
	for bits := range 1 << len(set) {
		groups := systemOf(groupWith(2, proposed(9, 1, 2)))
		greatest := stamp(6, 4)
		for i, id := range set {
			groups[id] = groupWith(id, proposed(8, 1, id), proposed(5, 2+id, id))
			if bits>>i&1 == 1 {
				greatest = stamp(8, 3)
				groups[id] = groupWith(id, proposed(8, 1, id), final(5, 8, 3))
			}
		}
		checkRecoverStamp(t, groups, set, 5, greatest, true)
		after := finish(t, groups, set, 5, greatest)
		for _, id := range set {
			checkGroup(t, after, id, max(greatest.Time, groups[id].Clock), []impl.Entry{proposed(8, 1, id), final(5, greatest.Time, greatest.Group)}, nil)
		}
		checkGroup(t, after, 2, 1, []impl.Entry{proposed(9, 1, 2)}, nil)
	}
}

// TestRecoverUnheard has a message that one group has finished, and of which another one has not heard: it proposes a stamp first, which must not be greater.
func TestRecoverUnheard(t *testing.T) {
	for _, set := range allSets() {
		for _, finished := range set {
			groups := systemOf(groupWith(finished, final(5, 8, 3)))
			for _, id := range set {
				if id != finished {
					groups[id].Clock = 6
				}
			}
			checkRecoverStamp(t, groups, set, 5, stamp(8, 3), true)
			after := finish(t, groups, set, 5, stamp(8, 3))
			for _, id := range set {
				checkGroup(t, after, id, 8, nil, []impl.Entry{final(5, 8, 3)})
			}
			for _, id := range unnamed(set) {
				checkGroup(t, after, id, 0, nil, nil)
			}
		}
	}
}

// TestRecoverUnheardTooLate has a group that has not heard of a finished message, and whose next stamp is less than the final one, equal to it, and greater: then GroupFinal fails.
func TestRecoverUnheardTooLate(t *testing.T) {
	for _, set := range allSets() {
		for _, late := range set {
			for clock := range 12 {
				for _, finished := range set {
					if finished == late {
						continue
					}
					groups := systemOf(atClock(impl.Group{Id: late}, clock))
					for _, id := range set {
						if id != late {
							groups[id] = groupWith(id, proposed(2, 1, id))
						}
					}
					groups[finished] = groupWith(finished, proposed(1, 3, finished), final(2, 8, 2))
					checkRecoverStamp(t, groups, set, 2, stamp(8, 2), true)
					if clock+1 < 8 || clock+1 == 8 && late <= 2 {
						after := finish(t, groups, set, 2, stamp(8, 2))
						checkGroup(t, after, late, 8, nil, []impl.Entry{final(2, 8, 2)})
					} else {
						checkRefused(t, groups, set, 2)
					}
				}
			}
		}
	}
}

// TestRecoverFinalOutside has a final stamp that only a group outside the set knows: it does not count, neither if the groups of the set have proposed stamps, nor if they have not.
func TestRecoverFinalOutside(t *testing.T) {
	outside := groupWith(2, final(7, 9, 4))
	groups := systemOf(outside, groupWith(1, proposed(7, 4, 1)), groupWith(3, proposed(7, 4, 3)))
	checkRecoverStamp(t, groups, []int{1, 3}, 7, stamp(4, 3), true)
	checkRecoverStamp(t, groups, []int{1}, 7, stamp(4, 1), true)
	checkRecoverStamp(t, groups, []int{1, 2, 3}, 7, stamp(9, 4), true)
	checkRecoverStamp(t, groups, []int{0, 1}, 7, impl.Stamp{}, false)
	checkRecoverStamp(t, groups, []int{0, 2}, 7, stamp(9, 4), true)
	want := systemOf(outside, groupWith(1, final(7, 4, 3)), groupWith(3, final(7, 4, 3)))
	checkRecoverAll(t, groups, []int{1, 3}, 7, want, true)
	// The groups have different final stamps now.
	checkNoSystem(t, want)
	want = systemOf(outside, groupWith(0, final(7, 4, 1)), groupWith(1, final(7, 4, 1)), groups[3])
	checkRecoverAll(t, groups, []int{0, 1}, 7, want, true)
	// A stamp that is proposed now may even be greater than the final one that is not asked for.
	late := withGroup(groups, atClock(impl.Group{Id: 0}, 20))
	want = systemOf(outside, groupWith(0, final(7, 21, 0)), groupWith(1, final(7, 21, 0)), groups[3])
	checkRecoverAll(t, late, []int{0, 1}, 7, want, true)
	checkNoSystem(t, want)
}

// TestRecoverDelivered has a message that a group has delivered already, and one that is final there but waits behind an earlier one.
func TestRecoverDelivered(t *testing.T) {
	delivered := groupWith(1, final(4, 3, 2), final(6, 7, 3), proposed(0, 8, 1))
	waits := groupWith(2, proposed(5, 4, 2), final(6, 7, 3), proposed(8, 9, 2))
	behind := groupWith(3, proposed(9, 2, 3), proposed(6, 5, 3), proposed(10, 6, 3))
	next := groupWith(4, proposed(6, 6, 4))
	groups := systemOf(delivered, waits, behind, next)
	checkSystem(t, groups, true)
	for _, set := range [][]int{{1}, {2}, {1, 2}} {
		checkRecoverStamp(t, groups, set, 6, stamp(7, 3), true)
		checkRecoverAll(t, groups, set, 6, groups, true)
	}
	for _, set := range [][]int{{1, 3, 4}, {2, 3, 4}, {1, 2, 3, 4}} {
		after := finish(t, groups, set, 6, stamp(7, 3))
		checkGroup(t, after, 1, 8, delivered.Pending, delivered.Done)
		checkGroup(t, after, 2, 9, waits.Pending, nil)
		checkGroup(t, after, 3, 7, []impl.Entry{proposed(9, 2, 3), proposed(10, 6, 3), final(6, 7, 3)}, nil)
		checkGroup(t, after, 4, 7, nil, []impl.Entry{final(6, 7, 3)})
		checkGroup(t, after, 0, 0, nil, nil)
	}
	// What waits in group 2 is let through by the message before it.
	after := finish(t, groups, []int{0, 2}, 5, stamp(4, 2))
	checkGroup(t, after, 0, 4, nil, []impl.Entry{final(5, 4, 2)})
	checkGroup(t, after, 2, 9, []impl.Entry{proposed(8, 9, 2)}, []impl.Entry{final(5, 4, 2), final(6, 7, 3)})
}

// TestRecoverStampProposed has all groups propose: equal times, and the greatest one at each place.
func TestRecoverStampProposed(t *testing.T) {
	for _, set := range allSets() {
		for at := range len(set) + 1 {
			for _, time := range []int{1, 500, 998} {
				groups := systemOf()
				want := stamp(time, set[len(set)-1])
				for i, id := range set {
					groups[id] = groupWith(id, proposed(11, time, id))
					if i == at {
						groups[id] = groupWith(id, proposed(11, time+1, id))
						want = stamp(time+1, id)
					}
				}
				checkRecoverStamp(t, groups, set, 11, want, true)
				after := finish(t, groups, set, 11, want)
				for _, id := range set {
					checkGroup(t, after, id, want.Time, nil, []impl.Entry{final(11, want.Time, want.Group)})
				}
			}
		}
	}
}

// TestRecoverStampUnproposed has one group, at each place, and all groups that have not proposed: RecoverStamp fails, and RecoverAll lets them propose first.
func TestRecoverStampUnproposed(t *testing.T) {
	for _, set := range allSets() {
		for _, without := range append(set, -1) {
			for _, clock := range []int{0, 3, 4, 5, 998} {
				groups := systemOf()
				want := impl.Stamp{}
				for _, id := range set {
					s := stamp(5, id)
					groups[id] = groupWith(id, proposed(0, 5, id))
					if id == without || without < 0 {
						s.Time = clock + 1
						groups[id] = atClock(impl.Group{Id: id}, clock)
					}
					if place(s) > place(want) {
						want = s
					}
				}
				checkRecoverStamp(t, groups, set, 0, impl.Stamp{}, false)
				after := finish(t, groups, set, 0, want)
				for _, id := range set {
					checkGroup(t, after, id, want.Time, nil, []impl.Entry{final(0, want.Time, want.Group)})
				}
			}
		}
	}
}

// TestRecoverStampOthers has groups outside the set that have proposed greater stamps.
func TestRecoverStampOthers(t *testing.T) {
	for _, set := range allSets() {
		groups := systemOf()
		for id := range impl.MaxGroups {
			groups[id] = groupWith(id, proposed(1, 9, id))
		}
		for _, id := range set {
			groups[id] = groupWith(id, proposed(1, 4, id))
		}
		want := stamp(4, set[len(set)-1])
		checkRecoverStamp(t, groups, set, 1, want, true)
		after, ok := impl.RecoverAll(groups, set, 1)
		for id := range impl.MaxGroups {
			if slices.Contains(set, id) {
				checkGroup(t, after, id, 4, nil, []impl.Entry{final(1, 4, want.Group)})
			} else {
				checkGroup(t, after, id, 9, []impl.Entry{proposed(1, 9, id)}, nil)
			}
		}
		// A proposed stamp is greater than the final one then, unless all groups are asked.
		if valid := impl.SystemValid(after); !ok || valid != (len(set) == 5) {
			t.Errorf("RecoverAll(%v, %v, 1) = %v, %v", groups, set, after, ok)
		}
	}
}

// TestRecoverAllAtMaxTime has a group, at each place, that has not heard of the message and cannot propose: nothing changes, whether others have proposed, have not, or know the final stamp.
func TestRecoverAllAtMaxTime(t *testing.T) {
	for _, set := range allSets() {
		for _, full := range set {
			others := systemOf()
			for id := range impl.MaxGroups {
				others[id] = groupWith(id, final(10, 2, 2), proposed(9, 4, id))
			}
			for _, e := range []impl.Entry{{}, proposed(8, 6, 0), final(8, 999, 4), final(8, 6, 4)} {
				groups := slices.Clone(others)
				for _, id := range set {
					if e.Stamp.Time > 0 {
						entry := e
						if !e.Final {
							entry.Stamp.Group = id
						}
						groups[id] = groupWith(id, final(10, 2, 2), proposed(9, 4, id), entry)
					}
				}
				groups[full] = atClock(others[full], 999)
				checkRefused(t, groups, set, 8)
				wantFinal := e.Final && len(set) > 1
				want := impl.Stamp{}
				if wantFinal {
					want = e.Stamp
				}
				checkRecoverStamp(t, groups, set, 8, want, wantFinal)
				// A group that has proposed before is not in the way.
				groups[full] = atClock(groupWith(full, final(10, 2, 2), proposed(8, 5, full), proposed(9, 998, full)), 999)
				if _, ok := impl.RecoverAll(groups, set, 8); !ok {
					t.Errorf("RecoverAll(%v, %v, 8) failed", groups, set)
				}
			}
		}
	}
}

// TestRecoverAllFinalTaken has a group, at each place, where another pending message has the stamp, as its final or its proposed one, so that GroupFinal fails.
func TestRecoverAllFinalTaken(t *testing.T) {
	for _, set := range allSets() {
		for _, id := range set {
			for _, finished := range set {
				if finished == id {
					continue
				}
				groups := systemOf(groupWith(finished, final(4, 8, id)))
				groups[id] = groupWith(id, proposed(4, 5, id), final(7, 8, id))
				checkRecoverStamp(t, groups, set, 4, stamp(8, id), true)
				checkRefused(t, groups, set, 4)
				groups[id] = groupWith(id, proposed(4, 5, id), proposed(7, 8, id))
				checkRecoverStamp(t, groups, set, 4, stamp(8, id), true)
				checkRefused(t, groups, set, 4)
				// The stamp of a delivered message is not in the way of a greater one.
				groups[id] = groupWith(id, final(7, 6, id), proposed(4, 7, id))
				finish(t, groups, set, 4, stamp(8, id))
			}
		}
	}
}

// TestRecoverAllProposedTaken has no final stamp of the message, but the greatest proposed one is the final one of another message in a group.
func TestRecoverAllProposedTaken(t *testing.T) {
	groups := systemOf(groupWith(1, proposed(4, 5, 1), final(7, 8, 3)), groupWith(3, proposed(4, 8, 3)))
	checkRecoverStamp(t, groups, []int{1, 3}, 4, stamp(8, 3), true)
	for _, set := range [][]int{{1, 3}, {0, 1, 3}, {1, 3, 4}, {0, 1, 2, 3, 4}} {
		checkRefused(t, groups, set, 4)
	}
	// A greater stamp that is proposed first helps.
	groups[2].Clock = 8
	finish(t, groups, []int{1, 2, 3}, 4, stamp(9, 2))
}

// TestRecoverAllTwice finishes messages twice, and in either order.
func TestRecoverAllTwice(t *testing.T) {
	groups := systemOf(groupWith(0, proposed(1, 1, 0), proposed(2, 2, 0)), groupWith(3, proposed(5, 1, 3), final(6, 4, 3)))
	for _, set := range allSets() {
		once, ok := impl.RecoverAll(groups, set, 2)
		if !ok {
			t.Fatalf("RecoverAll of %v failed", set)
		}
		// Without group 0, its proposed stamp is greater than the final one, unless group 3 proposes at time 5.
		valid := slices.Contains(set, 0) || slices.Contains(set, 3)
		checkSystem(t, once, valid)
		if valid {
			checkRecoverAll(t, once, set, 2, once, true)
		}
	}
	first := finish(t, finish(t, groups, []int{0, 2}, 1, stamp(1, 2)), []int{1, 3, 4}, 5, stamp(1, 4))
	second := finish(t, finish(t, groups, []int{1, 3, 4}, 5, stamp(1, 4)), []int{0, 2}, 1, stamp(1, 2))
	want := []impl.Group{
		groupWith(0, final(1, 1, 2), proposed(2, 2, 0)),
		groupWith(1, final(5, 1, 4)),
		groupWith(2, final(1, 1, 2)),
		groupWith(3, final(5, 1, 4), final(6, 4, 3)),
		groupWith(4, final(5, 1, 4)),
	}
	if !sameSystem(first, want) || !sameSystem(second, want) {
		t.Errorf("the systems are %v and %v, not %v", first, second, want)
	}
}

// TestRecoverIsAsSaid compares RecoverStamp and RecoverAll with what the document says, and checks that the arguments are of all kinds.
func TestRecoverIsAsSaid(t *testing.T) {
	kinds := map[string]int{}
	for _, c := range recoveries() {
		s, found := wantedStamp(c.groups, c.set, c.message)
		checkRecoverStamp(t, c.groups, c.set, c.message, s, found)
		want, ok := wantedAll(c.groups, c.set, c.message)
		checkRecoverAll(t, c.groups, c.set, c.message, want, ok)
		kinds[fmt.Sprintf("found %v, ok %v, valid %v", found, ok, wantedSystem(want))]++
	}
	for _, kind := range []string{"found true, ok true, valid true", "found true, ok true, valid false", "found true, ok false, valid true", "found false, ok true, valid true", "found false, ok true, valid false", "found false, ok false, valid true"} {
		if kinds[kind] < 100 {
			t.Errorf("%d arguments are of the kind %s", kinds[kind], kind)
		}
	}
}

// TestRecoverAllMessages finishes all messages of systems, in both orders, with all groups.
func TestRecoverAllMessages(t *testing.T) {
	for _, descending := range []bool{false, true} {
		groups := systemOf()
		done := []impl.Entry{}
		for i := range impl.MaxMessages {
			message := i
			if descending {
				message = 11 - i
			}
			groups = finish(t, groups, everyone, message, stamp(i+1, 4))
			done = append(done, final(message, i+1, 4))
		}
		for id := range impl.MaxGroups {
			checkGroup(t, groups, id, 12, nil, done)
		}
	}
}

// TestRecoverOneGroup finishes a message of one group, as the only one asked.
func TestRecoverOneGroup(t *testing.T) {
	for id := range impl.MaxGroups {
		groups := systemOf()
		checkRecoverStamp(t, groups, []int{id}, 2, impl.Stamp{}, false)
		after := finish(t, groups, []int{id}, 2, stamp(1, id))
		checkRecoverAll(t, groups, []int{id}, 2, withGroup(systemOf(), groupWith(id, final(2, 1, id))), true)
		for other := range impl.MaxGroups {
			if other != id {
				checkRecoverStamp(t, after, []int{other}, 2, impl.Stamp{}, false)
			}
		}
		groups[id].Clock = 999
		checkRefused(t, groups, []int{id}, 2)
	}
}

// TestRecoverInvalid checks sets that are none and messages that do not exist, alone and together, for systems in which others would succeed or fail.
func TestRecoverInvalid(t *testing.T) {
	full := systemOf()
	for id := range full {
		full[id].Clock = 999
	}
	for _, groups := range [][]impl.Group{systemOf(), full, systemOf(groupWith(1, final(0, 3, 3)), groupWith(3, proposed(0, 2, 3), final(11, 5, 2)))} {
		checkSystem(t, groups, true)
		for _, list := range notSets() {
			for _, message := range []int{0, 5, 11, -1, 12} {
				checkInvalid(t, groups, list, message)
			}
		}
		for _, message := range noMessages {
			for _, set := range allSets() {
				checkInvalid(t, groups, set, message)
			}
		}
	}
	for _, groups := range randomSystems() {
		for _, list := range [][]int{nil, {}, {1, 0}, {2, 2}, {-1}, {0, 5}, {0, 1, 2, 3, 4, 4}, {0, 1, 2, 3, 4, 5}} {
			checkInvalid(t, groups, list, 0)
		}
		for _, message := range []int{-1, 12} {
			checkInvalid(t, groups, []int{1, 3}, message)
		}
	}
}

// TestSystemValidNumber has fewer and more groups than there must be, and none, all of which are valid with their numbers.
func TestSystemValidNumber(t *testing.T) {
	checkNoSystem(t, nil)
	checkNoSystem(t, []impl.Group{})
	for _, groups := range append(slices.Clone(randomSystems()), systemOf()) {
		checkSystem(t, groups, true)
		for n := range impl.MaxGroups {
			checkSystem(t, groups[:n], false)
			checkSystem(t, slices.Delete(slices.Clone(groups), n, n+1), false)
		}
		for id := range impl.MaxGroups + 1 {
			checkSystem(t, append(slices.Clone(groups), impl.Group{Id: id}), false)
		}
	}
	for n := range impl.MaxGroups {
		checkNoSystem(t, systemOf()[:n])
		checkNoSystem(t, systemOf()[n+1:])
	}
	checkNoSystem(t, append(systemOf(), impl.Group{Id: 5}))
	checkNoSystem(t, append(systemOf(), impl.Group{Id: 4}))
	checkNoSystem(t, append(systemOf(), systemOf()...))
}

// TestSystemValidGroup makes one group of a system invalid, at each place.
func TestSystemValidGroup(t *testing.T) {
	for id := range impl.MaxGroups {
		for _, g := range []impl.Group{
			{Id: id, Clock: -1},
			{Id: id, Clock: 1000},
			{Id: id, Clock: 3, Pending: []impl.Entry{proposed(0, 4, id)}},
			{Id: id, Clock: 3, Pending: []impl.Entry{proposed(12, 3, id)}},
			{Id: id, Clock: 3, Pending: []impl.Entry{proposed(-1, 3, id)}},
			{Id: id, Clock: 3, Pending: []impl.Entry{proposed(0, 3, (id+1)%5)}},
			{Id: id, Clock: 3, Pending: []impl.Entry{final(0, 3, id)}},
			{Id: id, Clock: 3, Done: []impl.Entry{proposed(0, 3, id)}},
			{Id: id, Clock: 3, Done: []impl.Entry{final(0, 3, 5)}},
			{Id: id, Clock: 3, Done: []impl.Entry{final(0, 3, 1), final(1, 3, 1)}},
			{Id: id, Clock: 3, Pending: []impl.Entry{proposed(0, 3, id)}, Done: []impl.Entry{final(0, 2, 1)}},
		} {
			checkNoSystem(t, systemOf(g))
		}
		for _, clock := range []int{-1, 1000} {
			for _, groups := range randomSystems()[:50] {
				checkSystem(t, withGroup(groups, atClock(groups[id], clock)), false)
			}
		}
	}
}

// TestSystemValidIndex has numbers that are not the indexes: another one at one place, two groups swapped, and all moved.
func TestSystemValidIndex(t *testing.T) {
	for i := range impl.MaxGroups {
		for j := range impl.MaxGroups {
			if i == j {
				continue
			}
			groups := systemOf()
			groups[i].Id = j
			checkNoSystem(t, groups)
			groups[j].Id = i
			checkNoSystem(t, groups)
			for _, other := range randomSystems()[:50] {
				swapped := slices.Clone(other)
				swapped[i], swapped[j] = swapped[j], swapped[i]
				checkSystem(t, swapped, false)
			}
		}
		for _, id := range noGroups {
			groups := systemOf()
			groups[i].Id = id
			checkNoSystem(t, groups)
		}
	}
	checkNoSystem(t, slices.Concat(systemOf()[1:], systemOf()[:1]))
}

// TestSystemValidFinals has two groups that know different final stamps of a message, delivered and pending.
func TestSystemValidFinals(t *testing.T) {
	for message := range impl.MaxMessages {
		other := (message + 1) % impl.MaxMessages
		for i := range impl.MaxGroups {
			for j := range impl.MaxGroups {
				if i == j {
					continue
				}
				for _, s := range []impl.Stamp{stamp(8, 2), stamp(8, 1), stamp(8, 3), stamp(7, 2), stamp(9, 2), stamp(7, 4), stamp(9, 0)} {
					for _, before := range [][]impl.Entry{nil, {proposed(other, 1, j)}} {
						groups := systemOf(groupWith(i, final(message, 8, 2)))
						groups[j] = groupWith(j, append(before, final(message, s.Time, s.Group))...)
						if s == stamp(8, 2) {
							checkSystem(t, groups, true)
						} else {
							checkNoSystem(t, groups)
						}
					}
				}
			}
		}
	}
}

// TestSystemValidProposed has a proposed stamp that is greater than a final one of another group, equal to it, and less.
func TestSystemValidProposed(t *testing.T) {
	for message := range impl.MaxMessages {
		for i := range impl.MaxGroups {
			for j := range impl.MaxGroups {
				if i == j {
					continue
				}
				for group := range impl.MaxGroups {
					for time := 1; time <= 12; time++ {
						groups := systemOf(groupWith(i, final(message, 6, group)), groupWith(j, proposed(message, time, j)))
						checkSystem(t, groups, time < 6 || time == 6 && j <= group)
					}
				}
			}
		}
	}
	equal := systemOf(groupWith(1, final(3, 6, 4)), groupWith(4, proposed(3, 6, 4)))
	finish(t, equal, []int{1, 4}, 3, stamp(6, 4))
	less := systemOf(groupWith(1, final(3, 6, 4)), groupWith(4, proposed(3, 5, 4)))
	finish(t, less, []int{1, 4}, 3, stamp(6, 4))
	checkNoSystem(t, systemOf(groupWith(1, final(3, 6, 4)), groupWith(4, proposed(3, 7, 4))))
	checkNoSystem(t, systemOf(groupWith(1, final(3, 6, 3)), groupWith(4, proposed(3, 6, 4))))
}

// TestSystemValidOtherMessages checks that stamps of different messages may be equal or in any order, and that proposed stamps without a final one may differ.
func TestSystemValidOtherMessages(t *testing.T) {
	checkSystem(t, systemOf(groupWith(1, final(3, 6, 4)), groupWith(2, final(4, 6, 4)), groupWith(4, proposed(5, 6, 4))), true)
	checkSystem(t, systemOf(groupWith(1, final(3, 6, 4)), groupWith(2, final(4, 9, 4)), groupWith(4, proposed(5, 8, 4), proposed(4, 9, 4))), true)
	checkSystem(t, systemOf(groupWith(0, proposed(3, 1, 0)), groupWith(1, proposed(3, 999, 1)), groupWith(2, proposed(3, 50, 2))), true)
	checkSystem(t, systemOf(), true)
	for _, clock := range []int{0, 1, 998, 999} {
		groups := systemOf()
		for id := range groups {
			groups[id].Clock = clock
		}
		checkSystem(t, groups, true)
	}
}

// TestSystemValidIsAsSaid compares SystemValid with what the document says, for valid systems of which one entry is changed, and for small ones.
func TestSystemValidIsAsSaid(t *testing.T) {
	r := rand.New(rand.NewPCG(25, 26))
	valid, invalid := 0, 0
	check := func(groups []impl.Group) {
		want := wantedSystem(groups)
		if want {
			valid++
		} else {
			invalid++
		}
		checkSystem(t, groups, want)
	}
	for _, groups := range append(slices.Clone(randomSystems()), smallSystems()...) {
		check(groups)
		for id, g := range groups {
			all := slices.Concat(g.Done, g.Pending)
			for i, e := range all {
				e.Stamp.Time += r.IntN(3) - 1
				e.Final = r.IntN(2) == 0
				if r.IntN(3) > 0 {
					e.Stamp.Group = id
				}
				changed := slices.Clone(all)
				changed[i] = e
				check(withGroup(groups, atClock(splitGroup(id, 0, changed), min(g.Clock+1, 999))))
			}
		}
	}
	if valid < 1000 || invalid < 1000 {
		t.Errorf("%d systems are valid, and %d are not", valid, invalid)
	}
}

// TestWorldNewGroups checks that a new run has no messages and a new group for each number.
func TestWorldNewGroups(t *testing.T) {
	w := impl.WorldNew()
	if len(w.Sets) != 0 || len(w.Rounds) != 0 || len(w.Stopped) != 0 || len(w.Net) != 0 || !sameSystem(w.Groups, systemOf()) {
		t.Errorf("WorldNew() = %v", w)
	}
	for id := range impl.MaxGroups {
		if g, ok := impl.GroupNew(id); !ok || !sameGroup(w.Groups[id], g) {
			t.Errorf("WorldNew() has the group %v", w.Groups[id])
		}
	}
	checkSystem(t, w.Groups, true)
	overwriteSystem(w.Groups)
	if again := impl.WorldNew(); !sameSystem(again.Groups, systemOf()) {
		t.Errorf("after a new run was overwritten, WorldNew() = %v", again)
	}
}

// TestP64 checks that groups of a valid system that know the final stamp of a message know the same one, and no proposed one is greater; also of what RecoverAll returns.
func TestP64(t *testing.T) {
	broken := 0
	check := func(groups []impl.Group) {
		if !impl.SystemValid(groups) {
			return
		}
		for message := range impl.MaxMessages {
			for _, s := range finalsIn(groups, everyone, message) {
				for _, e := range entriesIn(groups, everyone, message) {
					if e.Final && e.Stamp != s || impl.StampLess(s, e.Stamp) {
						t.Fatalf("in %v, groups know the stamps %v and %v of %d", groups, s, e, message)
					}
				}
			}
		}
	}
	for _, groups := range append(slices.Clone(randomSystems()), smallSystems()...) {
		check(groups)
	}
	for _, c := range recoveries() {
		after, _ := impl.RecoverAll(c.groups, c.set, c.message)
		check(after)
	}
	// The last pending message of a group gets a later stamp, so that its groups do not agree any more: nothing but this is wrong.
	for _, groups := range randomSystems() {
		for id, g := range groups {
			for i, e := range g.Pending {
				others := finalsIn(groups, unnamed([]int{id}), e.Message)
				e.Stamp = stamp(g.Clock, id)
				if i < len(g.Pending)-1 || len(others) == 0 || place(e.Stamp) <= place(others[0]) {
					continue
				}
				later := impl.Group{Id: id, Clock: g.Clock, Pending: append(slices.Clone(g.Pending[:i]), e), Done: g.Done}
				checkIsValid(t, later)
				checkSystem(t, withGroup(groups, later), false)
				broken++
			}
		}
	}
	if broken < 100 {
		t.Errorf("only %d systems were made invalid", broken)
	}
}

// TestP65 checks that the recovered stamp is not less than any that the groups of the set know, and equal to each final one.
func TestP65(t *testing.T) {
	for _, c := range recoveries() {
		s, ok := impl.RecoverStamp(c.groups, c.set, c.message)
		if !ok {
			continue
		}
		for _, e := range entriesIn(c.groups, c.set, c.message) {
			if impl.StampLess(s, e.Stamp) || e.Final && e.Stamp != s {
				t.Errorf("RecoverStamp(%v, %v, %d) = %v", c.groups, c.set, c.message, s)
			}
		}
	}
}

// TestP66 checks that the recovered stamp is that of a round, if all groups of the set have proposed stamps and none knows the final one.
func TestP66(t *testing.T) {
	rounds := 0
	for _, c := range recoveries() {
		entries := entriesIn(c.groups, c.set, c.message)
		if len(entries) < len(c.set) || len(finalsIn(c.groups, c.set, c.message)) > 0 {
			continue
		}
		rounds++
		r, ok := impl.RoundNew(c.message, c.set)
		for _, e := range entries {
			if r, ok = impl.RoundAdd(r, e.Stamp); !ok {
				t.Fatalf("RoundAdd of %v failed", e)
			}
		}
		want, ok := impl.RoundFinal(r)
		if !ok {
			t.Fatalf("RoundFinal(%v) failed", r)
		}
		checkRecoverStamp(t, c.groups, c.set, c.message, want, true)
	}
	if rounds < 100 {
		t.Errorf("there are only %d rounds", rounds)
	}
}

// TestP67 checks that all groups of the set know the same final stamp after RecoverAll.
func TestP67(t *testing.T) {
	for _, c := range recoveries() {
		after, ok := impl.RecoverAll(c.groups, c.set, c.message)
		if !ok {
			continue
		}
		finals := finalsIn(after, c.set, c.message)
		if len(finals) != len(c.set) || len(slices.Compact(finals)) != 1 {
			t.Errorf("RecoverAll(%v, %v, %d) = %v", c.groups, c.set, c.message, after)
		}
	}
}

// TestP68 checks that RecoverAll again succeeds and changes nothing, if the result is valid.
func TestP68(t *testing.T) {
	for _, c := range recoveries() {
		after, ok := impl.RecoverAll(c.groups, c.set, c.message)
		if !ok {
			continue
		}
		if impl.SystemValid(after) {
			checkRecoverAll(t, after, c.set, c.message, after, true)
		} else {
			checkInvalid(t, after, c.set, c.message)
		}
	}
}

// TestP69 checks that RecoverAll changes neither groups outside the set nor stamps of other messages.
func TestP69(t *testing.T) {
	for _, c := range recoveries() {
		after, _ := impl.RecoverAll(c.groups, c.set, c.message)
		for _, id := range unnamed(c.set) {
			if !sameGroup(after[id], c.groups[id]) {
				t.Errorf("RecoverAll(%v, %v, %d) changes group %d", c.groups, c.set, c.message, id)
			}
		}
		for id := range impl.MaxGroups {
			for message := range impl.MaxMessages {
				e, has := entryIn(c.groups[id], message)
				if got, still := entryIn(after[id], message); message != c.message && (got != e || still != has) {
					t.Errorf("RecoverAll(%v, %v, %d) changes message %d in group %d", c.groups, c.set, c.message, message, id)
				}
			}
		}
	}
}

// TestP70 checks that RecoverAll gives a final stamp that a group of the set knows to all of them.
func TestP70(t *testing.T) {
	given := 0
	for _, c := range recoveries() {
		finals := finalsIn(c.groups, c.set, c.message)
		after, ok := impl.RecoverAll(c.groups, c.set, c.message)
		if !ok || len(finals) == 0 {
			continue
		}
		if len(finals) < len(c.set) {
			given++
		}
		if got := finalsIn(after, c.set, c.message); !slices.Equal(got, slices.Repeat(finals[:1], len(c.set))) {
			t.Errorf("RecoverAll(%v, %v, %d) = %v", c.groups, c.set, c.message, after)
		}
	}
	if given < 100 {
		t.Errorf("only %d times a group learns the final stamp from another", given)
	}
}

// TestP71 checks that nothing changes if RecoverAll fails for valid arguments.
func TestP71(t *testing.T) {
	failed := 0
	for _, c := range recoveries() {
		if after, ok := impl.RecoverAll(c.groups, c.set, c.message); !ok {
			failed++
			if !sameSystem(after, c.groups) {
				t.Errorf("RecoverAll(%v, %v, %d) = %v", c.groups, c.set, c.message, after)
			}
		}
	}
	if failed < 100 {
		t.Errorf("RecoverAll failed only %d times", failed)
	}
}

// recoverBoth finishes two messages, and returns the groups and whether both succeed.
func recoverBoth(groups []impl.Group, a []int, messageA int, b []int, messageB int) ([]impl.Group, bool) {
	groups, first := impl.RecoverAll(groups, a, messageA)
	groups, second := impl.RecoverAll(groups, b, messageB)
	return groups, first && second
}

// TestP72 checks that two messages with no common group give the same groups in either order, if both succeed.
func TestP72(t *testing.T) {
	both := 0
	for i, c := range recoveries() {
		rest := unnamed(c.set)
		if len(rest) == 0 {
			continue
		}
		// Sets of some of the other groups, and of all of them.
		other := [][]int{rest, rest[:1], rest[len(rest)/2:]}[i%3]
		message := (c.message + 1 + i%11) % impl.MaxMessages
		one, oneOk := recoverBoth(c.groups, c.set, c.message, other, message)
		two, twoOk := recoverBoth(c.groups, other, message, c.set, c.message)
		if !oneOk || !twoOk {
			continue
		}
		both++
		if !sameSystem(one, two) {
			t.Errorf("from %v, the messages %d of %v and %d of %v lead to %v or %v", c.groups, c.message, c.set, message, other, one, two)
		}
	}
	if both < 1000 {
		t.Errorf("both succeed only %d times", both)
	}
}

// spareSystem returns a copy of groups with space behind them, and behind all of their lists.
func spareSystem(groups []impl.Group) []impl.Group {
	system := []impl.Group{}
	for _, g := range groups {
		system = append(system, spareGroup(g))
	}
	behind := spareGroup(groupWith(0, final(1, 7, 0), proposed(2, 8, 0)))
	return append(system, behind, behind)[:len(groups)]
}

// wholeSystem returns what is in the memory of groups, as text.
func wholeSystem(groups []impl.Group) string {
	text := fmt.Sprint(len(groups))
	for _, g := range groups[:cap(groups)] {
		text += " " + wholeGroup(g)
	}
	return text
}

// overwriteGroup fills all the memory of both lists of a group.
func overwriteGroup(g impl.Group) {
	overwriteEntries(g.Pending)
	overwriteEntries(g.Done)
}

// overwriteSystem fills all the memory of groups and their lists.
func overwriteSystem(groups []impl.Group) {
	groups = groups[:cap(groups)]
	for i, g := range groups {
		overwriteGroup(g)
		groups[i] = impl.Group{Id: 99, Clock: 99}
	}
}

// checkApart checks that no list of groups shares memory with another one of them.
func checkApart(t *testing.T, groups []impl.Group) {
	t.Helper()
	for i := range groups {
		rest := slices.Delete(slices.Clone(groups), i, i+1)
		want, pending := wholeSystem(rest), wholeEntries(groups[i].Pending)
		overwriteEntries(groups[i].Done)
		if wholeSystem(rest) != want || wholeEntries(groups[i].Pending) != pending {
			t.Fatal("the delivered messages of a group share memory with another list")
		}
		overwriteEntries(groups[i].Pending)
		if wholeSystem(rest) != want {
			t.Fatal("the pending messages of a group share memory with another group")
		}
	}
}

// checkRecoveryMemory checks that the functions leave their arguments, and what is behind them, and that the results of RecoverAll share memory neither with another one nor with the arguments.
func checkRecoveryMemory(t *testing.T, c recovery) {
	t.Helper()
	groups, set := spareSystem(c.groups), spare(c.set)
	before, beforeSet := wholeSystem(groups), whole(set)
	impl.SystemValid(groups)
	impl.RecoverStamp(groups, set, c.message)
	first, _ := impl.RecoverAll(groups, set, c.message)
	second, _ := impl.RecoverAll(groups, set, c.message)
	want := wholeSystem(second)
	overwriteSystem(first)
	if wholeSystem(groups) != before || whole(set) != beforeSet {
		t.Fatalf("an argument was changed: %v", c)
	}
	if wholeSystem(second) != want {
		t.Fatalf("the results of two calls share memory: %v", c)
	}
	overwriteSystem(groups)
	overwrite(set)
	if wholeSystem(second) != want {
		t.Fatalf("a result shares memory with an argument: %v", c)
	}
	checkApart(t, second)
}

// TestRecoveryMemory checks the memory for valid arguments, for which RecoverAll succeeds and fails, and for invalid ones.
func TestRecoveryMemory(t *testing.T) {
	for i := 0; i < len(recoveries()); i += 5 {
		checkRecoveryMemory(t, recoveries()[i])
	}
	groups := systemOf(finalExample(), groupWith(1, final(4, 3, 0), proposed(7, 4, 1)), atClock(groupWith(3, final(0, 5, 2)), 999))
	for _, set := range append(allSets(), notSets()...) {
		for _, message := range []int{0, 1, 4, 7, 9, 12} {
			checkRecoveryMemory(t, recovery{groups, set, message})
			checkRecoveryMemory(t, recovery{withGroup(groups, atClock(groups[1], 2)), set, message})
		}
	}
}
