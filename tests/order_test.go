package tests

import (
	"fmt"
	"math"
	"math/rand/v2"
	"slices"
	"sync"
	"testing"

	"loop.example/groupmulticast/impl"
)

// noMessages are numbers that are not messages, among them some that are messages modulo the size of a word.
var noMessages = []int{-1, -12, -64, 12, 13, 24, 32, 64, 65, math.MinInt, math.MaxInt}

// proposed returns an entry with a proposed stamp.
func proposed(message, time, group int) impl.Entry {
	return impl.Entry{Message: message, Stamp: impl.Stamp{Time: time, Group: group}}
}

// final returns an entry with a final stamp.
func final(message, time, group int) impl.Entry {
	return impl.Entry{Message: message, Stamp: impl.Stamp{Time: time, Group: group}, Final: true}
}

// sameGroup reports whether two groups are equal; a nil list is an empty one.
func sameGroup(a, b impl.Group) bool {
	return a.Id == b.Id && a.Clock == b.Clock && slices.Equal(a.Pending, b.Pending) && slices.Equal(a.Done, b.Done)
}

// messagesOf returns the messages of entries, in order.
func messagesOf(list []impl.Entry) []int {
	messages := []int{}
	for _, e := range list {
		messages = append(messages, e.Message)
	}
	return messages
}

// entryOf returns the entry of a message in a list, and whether there is one.
func entryOf(list []impl.Entry, message int) (impl.Entry, bool) {
	i := slices.Index(messagesOf(list), message)
	if i < 0 {
		return impl.Entry{}, false
	}
	return list[i], true
}

// ascends reports whether stamps are strictly ascending.
func ascends(list []impl.Entry) bool {
	for i := 1; i < len(list); i++ {
		if place(list[i-1].Stamp) >= place(list[i].Stamp) {
			return false
		}
	}
	return true
}

// finalsFirst returns how many final entries stand before the first proposed one.
func finalsFirst(list []impl.Entry) int {
	for i, e := range list {
		if !e.Final {
			return i
		}
	}
	return len(list)
}

// wantedValid returns what the document says of GroupValid, one condition after the other.
func wantedValid(g impl.Group) bool {
	if g.Id < 0 || g.Id > 4 || g.Clock < 0 || g.Clock > 999 || !ascends(g.Pending) || !ascends(g.Done) {
		return false
	}
	often := map[int]int{}
	for _, e := range slices.Concat(g.Pending, g.Done) {
		often[e.Message]++
		if e.Message < 0 || e.Message > 11 || often[e.Message] > 1 {
			return false
		}
		if e.Stamp.Time < 1 || e.Stamp.Time > g.Clock || e.Stamp.Group < 0 || e.Stamp.Group > 4 {
			return false
		}
		if !e.Final && e.Stamp.Group != g.Id {
			return false
		}
	}
	if slices.ContainsFunc(g.Done, func(e impl.Entry) bool { return !e.Final }) {
		return false
	}
	if len(g.Pending) == 0 {
		return true
	}
	return !g.Pending[0].Final && (len(g.Done) == 0 || place(g.Done[len(g.Done)-1].Stamp) < place(g.Pending[0].Stamp))
}

// wantedPropose returns what the document says of GroupPropose of a valid group and message.
func wantedPropose(g impl.Group, message int) (impl.Group, impl.Stamp, bool) {
	if e, pending := entryOf(g.Pending, message); pending && !e.Final {
		return g, e.Stamp, true
	}
	if _, known := entryOf(slices.Concat(g.Pending, g.Done), message); known || g.Clock == impl.MaxTime {
		return g, impl.Stamp{}, false
	}
	e := proposed(message, g.Clock+1, g.Id)
	return impl.Group{Id: g.Id, Clock: g.Clock + 1, Pending: append(slices.Clone(g.Pending), e), Done: g.Done}, e.Stamp, true
}

// wantedFinal returns what the document says of GroupFinal of a valid group, message and stamp, by inserting the entry anew.
func wantedFinal(g impl.Group, message int, s impl.Stamp) (impl.Group, []int, bool) {
	old, pending := entryOf(g.Pending, message)
	if !pending || old.Final || place(s) < place(old.Stamp) {
		return g, nil, false
	}
	before, behind := []impl.Entry{}, []impl.Entry{}
	for _, e := range g.Pending {
		if e.Message == message {
			continue
		}
		if e.Stamp == s {
			return g, nil, false
		}
		if place(e.Stamp) < place(s) {
			before = append(before, e)
		} else {
			behind = append(behind, e)
		}
	}
	all := slices.Concat(before, []impl.Entry{{Message: message, Stamp: s, Final: true}}, behind)
	n := finalsFirst(all)
	after := impl.Group{Id: g.Id, Clock: max(g.Clock, s.Time), Pending: all[n:], Done: slices.Concat(g.Done, all[:n])}
	return after, messagesOf(all[:n]), true
}

// splitGroup returns the valid group that has these entries: those before the first proposed one are delivered.
func splitGroup(id, clock int, all []impl.Entry) impl.Group {
	slices.SortFunc(all, func(a, b impl.Entry) int { return place(a.Stamp) - place(b.Stamp) })
	n := finalsFirst(all)
	return impl.Group{Id: id, Clock: clock, Pending: slices.Clone(all[n:]), Done: slices.Clone(all[:n])}
}

// randomGroup returns a valid group of up to n messages with times from..to, of which a part of percent is final.
func randomGroup(r *rand.Rand, n, from, to, percent int) impl.Group {
	id, clock := r.IntN(impl.MaxGroups), from-1
	used := map[impl.Stamp]bool{}
	all := []impl.Entry{}
	for _, message := range r.Perm(impl.MaxMessages)[:n] {
		e := proposed(message, from+r.IntN(to-from+1), id)
		if r.IntN(100) < percent {
			e.Stamp.Group, e.Final = r.IntN(impl.MaxGroups), true
		}
		if used[e.Stamp] {
			continue
		}
		used[e.Stamp] = true
		clock = max(clock, e.Stamp.Time)
		all = append(all, e)
	}
	// The time of the last stamp, the next one, or any.
	clock = []int{clock, min(clock+1, impl.MaxTime), clock + r.IntN(impl.MaxTime-clock+1)}[r.IntN(3)]
	return splitGroup(id, clock, all)
}

// randomGroups are valid groups of all numbers of messages, always the same: with stamps near each other, far away, and up to MaxTime.
var randomGroups = sync.OnceValue(func() []impl.Group {
	groups := []impl.Group{}
	r := rand.New(rand.NewPCG(13, 14))
	for n := range impl.MaxMessages + 1 {
		for _, percent := range []int{0, 30, 50, 80, 95, 100} {
			for range 2 {
				groups = append(groups, randomGroup(r, n, 1, n+2, percent), randomGroup(r, n, 1, impl.MaxTime, percent), randomGroup(r, n, 997-n, impl.MaxTime, percent))
			}
		}
	}
	return groups
})

// reachedGroups are all groups 1 that three messages and final stamps of small times lead to.
var reachedGroups = sync.OnceValue(func() []impl.Group {
	seen := map[string]bool{}
	groups := []impl.Group{}
	add := func(g impl.Group) {
		if text := fmt.Sprint(g); !seen[text] {
			seen[text] = true
			groups = append(groups, g)
		}
	}
	add(impl.Group{Id: 1})
	for i := 0; i < len(groups); i++ {
		for message := range 3 {
			next, _, _ := wantedPropose(groups[i], message)
			add(next)
			for _, s := range smallStamps() {
				next, _, _ := wantedFinal(groups[i], message, s)
				add(next)
			}
		}
	}
	return groups
})

// smallStamps returns stamps with times up to 3: of the group 1, and of groups that are less and greater.
func smallStamps() []impl.Stamp {
	stamps := []impl.Stamp{}
	for time := 1; time <= 3; time++ {
		for group := range 3 {
			stamps = append(stamps, impl.Stamp{Time: time, Group: group})
		}
	}
	return stamps
}

// validGroups returns all of the valid groups above, and some at the limits.
func validGroups() []impl.Group {
	groups := append(slices.Clone(randomGroups()), reachedGroups()...)
	for id := range impl.MaxGroups {
		for _, clock := range []int{0, 1, 998, 999} {
			groups = append(groups, impl.Group{Id: id, Clock: clock}, impl.Group{Id: id, Clock: clock, Pending: []impl.Entry{}, Done: []impl.Entry{}})
		}
		groups = append(groups, impl.Group{Id: id, Clock: 999, Pending: []impl.Entry{proposed(11, 999, id)}})
		groups = append(groups, impl.Group{Id: id, Clock: 999, Done: []impl.Entry{final(0, 999, 4)}})
	}
	return groups
}

// stampsNear returns the stamps of a group with those at and beside their times, at and beside its clock, and at the limits.
func stampsNear(g impl.Group) []impl.Stamp {
	list := []impl.Stamp{{Time: 1}, {Time: 1, Group: g.Id}, {Time: impl.MaxTime, Group: g.Id}, {Time: impl.MaxTime, Group: 4}}
	for _, e := range slices.Concat(g.Pending, g.Done) {
		for group := range impl.MaxGroups {
			list = append(list, impl.Stamp{Time: e.Stamp.Time, Group: group})
		}
		list = append(list, impl.Stamp{Time: e.Stamp.Time - 1, Group: g.Id}, impl.Stamp{Time: e.Stamp.Time + 1, Group: g.Id})
	}
	for time := g.Clock - 1; time <= g.Clock+2; time++ {
		list = append(list, impl.Stamp{Time: time, Group: g.Id}, impl.Stamp{Time: time, Group: (g.Id + 1) % impl.MaxGroups})
	}
	slices.SortFunc(list, func(a, b impl.Stamp) int { return place(a) - place(b) })
	return slices.DeleteFunc(slices.Compact(list), func(s impl.Stamp) bool { return s.Time < 1 || s.Time > impl.MaxTime })
}

// everyFinal calls f for valid groups with each message, and stamps near those of the group.
func everyFinal(f func(g impl.Group, message int, s impl.Stamp)) {
	for _, g := range validGroups() {
		for _, s := range stampsNear(g) {
			for message := range impl.MaxMessages {
				f(g, message, s)
			}
		}
	}
}

// everyPropose calls f for valid groups with each message.
func everyPropose(f func(g impl.Group, message int)) {
	for _, g := range validGroups() {
		for message := range impl.MaxMessages {
			f(g, message)
		}
	}
}

// checkPropose checks all results of GroupPropose.
func checkPropose(t *testing.T, g impl.Group, message int, want impl.Group, wantStamp impl.Stamp, wantOk bool) {
	t.Helper()
	if got, s, ok := impl.GroupPropose(g, message); !sameGroup(got, want) || s != wantStamp || ok != wantOk {
		t.Errorf("GroupPropose(%v, %d) = %v, %v, %v, not %v, %v, %v", g, message, got, s, ok, want, wantStamp, wantOk)
	}
}

// checkFinal checks all results of GroupFinal.
func checkFinal(t *testing.T, g impl.Group, message int, s impl.Stamp, want impl.Group, wantMoved []int, wantOk bool) {
	t.Helper()
	if got, moved, ok := impl.GroupFinal(g, message, s); !sameGroup(got, want) || !slices.Equal(moved, wantMoved) || ok != wantOk {
		t.Errorf("GroupFinal(%v, %d, %v) = %v, %v, %v, not %v, %v, %v", g, message, s, got, moved, ok, want, wantMoved, wantOk)
	}
}

// checkNoFinal checks that GroupFinal changes nothing.
func checkNoFinal(t *testing.T, g impl.Group, message int, s impl.Stamp) {
	t.Helper()
	checkFinal(t, g, message, s, g, nil, false)
}

// checkLook checks what the functions that only look at a group return.
func checkLook(t *testing.T, g impl.Group, wantBlocked int, wantTrace []int) {
	t.Helper()
	if got := impl.GroupBlocked(g); got != wantBlocked {
		t.Errorf("GroupBlocked(%v) = %d, not %d", g, got, wantBlocked)
	}
	if got := impl.GroupTrace(g); !slices.Equal(got, wantTrace) {
		t.Errorf("GroupTrace(%v) = %v, not %v", g, got, wantTrace)
	}
}

// checkStamp checks the results of GroupStamp.
func checkStamp(t *testing.T, g impl.Group, message int, want impl.Entry, wantOk bool) {
	t.Helper()
	if got, ok := impl.GroupStamp(g, message); got != want || ok != wantOk {
		t.Errorf("GroupStamp(%v, %d) = %v, %v, not %v, %v", g, message, got, ok, want, wantOk)
	}
}

// checkIsValid checks that GroupValid accepts a group.
func checkIsValid(t *testing.T, g impl.Group) {
	t.Helper()
	if !impl.GroupValid(g) {
		t.Errorf("GroupValid(%v) = false", g)
	}
}

// checkNoGroup checks that all functions refuse a group, whatever the other arguments are, with zero values.
func checkNoGroup(t *testing.T, g impl.Group) {
	t.Helper()
	if impl.GroupValid(g) {
		t.Errorf("GroupValid(%v) = true", g)
	}
	checkLook(t, g, -1, nil)
	for _, message := range []int{0, 1, 3, 4, 7, 11, -1, 12} {
		checkPropose(t, g, message, impl.Group{}, impl.Stamp{}, false)
		checkStamp(t, g, message, impl.Entry{}, false)
		for _, s := range []impl.Stamp{{Time: 6, Group: 2}, {Time: 9, Group: 2}, {Time: 999, Group: 4}, {}, {Time: 1000}} {
			checkFinal(t, g, message, s, impl.Group{}, nil, false)
		}
	}
}

// play proposes messages, in order, to a new group.
func play(t *testing.T, id int, messages ...int) impl.Group {
	t.Helper()
	g, ok := impl.GroupNew(id)
	if !ok {
		t.Fatalf("GroupNew(%d) failed", id)
	}
	for _, message := range messages {
		if g, _, ok = impl.GroupPropose(g, message); !ok {
			t.Fatalf("GroupPropose of %d failed", message)
		}
	}
	return g
}

// setFinal sets a final stamp, and checks what is delivered, what blocks then, and what has been delivered altogether.
func setFinal(t *testing.T, g impl.Group, message, time, group int, wantMoved []int, wantBlocked int) impl.Group {
	t.Helper()
	after, moved, ok := impl.GroupFinal(g, message, impl.Stamp{Time: time, Group: group})
	if !ok || !slices.Equal(moved, wantMoved) {
		t.Fatalf("GroupFinal(%v, %d, {%d %d}) = %v, %v, %v", g, message, time, group, after, moved, ok)
	}
	checkIsValid(t, after)
	checkLook(t, after, wantBlocked, append(messagesOf(g.Done), moved...))
	return after
}

// checkEntries checks the clock and the lists of a group.
func checkEntries(t *testing.T, g impl.Group, clock int, pending, done []impl.Entry) {
	t.Helper()
	if want := (impl.Group{Id: g.Id, Clock: clock, Pending: pending, Done: done}); !sameGroup(g, want) {
		t.Errorf("the group is %v, not %v", g, want)
	}
}

// TestOrderBlockedByOne has a proposed message at the head with one final message behind it, which stays pending until the head is final.
func TestOrderBlockedByOne(t *testing.T) {
	g := setFinal(t, play(t, 2, 7, 8), 8, 2, 2, nil, 7)
	checkEntries(t, g, 2, []impl.Entry{proposed(7, 1, 2), final(8, 2, 2)}, nil)
	checkStamp(t, g, 8, final(8, 2, 2), true)
	both := setFinal(t, g, 7, 1, 3, []int{7, 8}, -1)
	checkEntries(t, both, 2, nil, []impl.Entry{final(7, 1, 3), final(8, 2, 2)})
	// Behind the other one, the head lets it through first, and follows.
	behind := setFinal(t, g, 7, 2, 3, []int{8, 7}, -1)
	checkEntries(t, behind, 2, nil, []impl.Entry{final(8, 2, 2), final(7, 2, 3)})
}

// TestOrderBlockedBySeveral has a proposed message at the head with several final ones behind it.
func TestOrderBlockedBySeveral(t *testing.T) {
	g := play(t, 2, 7, 8, 9, 10)
	g = setFinal(t, g, 9, 3, 4, nil, 7)
	g = setFinal(t, g, 10, 8, 0, nil, 7)
	g = setFinal(t, g, 8, 5, 1, nil, 7)
	waiting := []impl.Entry{final(9, 3, 4), final(8, 5, 1), final(10, 8, 0)}
	checkEntries(t, g, 8, append([]impl.Entry{proposed(7, 1, 2)}, waiting...), nil)
	checkEntries(t, setFinal(t, g, 7, 1, 2, []int{7, 9, 8, 10}, -1), 8, nil, append([]impl.Entry{final(7, 1, 2)}, waiting...))
	checkEntries(t, setFinal(t, g, 7, 4, 2, []int{9, 7, 8, 10}, -1), 8, nil, slices.Insert(slices.Clone(waiting), 1, final(7, 4, 2)))
	checkEntries(t, setFinal(t, g, 7, 9, 2, []int{9, 8, 10, 7}, -1), 9, nil, append(slices.Clone(waiting), final(7, 9, 2)))
}

// TestOrderMoves has a final stamp that leaves a message, moves it behind others, between two of them, and to the end.
func TestOrderMoves(t *testing.T) {
	g := play(t, 1, 0, 1, 2, 3)
	p := []impl.Entry{proposed(0, 1, 1), proposed(1, 2, 1), proposed(2, 3, 1), proposed(3, 4, 1)}
	checkEntries(t, g, 4, p, nil)
	for _, c := range []struct {
		message, time, group int
		pending              []impl.Entry
		moved                []int
	}{
		{1, 2, 1, []impl.Entry{p[0], final(1, 2, 1), p[2], p[3]}, nil},
		{1, 2, 4, []impl.Entry{p[0], final(1, 2, 4), p[2], p[3]}, nil},
		{1, 3, 0, []impl.Entry{p[0], final(1, 3, 0), p[2], p[3]}, nil},
		{1, 3, 2, []impl.Entry{p[0], p[2], final(1, 3, 2), p[3]}, nil},
		{1, 4, 0, []impl.Entry{p[0], p[2], final(1, 4, 0), p[3]}, nil},
		{1, 4, 2, []impl.Entry{p[0], p[2], p[3], final(1, 4, 2)}, nil},
		{1, 999, 4, []impl.Entry{p[0], p[2], p[3], final(1, 999, 4)}, nil},
		{3, 4, 1, []impl.Entry{p[0], p[1], p[2], final(3, 4, 1)}, nil},
		{3, 5, 0, []impl.Entry{p[0], p[1], p[2], final(3, 5, 0)}, nil},
		{0, 1, 1, []impl.Entry{p[1], p[2], p[3]}, []int{0}},
		{0, 2, 0, []impl.Entry{p[1], p[2], p[3]}, []int{0}},
		{0, 2, 2, []impl.Entry{p[1], final(0, 2, 2), p[2], p[3]}, nil},
		{0, 3, 4, []impl.Entry{p[1], p[2], final(0, 3, 4), p[3]}, nil},
		{0, 4, 2, []impl.Entry{p[1], p[2], p[3], final(0, 4, 2)}, nil},
	} {
		after := setFinal(t, g, c.message, c.time, c.group, c.moved, c.pending[0].Message)
		done := []impl.Entry{final(c.message, c.time, c.group)}[:len(c.moved)]
		checkEntries(t, after, max(4, c.time), c.pending, done)
	}
}

// TestOrderLetsThrough has one final stamp that lets nothing, one message and several messages through, up to the next one that is not final.
func TestOrderLetsThrough(t *testing.T) {
	g := play(t, 3, 5, 6, 7, 8, 9)
	g = setFinal(t, g, 6, 2, 3, nil, 5)
	g = setFinal(t, g, 7, 3, 4, nil, 5)
	g = setFinal(t, g, 9, 5, 4, nil, 5)
	checkEntries(t, g, 5, []impl.Entry{proposed(5, 1, 3), final(6, 2, 3), final(7, 3, 4), proposed(8, 4, 3), final(9, 5, 4)}, nil)
	setFinal(t, g, 8, 4, 3, nil, 5)
	setFinal(t, g, 5, 1, 4, []int{5, 6, 7}, 8)
	setFinal(t, g, 5, 2, 4, []int{6, 5, 7}, 8)
	g = setFinal(t, g, 5, 4, 4, []int{6, 7}, 8)
	checkEntries(t, g, 5, []impl.Entry{proposed(8, 4, 3), final(5, 4, 4), final(9, 5, 4)}, []impl.Entry{final(6, 2, 3), final(7, 3, 4)})
	setFinal(t, g, 8, 4, 3, []int{8, 5, 9}, -1)
	setFinal(t, g, 8, 6, 0, []int{5, 9, 8}, -1)
	one := setFinal(t, play(t, 3, 5, 6), 5, 1, 3, []int{5}, 6)
	checkEntries(t, one, 2, []impl.Entry{proposed(6, 2, 3)}, []impl.Entry{final(5, 1, 3)})
}

// TestOrderStaysPending has final messages behind several that are not final: each of these blocks in turn.
func TestOrderStaysPending(t *testing.T) {
	g := play(t, 0, 1, 2, 3)
	g = setFinal(t, g, 3, 7, 2, nil, 1)
	g = setFinal(t, g, 1, 8, 1, nil, 2)
	checkEntries(t, g, 8, []impl.Entry{proposed(2, 2, 0), final(3, 7, 2), final(1, 8, 1)}, nil)
	g, s, ok := impl.GroupPropose(g, 4)
	if !ok || s != (impl.Stamp{Time: 9}) {
		t.Errorf("GroupPropose returned %v, %v", s, ok)
	}
	checkLook(t, g, 2, nil)
	g = setFinal(t, g, 2, 7, 4, []int{3, 2, 1}, 4)
	g = setFinal(t, g, 4, 9, 0, []int{4}, -1)
	checkEntries(t, g, 9, nil, []impl.Entry{final(3, 7, 2), final(2, 7, 4), final(1, 8, 1), final(4, 9, 0)})
}

// TestOrderInAnyOrder sets final stamps in every order: the group is the same in the end, and never delivers out of order.
func TestOrderInAnyOrder(t *testing.T) {
	for _, finals := range [][]impl.Entry{
		{final(0, 1, 1), final(1, 2, 1), final(2, 3, 1), final(3, 4, 1), final(4, 5, 1)},
		{final(0, 9, 4), final(1, 8, 3), final(2, 7, 2), final(3, 6, 1), final(4, 5, 1)},
		{final(0, 6, 4), final(1, 6, 0), final(2, 6, 3), final(3, 6, 1), final(4, 6, 2)},
		{final(0, 1, 2), final(1, 9, 4), final(2, 3, 2), final(3, 999, 0), final(4, 5, 3)},
	} {
		want := slices.Clone(finals)
		slices.SortFunc(want, func(a, b impl.Entry) int { return place(a.Stamp) - place(b.Stamp) })
		permutations(len(finals), func(order []int) {
			g, trace := play(t, 1, 0, 1, 2, 3, 4), []int{}
			for _, i := range order {
				after, moved, ok := impl.GroupFinal(g, i, finals[i].Stamp)
				if !ok {
					t.Fatalf("GroupFinal(%v, %d, %v) failed", g, i, finals[i].Stamp)
				}
				checkIsValid(t, after)
				trace = append(trace, moved...)
				g = after
			}
			checkEntries(t, g, want[4].Stamp.Time, nil, want)
			checkLook(t, g, -1, messagesOf(want))
			if !slices.Equal(trace, messagesOf(want)) {
				t.Errorf("in the order %v, %v is delivered", order, trace)
			}
		})
	}
}

// TestOrderAllMessages proposes all messages in several orders and finishes them from the last to the first, so that all are delivered at once.
func TestOrderAllMessages(t *testing.T) {
	r := rand.New(rand.NewPCG(15, 16))
	for id := range impl.MaxGroups {
		order := r.Perm(impl.MaxMessages)
		g := play(t, id, order...)
		if len(g.Pending) != 12 || g.Clock != 12 || !slices.Equal(messagesOf(g.Pending), order) {
			t.Errorf("after all messages, the group is %v", g)
		}
		for i := 11; i > 0; i-- {
			g = setFinal(t, g, order[i], i+1, id, nil, order[0])
		}
		g = setFinal(t, g, order[0], 1, id, order, -1)
		for message := range impl.MaxMessages {
			checkPropose(t, g, message, g, impl.Stamp{}, false)
		}
	}
}

// TestOrderOneByOne finishes each message before the next one is proposed, and then each when all were proposed: none blocks another.
func TestOrderOneByOne(t *testing.T) {
	order := []int{11, 3, 7, 0, 9, 1, 10, 4, 2, 8, 6, 5}
	alone, all := play(t, 3), play(t, 3, order...)
	for i, message := range order {
		next := -1
		if i < 11 {
			next = order[i+1]
		}
		alone, _, _ = impl.GroupPropose(alone, message)
		alone = setFinal(t, alone, message, alone.Clock, 4, []int{message}, -1)
		all = setFinal(t, all, message, i+1, 4, []int{message}, next)
	}
	if !sameGroup(alone, all) {
		t.Errorf("the groups are %v and %v", alone, all)
	}
	checkLook(t, all, -1, order)
}

// TestOrderPlays plays proposals and final stamps of all messages at random, and compares each step with the words of the document.
func TestOrderPlays(t *testing.T) {
	r := rand.New(rand.NewPCG(19, 20))
	for range 200 {
		g, _ := impl.GroupNew(r.IntN(impl.MaxGroups))
		for range 60 {
			message := r.IntN(impl.MaxMessages)
			want, s, ok := wantedPropose(g, message)
			checkPropose(t, g, message, want, s, ok)
			if r.IntN(2) == 0 {
				s.Time, s.Group = s.Time+r.IntN(3), r.IntN(impl.MaxGroups)
			}
			var moved []int
			g = want
			if ok && r.IntN(2) == 0 {
				want, moved, ok = wantedFinal(g, message, s)
				checkFinal(t, g, message, s, want, moved, ok)
				g = want
			}
			checkIsValid(t, g)
		}
	}
}

// TestGroupProposeExamples has a new message, a pending one without and with a final stamp, and a delivered one.
func TestGroupProposeExamples(t *testing.T) {
	g := impl.Group{Id: 2, Clock: 20, Pending: []impl.Entry{proposed(7, 6, 2), final(3, 8, 1)}, Done: []impl.Entry{final(4, 3, 0)}}
	added := impl.Group{Id: 2, Clock: 21, Pending: append(slices.Clone(g.Pending), proposed(5, 21, 2)), Done: g.Done}
	checkPropose(t, g, 5, added, impl.Stamp{Time: 21, Group: 2}, true)
	checkPropose(t, added, 5, added, impl.Stamp{Time: 21, Group: 2}, true)
	checkPropose(t, g, 7, g, impl.Stamp{Time: 6, Group: 2}, true)
	checkPropose(t, g, 3, g, impl.Stamp{}, false)
	checkPropose(t, g, 4, g, impl.Stamp{}, false)
	for _, message := range noMessages {
		checkPropose(t, g, message, impl.Group{}, impl.Stamp{}, false)
	}
}

// TestGroupProposeClock has the clocks 0, MaxTime minus 1 and MaxTime, where a message that is pending still has its stamp.
func TestGroupProposeClock(t *testing.T) {
	for id := range impl.MaxGroups {
		first := impl.Group{Id: id, Clock: 1, Pending: []impl.Entry{proposed(11, 1, id)}}
		checkPropose(t, impl.Group{Id: id}, 11, first, impl.Stamp{Time: 1, Group: id}, true)
		last := impl.Group{Id: id, Clock: 999, Pending: []impl.Entry{proposed(0, 999, id)}}
		checkPropose(t, impl.Group{Id: id, Clock: 998}, 0, last, impl.Stamp{Time: 999, Group: id}, true)
		checkPropose(t, last, 0, last, impl.Stamp{Time: 999, Group: id}, true)
		checkPropose(t, last, 1, last, impl.Stamp{}, false)
		empty := impl.Group{Id: id, Clock: 999}
		checkPropose(t, empty, 0, empty, impl.Stamp{}, false)
		mixed := impl.Group{Id: id, Clock: 999, Pending: []impl.Entry{proposed(1, 7, id), final(2, 9, 3)}, Done: []impl.Entry{final(3, 5, 0)}}
		checkPropose(t, mixed, 1, mixed, impl.Stamp{Time: 7, Group: id}, true)
		for _, message := range []int{0, 2, 3, 4} {
			checkPropose(t, mixed, message, mixed, impl.Stamp{}, false)
		}
		for _, message := range noMessages {
			checkPropose(t, mixed, message, impl.Group{}, impl.Stamp{}, false)
		}
	}
}

// finalExample is a group with delivered messages, and pending ones without and with final stamps.
func finalExample() impl.Group {
	return impl.Group{
		Id:      2,
		Clock:   20,
		Pending: []impl.Entry{proposed(7, 6, 2), final(3, 8, 1), proposed(9, 9, 2), final(1, 20, 4)},
		Done:    []impl.Entry{final(4, 3, 0), final(0, 5, 2), final(11, 5, 4)},
	}
}

// TestGroupFinalRefuses has messages that are unknown, already final and delivered, and stamps that are less or that another pending message has.
func TestGroupFinalRefuses(t *testing.T) {
	g := finalExample()
	for _, s := range stampsNear(g) {
		// 5 is unknown, 3 and 1 are final, 4, 0 and 11 are delivered.
		for _, message := range []int{5, 3, 1, 4, 0, 11} {
			checkNoFinal(t, g, message, s)
		}
	}
	for _, s := range []impl.Stamp{
		{Time: 1, Group: 2}, {Time: 5, Group: 4}, {Time: 6, Group: 0}, {Time: 6, Group: 1}, // less than the proposed one
		{Time: 3, Group: 0}, {Time: 5, Group: 2}, // those of delivered messages are less, too
		{Time: 8, Group: 1}, {Time: 9, Group: 2}, {Time: 20, Group: 4}, // those of other pending ones
	} {
		checkNoFinal(t, g, 7, s)
	}
	for _, s := range []impl.Stamp{{Time: 9, Group: 1}, {Time: 6, Group: 2}, {Time: 8, Group: 4}, {Time: 20, Group: 4}} {
		checkNoFinal(t, g, 9, s)
	}
}

// TestGroupFinalAccepts has stamps that are equal to the proposed one and greater, of other groups with the same time, and below, at and above the clock.
func TestGroupFinalAccepts(t *testing.T) {
	g := finalExample()
	behind := g.Pending[1:]
	for _, c := range []struct {
		time, group int
		clock       int
		pending     []impl.Entry
		moved       []impl.Entry
	}{
		{6, 2, 20, behind[1:], []impl.Entry{final(7, 6, 2), behind[0]}},
		{6, 3, 20, behind[1:], []impl.Entry{final(7, 6, 3), behind[0]}},
		{6, 4, 20, behind[1:], []impl.Entry{final(7, 6, 4), behind[0]}},
		{7, 0, 20, behind[1:], []impl.Entry{final(7, 7, 0), behind[0]}},
		{8, 0, 20, behind[1:], []impl.Entry{final(7, 8, 0), behind[0]}},
		{8, 2, 20, behind[1:], []impl.Entry{behind[0], final(7, 8, 2)}},
		{9, 1, 20, behind[1:], []impl.Entry{behind[0], final(7, 9, 1)}},
		{9, 3, 20, []impl.Entry{behind[1], final(7, 9, 3), behind[2]}, behind[:1]},
		{19, 4, 20, []impl.Entry{behind[1], final(7, 19, 4), behind[2]}, behind[:1]},
		{20, 3, 20, []impl.Entry{behind[1], final(7, 20, 3), behind[2]}, behind[:1]},
		{21, 0, 21, []impl.Entry{behind[1], behind[2], final(7, 21, 0)}, behind[:1]},
		{22, 2, 22, []impl.Entry{behind[1], behind[2], final(7, 22, 2)}, behind[:1]},
		{998, 2, 998, []impl.Entry{behind[1], behind[2], final(7, 998, 2)}, behind[:1]},
		{999, 4, 999, []impl.Entry{behind[1], behind[2], final(7, 999, 4)}, behind[:1]},
	} {
		want := impl.Group{Id: 2, Clock: c.clock, Pending: c.pending, Done: slices.Concat(g.Done, c.moved)}
		checkFinal(t, g, 7, impl.Stamp{Time: c.time, Group: c.group}, want, messagesOf(c.moved), true)
	}
}

// TestGroupFinalMaxTime checks that a final stamp with MaxTime moves the clock to its end: no message can be proposed, but those that are pending can be finished.
func TestGroupFinalMaxTime(t *testing.T) {
	g := setFinal(t, play(t, 1, 0, 1), 1, 999, 0, nil, 0)
	checkEntries(t, g, 999, []impl.Entry{proposed(0, 1, 1), final(1, 999, 0)}, nil)
	checkPropose(t, g, 2, g, impl.Stamp{}, false)
	checkNoFinal(t, g, 0, impl.Stamp{Time: 999, Group: 0})
	setFinal(t, g, 0, 999, 1, []int{1, 0}, -1)
	g = setFinal(t, g, 0, 998, 4, []int{0, 1}, -1)
	checkPropose(t, g, 2, g, impl.Stamp{}, false)
}

// TestGroupFinalInvalid checks that an invalid message or stamp leads to zero values, also where the group would be returned otherwise.
func TestGroupFinalInvalid(t *testing.T) {
	for _, g := range []impl.Group{finalExample(), {}, {Id: 4, Clock: 999}, {Id: 1, Clock: 1, Pending: []impl.Entry{proposed(0, 1, 1)}}} {
		checkIsValid(t, g)
		for _, s := range badStamps() {
			for _, message := range []int{0, 7, 3, 5, -1, 12} {
				checkFinal(t, g, message, s, impl.Group{}, nil, false)
			}
		}
		for _, s := range stampsNear(g) {
			for _, message := range noMessages {
				checkFinal(t, g, message, s, impl.Group{}, nil, false)
			}
		}
	}
}

// TestGroupIsAsSaid compares all functions with the words of the document.
func TestGroupIsAsSaid(t *testing.T) {
	for _, g := range validGroups() {
		if !wantedValid(g) {
			t.Fatalf("%v is not valid", g)
		}
		checkIsValid(t, g)
	}
	everyPropose(func(g impl.Group, message int) {
		want, s, ok := wantedPropose(g, message)
		checkPropose(t, g, message, want, s, ok)
	})
	everyFinal(func(g impl.Group, message int, s impl.Stamp) {
		want, moved, ok := wantedFinal(g, message, s)
		checkFinal(t, g, message, s, want, moved, ok)
	})
}

// TestGroupValidAll compares GroupValid with the words of the document for all groups of at most two messages in each list, with few stamps.
func TestGroupValidAll(t *testing.T) {
	entries := []impl.Entry{}
	for message := range 2 {
		for _, s := range smallStamps()[:6] {
			entries = append(entries, impl.Entry{Message: message, Stamp: s}, impl.Entry{Message: message, Stamp: s, Final: true})
		}
	}
	lists := [][]impl.Entry{nil, {}}
	for _, a := range entries {
		lists = append(lists, []impl.Entry{a})
		for _, b := range entries {
			lists = append(lists, []impl.Entry{a, b})
		}
	}
	for _, pending := range lists {
		for _, done := range lists {
			for clock := 1; clock <= 2; clock++ {
				g := impl.Group{Id: 1, Clock: clock, Pending: pending, Done: done}
				if got := impl.GroupValid(g); got != wantedValid(g) {
					t.Fatalf("GroupValid(%v) = %v", g, got)
				}
			}
		}
	}
}

// TestGroupValidExamples has lists that are nil or empty, entries at their limits, and all messages.
func TestGroupValidExamples(t *testing.T) {
	checkIsValid(t, finalExample())
	for id := range impl.MaxGroups {
		for _, clock := range []int{0, 1, 500, 998, 999} {
			checkIsValid(t, impl.Group{Id: id, Clock: clock})
			checkIsValid(t, impl.Group{Id: id, Clock: clock, Pending: []impl.Entry{}, Done: []impl.Entry{}})
			if clock > 0 {
				checkIsValid(t, impl.Group{Id: id, Clock: clock, Pending: []impl.Entry{proposed(0, 1, id)}})
				checkIsValid(t, impl.Group{Id: id, Clock: clock, Pending: []impl.Entry{proposed(11, clock, id)}, Done: []impl.Entry{}})
				checkIsValid(t, impl.Group{Id: id, Clock: clock, Pending: []impl.Entry{}, Done: []impl.Entry{final(11, clock, 4)}})
				checkIsValid(t, impl.Group{Id: id, Clock: clock, Done: []impl.Entry{final(0, 1, 0)}})
			}
		}
		all := []impl.Entry{}
		for message := range impl.MaxMessages {
			all = append(all, proposed(message, message+1, id))
		}
		for n := range impl.MaxMessages + 1 {
			checkIsValid(t, impl.Group{Id: id, Clock: 12, Pending: all[n:], Done: doneOf(all[:n])})
			thirteen := append(slices.Clone(all[n:]), proposed(n, 13, id))
			checkNoGroup(t, impl.Group{Id: id, Clock: 13, Pending: thirteen, Done: doneOf(all[:n])})
		}
	}
	same := impl.Group{Id: 2, Clock: 7, Pending: []impl.Entry{proposed(0, 7, 2), final(1, 7, 3), final(2, 7, 4)}, Done: []impl.Entry{final(3, 7, 0), final(4, 7, 1)}}
	checkIsValid(t, same)
}

// doneOf returns entries with their stamps as final ones.
func doneOf(list []impl.Entry) []impl.Entry {
	done := slices.Clone(list)
	for i := range done {
		done[i].Final = true
	}
	return done
}

// TestGroupValidNumbers breaks the number and the clock alone.
func TestGroupValidNumbers(t *testing.T) {
	for _, id := range noGroups {
		checkNoGroup(t, impl.Group{Id: id})
		checkNoGroup(t, impl.Group{Id: id, Clock: 999})
		checkNoGroup(t, impl.Group{Id: id, Clock: 20, Done: finalExample().Done})
	}
	for _, clock := range []int{-1, -999, 1000, 1001, math.MinInt, math.MaxInt} {
		checkNoGroup(t, impl.Group{Clock: clock})
		checkNoGroup(t, impl.Group{Id: 4, Clock: clock})
		if clock > 0 {
			g := finalExample()
			g.Clock = clock
			checkNoGroup(t, g)
		}
	}
}

// changed returns finalExample with one entry replaced: those of Done are counted first, and then those of Pending.
func changed(at int, e impl.Entry) impl.Group {
	g := finalExample()
	if at < len(g.Done) {
		g.Done[at] = e
	} else {
		g.Pending[at-len(g.Done)] = e
	}
	return g
}

// TestGroupValidEntries breaks the message, the stamp, or its place, of each entry alone.
func TestGroupValidEntries(t *testing.T) {
	g := finalExample()
	all := slices.Concat(g.Done, g.Pending)
	for i, e := range all {
		for _, message := range noMessages {
			checkNoGroup(t, changed(i, impl.Entry{Message: message, Stamp: e.Stamp, Final: e.Final}))
		}
		for _, group := range noGroups {
			checkNoGroup(t, changed(i, final(e.Message, e.Stamp.Time, group)))
			checkNoGroup(t, changed(i, proposed(e.Message, e.Stamp.Time, group)))
		}
		for _, time := range noTimes {
			checkNoGroup(t, changed(i, impl.Entry{Message: e.Message, Stamp: impl.Stamp{Time: time, Group: e.Stamp.Group}, Final: e.Final}))
		}
		// A message of another entry, in the same list or in the other one.
		for j, other := range all {
			if i != j {
				checkNoGroup(t, changed(i, impl.Entry{Message: other.Message, Stamp: e.Stamp, Final: e.Final}))
			}
		}
		// The same stamp as the entry before, and one that is less.
		if i > 0 {
			before := all[i-1].Stamp
			for _, s := range []impl.Stamp{before, {Time: before.Time - 1, Group: 2}, {Time: 1, Group: 2}} {
				checkNoGroup(t, changed(i, impl.Entry{Message: e.Message, Stamp: s, Final: e.Final}))
			}
		}
	}
	one := impl.Group{Id: 2, Clock: 20}
	for _, time := range noTimes {
		one.Pending, one.Done = []impl.Entry{proposed(0, time, 2)}, nil
		checkNoGroup(t, one)
		one.Pending, one.Done = nil, []impl.Entry{final(0, time, 2)}
		checkNoGroup(t, one)
	}
}

// TestGroupValidClock breaks only that no time is above the clock, by one and by more, in each of the lists.
func TestGroupValidClock(t *testing.T) {
	g := finalExample()
	for clock := range 20 {
		g.Clock = clock
		checkNoGroup(t, g)
	}
	for time := 1; time <= impl.MaxTime; time += 37 {
		for _, clock := range []int{0, time - 1, time, time + 1, 999} {
			for _, x := range []impl.Group{
				{Id: 3, Clock: clock, Pending: []impl.Entry{proposed(0, time, 3)}},
				{Id: 3, Clock: clock, Done: []impl.Entry{final(0, time, 1)}},
			} {
				if got := impl.GroupValid(x); got != (time <= clock) {
					t.Errorf("GroupValid(%v) = %v", x, got)
				}
			}
		}
	}
	checkNoGroup(t, impl.Group{Id: 2, Clock: 10, Pending: []impl.Entry{proposed(7, 6, 2), final(1, 11, 0)}})
}

// TestGroupValidOrder breaks only the order of stamps: equal or descending ones in each of the lists, by time and by group, and across them.
func TestGroupValidOrder(t *testing.T) {
	head := proposed(0, 5, 2)
	for _, c := range []struct {
		pending, done []impl.Entry
	}{
		{[]impl.Entry{head, final(1, 5, 2)}, nil},
		{[]impl.Entry{head, proposed(1, 5, 2)}, nil},
		{[]impl.Entry{head, final(1, 5, 1)}, nil},
		{[]impl.Entry{head, final(1, 4, 4)}, nil},
		{[]impl.Entry{head, proposed(1, 4, 2)}, nil},
		{[]impl.Entry{head, final(1, 8, 3), final(3, 8, 3)}, nil},
		{[]impl.Entry{head, final(1, 8, 3), proposed(3, 8, 2)}, nil},
		{[]impl.Entry{head, final(1, 8, 3), final(3, 7, 4)}, nil},
		{[]impl.Entry{head, final(1, 8, 3), proposed(3, 7, 2), final(4, 9, 0)}, nil},
		{nil, []impl.Entry{final(1, 5, 2), final(3, 5, 2)}},
		{nil, []impl.Entry{final(1, 5, 2), final(3, 5, 1)}},
		{nil, []impl.Entry{final(1, 5, 2), final(3, 4, 4)}},
		{nil, []impl.Entry{final(1, 5, 2), final(3, 9, 4), final(4, 9, 4)}},
		{nil, []impl.Entry{final(1, 5, 2), final(3, 9, 4), final(4, 9, 3)}},
		{[]impl.Entry{head}, []impl.Entry{final(1, 5, 2)}},
		{[]impl.Entry{head}, []impl.Entry{final(1, 5, 3)}},
		{[]impl.Entry{head}, []impl.Entry{final(1, 6, 0)}},
		{[]impl.Entry{head, final(3, 9, 0)}, []impl.Entry{final(1, 6, 0)}},
		{[]impl.Entry{head}, []impl.Entry{final(1, 3, 0), final(3, 20, 4)}},
		{[]impl.Entry{head, final(3, 9, 0)}, []impl.Entry{final(1, 3, 0), final(4, 5, 2)}},
	} {
		checkNoGroup(t, impl.Group{Id: 2, Clock: 20, Pending: c.pending, Done: c.done})
	}
	checkIsValid(t, impl.Group{Id: 2, Clock: 20, Pending: []impl.Entry{head, final(1, 5, 3)}, Done: []impl.Entry{final(3, 5, 1)}})
}

// TestGroupValidFinal breaks only what is final: proposed stamps of other groups, delivered entries that are proposed, and a first pending entry that is final.
func TestGroupValidFinal(t *testing.T) {
	g := finalExample()
	for group := range impl.MaxGroups {
		for i, e := range g.Pending {
			x := changed(len(g.Done)+i, proposed(e.Message, e.Stamp.Time, group))
			if group == 2 {
				checkIsValid(t, x)
			} else {
				checkNoGroup(t, x)
			}
		}
		for i, e := range g.Done {
			checkNoGroup(t, changed(i, proposed(e.Message, e.Stamp.Time, group)))
		}
		checkNoGroup(t, changed(len(g.Done), final(7, 6, group)))
		checkNoGroup(t, impl.Group{Id: group, Clock: 1, Pending: []impl.Entry{final(0, 1, group)}})
		checkNoGroup(t, impl.Group{Id: group, Clock: 1, Done: []impl.Entry{proposed(0, 1, group)}})
		checkNoGroup(t, impl.Group{Id: group, Clock: 2, Pending: []impl.Entry{final(0, 1, 4), proposed(1, 2, group)}})
	}
}

// TestGroupValidTwice breaks only that no message is twice: in each of the lists, and in both.
func TestGroupValidTwice(t *testing.T) {
	for message := range impl.MaxMessages {
		checkNoGroup(t, impl.Group{Id: 1, Clock: 9, Pending: []impl.Entry{proposed(message, 2, 1), final(message, 3, 4)}})
		checkNoGroup(t, impl.Group{Id: 1, Clock: 9, Pending: []impl.Entry{proposed(message, 2, 1), proposed(message, 3, 1)}})
		checkNoGroup(t, impl.Group{Id: 1, Clock: 9, Done: []impl.Entry{final(message, 2, 1), final(message, 3, 4)}})
		checkNoGroup(t, impl.Group{Id: 1, Clock: 9, Pending: []impl.Entry{proposed(message, 3, 1)}, Done: []impl.Entry{final(message, 2, 1)}})
	}
	// Far more entries than messages.
	many := []impl.Entry{}
	for i := range 400 {
		many = append(many, final(i%12, i+1, 0))
	}
	checkNoGroup(t, impl.Group{Clock: 999, Done: many})
}

// TestGroupLook checks the functions that only look at groups, with and without messages.
func TestGroupLook(t *testing.T) {
	g := finalExample()
	checkLook(t, g, 7, []int{4, 0, 11})
	for _, e := range slices.Concat(g.Pending, g.Done) {
		checkStamp(t, g, e.Message, e, true)
	}
	for _, message := range append([]int{2, 5, 6, 8, 10}, noMessages...) {
		checkStamp(t, g, message, impl.Entry{}, false)
	}
	for _, empty := range []impl.Group{{}, {Id: 4, Clock: 999}, {Pending: []impl.Entry{}, Done: []impl.Entry{}}} {
		checkLook(t, empty, -1, nil)
		for _, message := range append([]int{0, 5, 11}, noMessages...) {
			checkStamp(t, empty, message, impl.Entry{}, false)
		}
	}
	checkLook(t, impl.Group{Id: 2, Clock: 20, Pending: g.Pending}, 7, nil)
	checkLook(t, impl.Group{Id: 2, Clock: 20, Done: g.Done}, -1, []int{4, 0, 11})
	checkLook(t, impl.Group{Id: 2, Clock: 1, Pending: []impl.Entry{proposed(0, 1, 2)}}, 0, nil)
	checkStamp(t, impl.Group{Id: 2, Clock: 1, Pending: []impl.Entry{proposed(0, 1, 2)}}, 0, proposed(0, 1, 2), true)
	for _, g := range validGroups() {
		blocked := -1
		if len(g.Pending) > 0 {
			blocked = g.Pending[0].Message
		}
		checkLook(t, g, blocked, messagesOf(g.Done))
	}
}

// TestGroupInvalidIsZero exchanges, reverses and joins the lists of valid groups, and changes their numbers: all functions refuse what the document does.
func TestGroupInvalidIsZero(t *testing.T) {
	for _, g := range append(slices.Clone(randomGroups()), finalExample()) {
		swapped := impl.Group{Id: g.Id, Clock: g.Clock, Pending: g.Done, Done: g.Pending}
		reversed := impl.Group{Id: g.Id, Clock: g.Clock, Pending: slices.Clone(g.Pending), Done: slices.Clone(g.Done)}
		slices.Reverse(reversed.Pending)
		slices.Reverse(reversed.Done)
		joined := impl.Group{Id: g.Id, Clock: g.Clock, Pending: slices.Concat(g.Done, g.Pending)}
		all := impl.Group{Id: g.Id, Clock: g.Clock, Done: slices.Concat(g.Done, g.Pending)}
		for _, x := range []impl.Group{swapped, reversed, joined, all, {Id: g.Id + 1, Clock: g.Clock, Pending: g.Pending, Done: g.Done}} {
			if wantedValid(x) {
				checkIsValid(t, x)
			} else {
				checkNoGroup(t, x)
			}
		}
	}
}

// TestP38 checks that a new group is valid, with clock 0 and without messages, and that there is none of another number.
func TestP38(t *testing.T) {
	for id := range impl.MaxGroups {
		g, ok := impl.GroupNew(id)
		if !ok || !impl.GroupValid(g) || g.Id != id || g.Clock != 0 || len(g.Pending) != 0 || len(g.Done) != 0 {
			t.Errorf("GroupNew(%d) = %v, %v", id, g, ok)
		}
		checkLook(t, g, -1, nil)
	}
	for _, id := range noGroups {
		if g, ok := impl.GroupNew(id); ok || !sameGroup(g, impl.Group{}) {
			t.Errorf("GroupNew(%d) = %v, %v", id, g, ok)
		}
	}
}

// known reports whether a group has an entry of a message.
func known(g impl.Group, message int) bool {
	_, ok := entryOf(slices.Concat(g.Pending, g.Done), message)
	return ok
}

// TestP39 checks that a new message gets the stamp of the next time, greater than all others, and is pending.
func TestP39(t *testing.T) {
	everyPropose(func(g impl.Group, message int) {
		after, s, ok := impl.GroupPropose(g, message)
		if !ok || known(g, message) {
			return
		}
		if s != (impl.Stamp{Time: g.Clock + 1, Group: g.Id}) {
			t.Errorf("GroupPropose(%v, %d) returned %v", g, message, s)
		}
		for _, e := range slices.Concat(g.Pending, g.Done) {
			if !impl.StampLess(e.Stamp, s) {
				t.Errorf("GroupPropose(%v, %d) returned %v", g, message, s)
			}
		}
		if e, pending := entryOf(after.Pending, message); !pending || e.Final || e.Stamp != s {
			t.Errorf("GroupPropose(%v, %d) returned %v", g, message, after)
		}
		checkIsValid(t, after)
	})
}

// TestP40 checks that GroupPropose of the same message again returns the same and changes nothing.
func TestP40(t *testing.T) {
	everyPropose(func(g impl.Group, message int) {
		after, s, ok := impl.GroupPropose(g, message)
		checkPropose(t, after, message, after, s, ok)
	})
}

// TestP41 checks that GroupPropose fails only for a known final stamp and at MaxTime, and that nothing changes then.
func TestP41(t *testing.T) {
	everyPropose(func(g impl.Group, message int) {
		e, has := entryOf(slices.Concat(g.Pending, g.Done), message)
		fails := has && e.Final || !has && g.Clock == 999
		after, s, ok := impl.GroupPropose(g, message)
		if ok == fails || fails && (s != impl.Stamp{} || !sameGroup(after, g)) {
			t.Errorf("GroupPropose(%v, %d) = %v, %v, %v", g, message, after, s, ok)
		}
	})
}

// TestP42 checks that GroupPropose changes neither what is delivered nor the stamps of others.
func TestP42(t *testing.T) {
	everyPropose(func(g impl.Group, message int) {
		after, _, _ := impl.GroupPropose(g, message)
		if !slices.Equal(after.Done, g.Done) || !slices.Equal(impl.GroupTrace(after), messagesOf(g.Done)) {
			t.Errorf("GroupPropose(%v, %d) returned %v", g, message, after)
		}
		for other := range impl.MaxMessages {
			if other != message {
				e, has := entryOf(slices.Concat(g.Pending, g.Done), other)
				checkStamp(t, after, other, e, has)
			}
		}
	})
}

// TestP43 checks that the message has the stamp as its final one after GroupFinal, and the clock is at least its time.
func TestP43(t *testing.T) {
	everyFinal(func(g impl.Group, message int, s impl.Stamp) {
		if after, _, ok := impl.GroupFinal(g, message, s); ok {
			checkStamp(t, after, message, impl.Entry{Message: message, Stamp: s, Final: true}, true)
			if after.Clock < s.Time || after.Clock < g.Clock || after.Clock > max(g.Clock, s.Time) {
				t.Errorf("GroupFinal(%v, %d, %v): the clock is %d", g, message, s, after.Clock)
			}
		}
	})
}

// TestP44 checks that GroupFinal of the same message with any stamp fails after it has succeeded, and changes nothing.
func TestP44(t *testing.T) {
	for _, g := range validGroups() {
		for _, e := range g.Pending {
			for _, s := range []impl.Stamp{e.Stamp, {Time: e.Stamp.Time, Group: 4}, {Time: g.Clock, Group: g.Id}, {Time: 999, Group: 4}} {
				after, _, ok := impl.GroupFinal(g, e.Message, s)
				if !ok {
					continue
				}
				for _, again := range append(stampsNear(after), s) {
					checkNoFinal(t, after, e.Message, again)
				}
			}
		}
	}
}

// TestP45 checks that GroupFinal appends the returned messages to those that were delivered.
func TestP45(t *testing.T) {
	everyFinal(func(g impl.Group, message int, s impl.Stamp) {
		after, moved, ok := impl.GroupFinal(g, message, s)
		if !ok && len(moved) > 0 || !slices.Equal(impl.GroupTrace(after), append(messagesOf(g.Done), moved...)) || !slices.Equal(after.Done[:len(g.Done)], g.Done) {
			t.Errorf("GroupFinal(%v, %d, %v) = %v, %v, %v", g, message, s, after, moved, ok)
		}
	})
}

// everyResult calls f for the groups that GroupPropose and GroupFinal return.
func everyResult(f func(g impl.Group)) {
	everyPropose(func(g impl.Group, message int) {
		after, _, _ := impl.GroupPropose(g, message)
		f(after)
	})
	everyFinal(func(g impl.Group, message int, s impl.Stamp) {
		after, _, _ := impl.GroupFinal(g, message, s)
		f(after)
	})
}

// TestP46 checks that the final stamps of delivered messages ascend, and are less than those of pending ones.
func TestP46(t *testing.T) {
	everyResult(func(g impl.Group) {
		if !impl.GroupValid(g) || !ascends(g.Done) || slices.ContainsFunc(g.Done, func(e impl.Entry) bool { return !e.Final }) {
			t.Fatalf("the group is %v", g)
		}
		for _, d := range g.Done {
			for _, p := range g.Pending {
				if !impl.StampLess(d.Stamp, p.Stamp) {
					t.Fatalf("the group is %v", g)
				}
			}
		}
	})
	for _, g := range validGroups() {
		for i := 1; i < len(g.Done); i++ {
			x := impl.Group{Id: g.Id, Clock: g.Clock, Pending: g.Pending, Done: slices.Clone(g.Done)}
			x.Done[i-1], x.Done[i] = x.Done[i], x.Done[i-1]
			checkNoGroup(t, x)
		}
		for i := range g.Pending {
			x := impl.Group{Id: g.Id, Clock: g.Clock, Pending: slices.Delete(slices.Clone(g.Pending), i, i+1)}
			x.Done = append(slices.Clone(g.Done), final(g.Pending[i].Message, g.Pending[i].Stamp.Time, g.Pending[i].Stamp.Group))
			if i > 0 {
				checkNoGroup(t, x)
			}
		}
	}
}

// TestP47 checks that the first pending message has no final stamp.
func TestP47(t *testing.T) {
	everyResult(func(g impl.Group) {
		if blocked := impl.GroupBlocked(g); len(g.Pending) > 0 {
			if e, ok := impl.GroupStamp(g, blocked); !ok || e.Final || e != g.Pending[0] {
				t.Fatalf("the group is %v, and blocked by %d", g, blocked)
			}
		}
	})
	for _, g := range validGroups() {
		if len(g.Pending) > 0 {
			x := impl.Group{Id: g.Id, Clock: g.Clock, Pending: slices.Clone(g.Pending), Done: g.Done}
			x.Pending[0].Final = true
			checkNoGroup(t, x)
		}
	}
}

// checkEitherOrder checks that final stamps that can be set one after the other, and each first, lead to the same group in the other order.
func checkEitherOrder(t *testing.T, g impl.Group, a int, stampA impl.Stamp, b int, stampB impl.Stamp) {
	t.Helper()
	onlyA, movedA, okA := impl.GroupFinal(g, a, stampA)
	onlyB, movedB, okB := impl.GroupFinal(g, b, stampB)
	if !okA || !okB {
		return
	}
	ab, movedAB, okAB := impl.GroupFinal(onlyA, b, stampB)
	ba, movedBA, okBA := impl.GroupFinal(onlyB, a, stampA)
	if !okAB {
		return
	}
	if !okBA || !sameGroup(ab, ba) || !slices.Equal(append(movedA, movedAB...), append(movedB, movedBA...)) {
		t.Errorf("in %v, the stamps %v of %d and %v of %d lead to %v or %v", g, stampA, a, stampB, b, ab, ba)
	}
}

// TestP48 checks the final stamps of two messages in either order.
func TestP48(t *testing.T) {
	for _, g := range reachedGroups() {
		for _, a := range g.Pending {
			for _, b := range g.Pending {
				for _, stampA := range smallStamps() {
					for _, stampB := range smallStamps() {
						if a != b {
							checkEitherOrder(t, g, a.Message, stampA, b.Message, stampB)
						}
					}
				}
			}
		}
	}
	r := rand.New(rand.NewPCG(17, 18))
	for _, g := range randomGroups() {
		near := stampsNear(g)
		for _, a := range g.Pending {
			for _, b := range g.Pending {
				for range 30 {
					if a != b {
						checkEitherOrder(t, g, a.Message, near[r.IntN(len(near))], b.Message, near[r.IntN(len(near))])
					}
				}
			}
		}
	}
}

// TestP49 checks when GroupFinal fails, and that nothing changes then.
func TestP49(t *testing.T) {
	everyFinal(func(g impl.Group, message int, s impl.Stamp) {
		e, pending := entryOf(g.Pending, message)
		taken := slices.ContainsFunc(g.Pending, func(other impl.Entry) bool { return other.Message != message && other.Stamp == s })
		fails := !pending || e.Final || impl.StampLess(s, e.Stamp) || taken
		after, moved, ok := impl.GroupFinal(g, message, s)
		if ok == fails || fails && (!sameGroup(after, g) || len(moved) > 0) {
			t.Errorf("GroupFinal(%v, %d, %v) = %v, %v, %v", g, message, s, after, moved, ok)
		}
	})
}

// TestP50 checks that the stamp of a new message is greater than those of delivered ones, also of those delivered just before.
func TestP50(t *testing.T) {
	check := func(g impl.Group, message int) {
		_, s, ok := impl.GroupPropose(g, message)
		for _, d := range g.Done {
			if ok && !known(g, message) && !impl.StampLess(d.Stamp, s) {
				t.Errorf("GroupPropose(%v, %d) returned %v", g, message, s)
			}
		}
	}
	everyPropose(check)
	for _, g := range validGroups() {
		for _, s := range stampsNear(g) {
			for _, e := range g.Pending {
				after, _, _ := impl.GroupFinal(g, e.Message, s)
				check(after, 5)
			}
		}
	}
}

// TestP51 checks that the message that blocks is delivered first when its own proposed stamp becomes final.
func TestP51(t *testing.T) {
	for _, g := range validGroups() {
		blocked := impl.GroupBlocked(g)
		if blocked < 0 {
			continue
		}
		after, moved, ok := impl.GroupFinal(g, blocked, g.Pending[0].Stamp)
		if !ok || len(moved) == 0 || moved[0] != blocked || after.Done[len(g.Done)].Message != blocked {
			t.Errorf("GroupFinal(%v, %d, %v) = %v, %v, %v", g, blocked, g.Pending[0].Stamp, after, moved, ok)
		}
	}
}

// TestP52 checks that nothing is delivered by the final stamp of a message that does not block.
func TestP52(t *testing.T) {
	everyFinal(func(g impl.Group, message int, s impl.Stamp) {
		if message == impl.GroupBlocked(g) {
			return
		}
		after, moved, ok := impl.GroupFinal(g, message, s)
		if len(moved) > 0 || !slices.Equal(after.Done, g.Done) || ok && impl.GroupBlocked(after) != impl.GroupBlocked(g) {
			t.Errorf("GroupFinal(%v, %d, %v) = %v, %v", g, message, s, after, moved)
		}
	})
}

// TestP53 checks that GroupPropose increases the clock by one for a new message, and not for a pending one.
func TestP53(t *testing.T) {
	everyPropose(func(g impl.Group, message int) {
		want := g.Clock
		if !known(g, message) {
			want = min(want+1, impl.MaxTime)
		}
		if after, _, _ := impl.GroupPropose(g, message); after.Clock != want {
			t.Errorf("GroupPropose(%v, %d): the clock is %d", g, message, after.Clock)
		}
	})
}

// TestP54 checks that GroupTrace has no message twice, and none that is pending.
func TestP54(t *testing.T) {
	everyResult(func(g impl.Group) {
		trace := impl.GroupTrace(g)
		for i, message := range trace {
			if slices.Contains(trace[:i], message) || slices.Contains(messagesOf(g.Pending), message) {
				t.Fatalf("GroupTrace(%v) = %v", g, trace)
			}
		}
		if len(trace) != len(g.Done) {
			t.Fatalf("GroupTrace(%v) = %v", g, trace)
		}
	})
}

// TestP55 checks that GroupStamp returns the entry of each message that is pending or delivered, and none of others.
func TestP55(t *testing.T) {
	for _, g := range validGroups() {
		all := slices.Concat(g.Done, g.Pending)
		for message := range impl.MaxMessages {
			e, has := entryOf(all, message)
			checkStamp(t, g, message, e, has)
		}
		for _, message := range noMessages {
			checkStamp(t, g, message, impl.Entry{}, false)
		}
	}
}

// spareEntries returns a copy with space behind it, which a function that appends to its argument would overwrite.
func spareEntries(list []impl.Entry) []impl.Entry {
	e := impl.Entry{Message: 77, Stamp: impl.Stamp{Time: 77, Group: 77}}
	return append(slices.Clone(list), e, e, e, e, e, e)[:len(list)]
}

// spareGroup returns a copy of a group with space behind both lists.
func spareGroup(g impl.Group) impl.Group {
	return impl.Group{Id: g.Id, Clock: g.Clock, Pending: spareEntries(g.Pending), Done: spareEntries(g.Done)}
}

// wholeEntries returns what is in the memory of a list, as text.
func wholeEntries(list []impl.Entry) string {
	return fmt.Sprint(list[:cap(list)], len(list))
}

// wholeGroup returns what is in the memory of a group, as text.
func wholeGroup(g impl.Group) string {
	return fmt.Sprint(g.Id, g.Clock, wholeEntries(g.Pending), wholeEntries(g.Done))
}

// overwriteEntries fills all the memory of a list.
func overwriteEntries(list []impl.Entry) {
	list = list[:cap(list)]
	for i := range list {
		list[i] = impl.Entry{Message: 99, Stamp: impl.Stamp{Time: 99, Group: 99}, Final: true}
	}
}

// checkMemory checks that f leaves its argument, and what is behind it, and that no list of its results shares memory with another one or with the argument.
func checkMemory(t *testing.T, g impl.Group, f func(g impl.Group) (impl.Group, []int)) {
	t.Helper()
	argument := spareGroup(g)
	before := wholeGroup(argument)
	firstGroup, firstList := f(argument)
	group, list := f(argument)
	wantGroup, wantList := wholeGroup(group), whole(list)
	overwriteEntries(firstGroup.Pending)
	overwriteEntries(firstGroup.Done)
	overwrite(firstList)
	if wholeGroup(argument) != before {
		t.Fatalf("an argument was changed: %v", g)
	}
	if wholeGroup(group) != wantGroup || whole(list) != wantList {
		t.Fatalf("the results of two calls share memory: %v", g)
	}
	overwriteEntries(argument.Pending)
	overwriteEntries(argument.Done)
	if wholeGroup(group) != wantGroup || whole(list) != wantList {
		t.Fatalf("a result shares memory with the argument: %v", g)
	}
	done := wholeEntries(group.Done)
	overwriteEntries(group.Pending)
	if wholeEntries(group.Done) != done {
		t.Fatalf("the lists of a result share memory: %v", g)
	}
}

// TestGroupMemory checks the memory of all functions, for valid groups and for invalid ones.
func TestGroupMemory(t *testing.T) {
	groups := append(slices.Clone(randomGroups()), finalExample(), impl.Group{}, impl.Group{Id: 4, Clock: 999}, changed(0, final(3, 3, 0)), changed(6, final(1, 21, 0)), impl.Group{Id: 5, Done: finalExample().Done})
	for i := 0; i < len(reachedGroups()); i += 7 {
		groups = append(groups, reachedGroups()[i])
	}
	for _, g := range groups {
		for _, message := range []int{0, 1, 2, 5, 7, 11, -1} {
			checkMemory(t, g, func(g impl.Group) (impl.Group, []int) {
				after, _, _ := impl.GroupPropose(g, message)
				return after, nil
			})
			near := stampsNear(g)
			for i := 0; i < len(near); i += 3 {
				checkMemory(t, g, func(g impl.Group) (impl.Group, []int) {
					after, moved, _ := impl.GroupFinal(g, message, near[i])
					return after, moved
				})
			}
		}
		checkMemory(t, g, func(g impl.Group) (impl.Group, []int) {
			impl.GroupValid(g)
			impl.GroupBlocked(g)
			impl.GroupStamp(g, 7)
			return impl.Group{}, impl.GroupTrace(g)
		})
	}
	a, _ := impl.GroupNew(3)
	b, _ := impl.GroupNew(3)
	overwriteEntries(a.Pending)
	overwriteEntries(a.Done)
	if a, _, ok := impl.GroupPropose(b, 1); !ok || len(a.Pending) != 1 || !sameGroup(b, impl.Group{Id: 3}) {
		t.Errorf("after GroupNew, the group is %v", b)
	}
}
