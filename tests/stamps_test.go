package tests

import (
	"math"
	"math/rand/v2"
	"slices"
	"testing"

	"loop.example/groupmulticast/impl"
)

// noTimes are numbers that are not times of stamps. All but 0 are not Walls or physical times either.
var noTimes = []int{0, -1, -999, 1000, 1001, 1998, math.MinInt, math.MaxInt}

// noCounts are numbers that are not counts.
var noCounts = []int{-1, -99, 100, 101, 199, math.MinInt, math.MaxInt}

// someTimes are times of stamps: the limits, and neighbours.
var someTimes = []int{1, 2, 3, 499, 500, 501, 997, 998, 999}

// someStamps returns stamps of all groups with some times.
func someStamps() []impl.Stamp {
	stamps := []impl.Stamp{}
	for _, time := range someTimes {
		for group := range impl.MaxGroups {
			stamps = append(stamps, impl.Stamp{Time: time, Group: group})
		}
	}
	return stamps
}

// badStamps returns invalid stamps, with one wrong field or two.
func badStamps() []impl.Stamp {
	stamps := []impl.Stamp{}
	for _, time := range noTimes {
		for group := range impl.MaxGroups {
			stamps = append(stamps, impl.Stamp{Time: time, Group: group})
		}
	}
	for _, group := range noGroups {
		for _, time := range append(slices.Clone(someTimes), noTimes...) {
			stamps = append(stamps, impl.Stamp{Time: time, Group: group})
		}
	}
	return stamps
}

// someHybrids returns hybrid times: the limits, and neighbours.
func someHybrids() []impl.Hybrid {
	hybrids := []impl.Hybrid{}
	for _, wall := range append([]int{0}, someTimes...) {
		for _, count := range []int{0, 1, 2, 50, 98, 99} {
			hybrids = append(hybrids, impl.Hybrid{Wall: wall, Count: count})
		}
	}
	return hybrids
}

// badHybrids returns invalid hybrid times, with one wrong field or two.
func badHybrids() []impl.Hybrid {
	hybrids := []impl.Hybrid{}
	for _, count := range noCounts {
		for _, wall := range append([]int{0}, someTimes...) {
			hybrids = append(hybrids, impl.Hybrid{Wall: wall, Count: count})
		}
	}
	for _, wall := range noTimes[1:] {
		for _, count := range []int{0, 1, 50, 99, -1, 100} {
			hybrids = append(hybrids, impl.Hybrid{Wall: wall, Count: count})
		}
	}
	return hybrids
}

// somePhysicals are physical times: the limits, and those at and beside the Walls of someHybrids.
var somePhysicals = []int{0, 1, 2, 3, 4, 250, 498, 499, 500, 501, 502, 996, 997, 998, 999}

// place returns a number by which valid stamps are ordered.
func place(s impl.Stamp) int {
	return s.Time*impl.MaxGroups + s.Group
}

// hybridPlace returns a number by which valid hybrid times are ordered.
func hybridPlace(h impl.Hybrid) int {
	return h.Wall*(impl.MaxCount+1) + h.Count
}

// wantedMerge returns what the document says of HybridMerge of valid arguments.
func wantedMerge(h impl.Hybrid, physical int, other impl.Hybrid) (impl.Hybrid, bool) {
	wall := max(h.Wall, other.Wall, physical)
	counts := []int{}
	for _, x := range []impl.Hybrid{h, other} {
		if x.Wall == wall {
			counts = append(counts, x.Count)
		}
	}
	if len(counts) == 0 {
		return impl.Hybrid{Wall: wall}, true
	}
	count := slices.Max(counts) + 1
	if count > impl.MaxCount {
		return impl.Hybrid{}, false
	}
	return impl.Hybrid{Wall: wall, Count: count}, true
}

func TestStampsConstants(t *testing.T) {
	if impl.MaxTime != 999 || impl.MaxCount != 99 {
		t.Errorf("MaxTime is %d, MaxCount is %d", impl.MaxTime, impl.MaxCount)
	}
}

// TestStampValid checks every time from -2 to MaxTime+2 with every group from -2 to MaxGroups+1, and numbers far away.
func TestStampValid(t *testing.T) {
	for time := -2; time <= 1001; time++ {
		for group := -2; group <= 6; group++ {
			s := impl.Stamp{Time: time, Group: group}
			want := time >= 1 && time <= 999 && group >= 0 && group <= 4
			if impl.StampValid(s) != want {
				t.Errorf("StampValid(%v) = %v", s, !want)
			}
		}
	}
	for _, s := range badStamps() {
		if impl.StampValid(s) {
			t.Errorf("StampValid(%v) = true", s)
		}
	}
}

// TestHybridValid checks every Wall from -2 to MaxTime+2 with every Count from -2 to MaxCount+2, and numbers far away.
func TestHybridValid(t *testing.T) {
	for wall := -2; wall <= 1001; wall++ {
		for count := -2; count <= 101; count++ {
			h := impl.Hybrid{Wall: wall, Count: count}
			want := wall >= 0 && wall <= 999 && count >= 0 && count <= 99
			if impl.HybridValid(h) != want {
				t.Errorf("HybridValid(%v) = %v", h, !want)
			}
		}
	}
	for _, h := range badHybrids() {
		if impl.HybridValid(h) {
			t.Errorf("HybridValid(%v) = true", h)
		}
	}
}

func TestStampLess(t *testing.T) {
	for _, c := range []struct {
		a, b impl.Stamp
		want bool
	}{
		{impl.Stamp{Time: 3, Group: 1}, impl.Stamp{Time: 3, Group: 2}, true},
		{impl.Stamp{Time: 3, Group: 2}, impl.Stamp{Time: 3, Group: 1}, false},
		{impl.Stamp{Time: 3, Group: 4}, impl.Stamp{Time: 4, Group: 0}, true},
		{impl.Stamp{Time: 4, Group: 0}, impl.Stamp{Time: 3, Group: 4}, false},
		{impl.Stamp{Time: 1, Group: 0}, impl.Stamp{Time: 999, Group: 4}, true},
		{impl.Stamp{Time: 5, Group: 0}, impl.Stamp{Time: 5, Group: 0}, false},
	} {
		if got := impl.StampLess(c.a, c.b); got != c.want {
			t.Errorf("StampLess(%v, %v) = %v", c.a, c.b, got)
		}
	}
	for _, a := range someStamps() {
		for _, b := range someStamps() {
			if got := impl.StampLess(a, b); got != (place(a) < place(b)) {
				t.Errorf("StampLess(%v, %v) = %v", a, b, got)
			}
		}
	}
}

// TestStampLessInvalid checks that an invalid stamp is neither less nor greater than any other.
func TestStampLessInvalid(t *testing.T) {
	for _, bad := range badStamps() {
		for _, other := range append(someStamps(), badStamps()...) {
			if impl.StampLess(bad, other) || impl.StampLess(other, bad) {
				t.Errorf("StampLess of %v and %v, or of %v and %v, is true", bad, other, other, bad)
			}
		}
	}
}

// TestP11 checks that one of two valid stamps is less, or they are equal.
func TestP11(t *testing.T) {
	for _, a := range someStamps() {
		for _, b := range someStamps() {
			holds := 0
			for _, one := range []bool{impl.StampLess(a, b), impl.StampLess(b, a), a == b} {
				if one {
					holds++
				}
			}
			if holds != 1 {
				t.Errorf("%v and %v: %d of less, greater and equal hold", a, b, holds)
			}
		}
	}
}

// TestP12 checks that StampLess is transitive.
func TestP12(t *testing.T) {
	for _, a := range someStamps() {
		for _, b := range someStamps() {
			for _, c := range someStamps() {
				if impl.StampLess(a, b) && impl.StampLess(b, c) && !impl.StampLess(a, c) {
					t.Fatalf("%v is less than %v, and that less than %v, but not the first one", a, b, c)
				}
			}
		}
	}
}

// stampLists returns lists of 1 to MaxMessages stamps, always the same: with any times, and with few, so that many are equal.
func stampLists() [][]impl.Stamp {
	lists := [][]impl.Stamp{}
	r := rand.New(rand.NewPCG(5, 6))
	for n := 1; n <= impl.MaxMessages; n++ {
		for range 200 {
			wide, narrow := []impl.Stamp{}, []impl.Stamp{}
			for range n {
				wide = append(wide, impl.Stamp{Time: 1 + r.IntN(impl.MaxTime), Group: r.IntN(impl.MaxGroups)})
				narrow = append(narrow, impl.Stamp{Time: impl.MaxTime - r.IntN(2), Group: r.IntN(impl.MaxGroups)})
			}
			lists = append(lists, wide, narrow)
		}
	}
	return lists
}

// checkMax checks that StampMax of a list is a stamp.
func checkMax(t *testing.T, list []impl.Stamp, want impl.Stamp) {
	t.Helper()
	if got, ok := impl.StampMax(list); !ok || got != want {
		t.Errorf("StampMax(%v) = %v, %v, not %v", list, got, ok, want)
	}
}

// checkNoMax checks that StampMax refuses a list.
func checkNoMax(t *testing.T, list []impl.Stamp) {
	t.Helper()
	if got, ok := impl.StampMax(list); ok || got != (impl.Stamp{}) {
		t.Errorf("StampMax(%v) = %v, %v", list, got, ok)
	}
}

func TestStampMaxExamples(t *testing.T) {
	checkMax(t, []impl.Stamp{{Time: 2, Group: 4}, {Time: 3, Group: 0}}, impl.Stamp{Time: 3, Group: 0})
	checkMax(t, []impl.Stamp{{Time: 7, Group: 1}, {Time: 7, Group: 3}, {Time: 7, Group: 2}}, impl.Stamp{Time: 7, Group: 3})
	checkMax(t, []impl.Stamp{{Time: 7, Group: 2}, {Time: 7, Group: 2}}, impl.Stamp{Time: 7, Group: 2})
	checkMax(t, []impl.Stamp{{Time: 1, Group: 4}, {Time: 999, Group: 0}, {Time: 998, Group: 4}}, impl.Stamp{Time: 999, Group: 0})
	for _, s := range someStamps() {
		checkMax(t, []impl.Stamp{s}, s)
	}
}

// TestStampMaxPlaces puts the greatest stamp at every place among 1 to MaxMessages: greater by its time, or by its group only.
func TestStampMaxPlaces(t *testing.T) {
	for _, greatest := range []impl.Stamp{{Time: 501, Group: 0}, {Time: 500, Group: 4}} {
		for n := range impl.MaxMessages {
			others := []impl.Stamp{}
			for i := range n {
				others = append(others, impl.Stamp{Time: 500 - i%2, Group: i % 4})
			}
			for at := range n + 1 {
				checkMax(t, slices.Insert(slices.Clone(others), at, greatest), greatest)
			}
		}
	}
}

// TestStampMaxAscends checks stamps each of which, or none of which, is greater than those before, at the greatest number of them.
func TestStampMaxAscends(t *testing.T) {
	for n := 1; n <= impl.MaxMessages; n++ {
		list := []impl.Stamp{}
		for i := range n {
			list = append(list, impl.Stamp{Time: 1 + i/impl.MaxGroups, Group: i % impl.MaxGroups})
		}
		greatest := list[n-1]
		checkMax(t, list, greatest)
		slices.Reverse(list)
		checkMax(t, list, greatest)
		checkMax(t, slices.Repeat([]impl.Stamp{greatest}, n), greatest)
	}
}

func TestStampMaxNumber(t *testing.T) {
	checkNoMax(t, nil)
	checkNoMax(t, []impl.Stamp{})
	checkNoMax(t, make([]impl.Stamp, 0, 3))
	s := impl.Stamp{Time: 4, Group: 2}
	checkMax(t, slices.Repeat([]impl.Stamp{s}, impl.MaxMessages), s)
	checkNoMax(t, slices.Repeat([]impl.Stamp{s}, impl.MaxMessages+1))
	checkNoMax(t, slices.Repeat([]impl.Stamp{s}, 2*impl.MaxMessages))
	checkNoMax(t, someStamps())
}

// TestStampMaxInvalid puts an invalid stamp at every place among valid ones, the greatest and the least of which are at the limits.
func TestStampMaxInvalid(t *testing.T) {
	for _, bad := range badStamps() {
		for n := range impl.MaxMessages {
			good := []impl.Stamp{}
			for i := range n {
				good = append(good, []impl.Stamp{{Time: 999, Group: 4}, {Time: 1, Group: 0}}[i%2])
			}
			for at := range n + 1 {
				checkNoMax(t, slices.Insert(slices.Clone(good), at, bad))
			}
		}
		checkNoMax(t, slices.Repeat([]impl.Stamp{bad}, impl.MaxMessages))
	}
}

// TestStampMaxMemory checks that StampMax leaves its argument, and what is behind it, as it is.
func TestStampMaxMemory(t *testing.T) {
	lists := append(stampLists(), nil, badStamps(), []impl.Stamp{{Time: 5, Group: 1}, {}, {Time: 3, Group: 1}})
	for _, list := range lists {
		space := append(slices.Clone(list), impl.Stamp{Time: 77, Group: 3}, impl.Stamp{Time: 999, Group: 4})
		before := slices.Clone(space)
		got, ok := impl.StampMax(space[:len(list)])
		if !slices.Equal(space, before) {
			t.Errorf("StampMax changes %v to %v", before, space)
		}
		if want, wantOk := impl.StampMax(slices.Clone(list)); got != want || ok != wantOk {
			t.Errorf("StampMax(%v) = %v, %v, but %v, %v without space behind it", list, got, ok, want, wantOk)
		}
	}
}

// TestP13 checks that StampMax is one of the stamps, and none is greater.
func TestP13(t *testing.T) {
	for _, list := range stampLists() {
		got, ok := impl.StampMax(list)
		if !ok || !slices.Contains(list, got) {
			t.Errorf("StampMax(%v) = %v, %v", list, got, ok)
		}
		for _, s := range list {
			if place(s) > place(got) || impl.StampLess(got, s) {
				t.Errorf("StampMax(%v) = %v, less than %v", list, got, s)
			}
		}
	}
}

// TestP14 checks that StampMax of the stamps in reverse order is the same.
func TestP14(t *testing.T) {
	for _, list := range stampLists() {
		got, ok := impl.StampMax(list)
		reversed := slices.Clone(list)
		slices.Reverse(reversed)
		if other, otherOk := impl.StampMax(reversed); !ok || !otherOk || other != got {
			t.Errorf("StampMax(%v) = %v, %v, but %v, %v in reverse order", list, got, ok, other, otherOk)
		}
	}
}

func TestHybridLess(t *testing.T) {
	for _, c := range []struct {
		a, b impl.Hybrid
		want bool
	}{
		{impl.Hybrid{Wall: 0, Count: 0}, impl.Hybrid{Wall: 0, Count: 1}, true},
		{impl.Hybrid{Wall: 5, Count: 99}, impl.Hybrid{Wall: 6, Count: 0}, true},
		{impl.Hybrid{Wall: 6, Count: 0}, impl.Hybrid{Wall: 5, Count: 99}, false},
		{impl.Hybrid{Wall: 999, Count: 98}, impl.Hybrid{Wall: 999, Count: 99}, true},
		{impl.Hybrid{Wall: 999, Count: 99}, impl.Hybrid{Wall: 999, Count: 98}, false},
		{impl.Hybrid{Wall: 0, Count: 0}, impl.Hybrid{Wall: 0, Count: 0}, false},
	} {
		if got := impl.HybridLess(c.a, c.b); got != c.want {
			t.Errorf("HybridLess(%v, %v) = %v", c.a, c.b, got)
		}
	}
	for _, a := range someHybrids() {
		for _, b := range someHybrids() {
			if got := impl.HybridLess(a, b); got != (hybridPlace(a) < hybridPlace(b)) {
				t.Errorf("HybridLess(%v, %v) = %v", a, b, got)
			}
		}
	}
}

// TestHybridLessInvalid checks that an invalid hybrid time is neither less nor greater than any other.
func TestHybridLessInvalid(t *testing.T) {
	for _, bad := range badHybrids() {
		for _, other := range append(someHybrids(), badHybrids()...) {
			if impl.HybridLess(bad, other) || impl.HybridLess(other, bad) {
				t.Errorf("HybridLess of %v and %v, or of %v and %v, is true", bad, other, other, bad)
			}
		}
	}
}

// checkTick checks that HybridTick succeeds with a hybrid time.
func checkTick(t *testing.T, h impl.Hybrid, physical int, want impl.Hybrid) {
	t.Helper()
	if got, ok := impl.HybridTick(h, physical); !ok || got != want {
		t.Errorf("HybridTick(%v, %d) = %v, %v, not %v", h, physical, got, ok, want)
	}
}

// checkNoTick checks that HybridTick refuses its arguments.
func checkNoTick(t *testing.T, h impl.Hybrid, physical int) {
	t.Helper()
	if got, ok := impl.HybridTick(h, physical); ok || got != (impl.Hybrid{}) {
		t.Errorf("HybridTick(%v, %d) = %v, %v", h, physical, got, ok)
	}
}

func TestHybridTickExamples(t *testing.T) {
	h := impl.Hybrid{Wall: 5, Count: 2}
	checkTick(t, h, 4, impl.Hybrid{Wall: 5, Count: 3})
	checkTick(t, h, 5, impl.Hybrid{Wall: 5, Count: 3})
	checkTick(t, h, 6, impl.Hybrid{Wall: 6, Count: 0})
	checkTick(t, h, 0, impl.Hybrid{Wall: 5, Count: 3})
	checkTick(t, h, 999, impl.Hybrid{Wall: 999, Count: 0})
	checkTick(t, impl.Hybrid{}, 0, impl.Hybrid{Wall: 0, Count: 1})
	checkTick(t, impl.Hybrid{}, 1, impl.Hybrid{Wall: 1, Count: 0})
	checkTick(t, impl.Hybrid{Wall: 999, Count: 98}, 999, impl.Hybrid{Wall: 999, Count: 99})
}

// TestHybridTickFull checks that a Count of MaxCount matters only while Wall stays, which is always so at MaxTime.
func TestHybridTickFull(t *testing.T) {
	full := impl.Hybrid{Wall: 5, Count: 99}
	checkNoTick(t, full, 4)
	checkNoTick(t, full, 5)
	checkTick(t, full, 6, impl.Hybrid{Wall: 6, Count: 0})
	checkTick(t, impl.Hybrid{Wall: 5, Count: 98}, 5, impl.Hybrid{Wall: 5, Count: 99})
	checkNoTick(t, impl.Hybrid{Wall: 0, Count: 99}, 0)
	checkTick(t, impl.Hybrid{Wall: 0, Count: 99}, 1, impl.Hybrid{Wall: 1, Count: 0})
	checkTick(t, impl.Hybrid{Wall: 998, Count: 99}, 999, impl.Hybrid{Wall: 999, Count: 0})
	for _, physical := range somePhysicals {
		checkNoTick(t, impl.Hybrid{Wall: 999, Count: 99}, physical)
	}
}

// TestHybridTickIsAsSaid compares with the words of the document for hybrid times at the limits and between them.
func TestHybridTickIsAsSaid(t *testing.T) {
	for _, h := range someHybrids() {
		for _, physical := range somePhysicals {
			switch {
			case physical > h.Wall:
				checkTick(t, h, physical, impl.Hybrid{Wall: physical, Count: 0})
			case h.Count == 99:
				checkNoTick(t, h, physical)
			default:
				checkTick(t, h, physical, impl.Hybrid{Wall: h.Wall, Count: h.Count + 1})
			}
		}
	}
}

func TestHybridTickInvalid(t *testing.T) {
	for _, bad := range badHybrids() {
		for _, physical := range append(slices.Clone(somePhysicals), noTimes...) {
			checkNoTick(t, bad, physical)
		}
	}
	for _, h := range someHybrids() {
		for _, physical := range noTimes[1:] {
			checkNoTick(t, h, physical)
		}
	}
}

// TestP15 checks that HybridTick advances, and that its Wall is the greater one.
func TestP15(t *testing.T) {
	for _, h := range someHybrids() {
		for _, physical := range somePhysicals {
			got, ok := impl.HybridTick(h, physical)
			if ok && (!impl.HybridLess(h, got) || got.Wall != max(h.Wall, physical)) {
				t.Errorf("HybridTick(%v, %d) = %v", h, physical, got)
			}
		}
	}
}

// TestP17 checks that HybridTick skips no hybrid time of the same Wall.
func TestP17(t *testing.T) {
	for _, h := range someHybrids() {
		for _, physical := range somePhysicals {
			got, ok := impl.HybridTick(h, physical)
			if !ok {
				continue
			}
			advanced := got.Count == 0 && got.Wall > h.Wall
			before := impl.Hybrid{Wall: got.Wall, Count: got.Count - 1}
			if !advanced && (!impl.HybridValid(before) || impl.HybridLess(h, before)) {
				t.Errorf("HybridTick(%v, %d) = %v", h, physical, got)
			}
		}
	}
}

// TestP19 checks that one of two valid hybrid times is less, or they are equal.
func TestP19(t *testing.T) {
	for _, a := range someHybrids() {
		for _, b := range someHybrids() {
			holds := 0
			for _, one := range []bool{impl.HybridLess(a, b), impl.HybridLess(b, a), a == b} {
				if one {
					holds++
				}
			}
			if holds != 1 {
				t.Errorf("%v and %v: %d of less, greater and equal hold", a, b, holds)
			}
		}
	}
}

// TestP20 checks that StampLess is the same if both times increase by the same number, up to MaxTime, and false behind it.
func TestP20(t *testing.T) {
	for _, a := range someStamps() {
		for _, b := range someStamps() {
			less := impl.StampLess(a, b)
			room := impl.MaxTime - max(a.Time, b.Time)
			for _, more := range []int{0, 1, 2, room / 2, room - 1, room} {
				later, laterB := impl.Stamp{Time: a.Time + more, Group: a.Group}, impl.Stamp{Time: b.Time + more, Group: b.Group}
				if more >= 0 && more <= room && impl.StampLess(later, laterB) != less {
					t.Errorf("StampLess(%v, %v) = %v, but not for times that are %d greater", a, b, less, more)
				}
			}
			tooLate, tooLateB := impl.Stamp{Time: a.Time + room + 1, Group: a.Group}, impl.Stamp{Time: b.Time + room + 1, Group: b.Group}
			if impl.StampLess(tooLate, tooLateB) {
				t.Errorf("StampLess(%v, %v) = true", tooLate, tooLateB)
			}
		}
	}
}

// TestP21 checks every physical time that is greater than Wall, which always succeeds.
func TestP21(t *testing.T) {
	for _, h := range someHybrids() {
		for physical := h.Wall + 1; physical <= impl.MaxTime; physical++ {
			if got, ok := impl.HybridTick(h, physical); !ok || got.Count != 0 || got.Wall != physical {
				t.Errorf("HybridTick(%v, %d) = %v, %v", h, physical, got, ok)
			}
		}
	}
}

// checkMerge checks that HybridMerge succeeds with a hybrid time, whichever of both comes first.
func checkMerge(t *testing.T, h impl.Hybrid, physical int, other impl.Hybrid, want impl.Hybrid) {
	t.Helper()
	for _, pair := range [][2]impl.Hybrid{{h, other}, {other, h}} {
		if got, ok := impl.HybridMerge(pair[0], physical, pair[1]); !ok || got != want {
			t.Errorf("HybridMerge(%v, %d, %v) = %v, %v, not %v", pair[0], physical, pair[1], got, ok, want)
		}
	}
}

// checkNoMerge checks that HybridMerge refuses its arguments, whichever of both comes first.
func checkNoMerge(t *testing.T, h impl.Hybrid, physical int, other impl.Hybrid) {
	t.Helper()
	for _, pair := range [][2]impl.Hybrid{{h, other}, {other, h}} {
		if got, ok := impl.HybridMerge(pair[0], physical, pair[1]); ok || got != (impl.Hybrid{}) {
			t.Errorf("HybridMerge(%v, %d, %v) = %v, %v", pair[0], physical, pair[1], got, ok)
		}
	}
}

// TestHybridMergeEqual has equal times: all three, the two greatest, or the two least; the least ones never matter.
func TestHybridMergeEqual(t *testing.T) {
	five, fiveLater := impl.Hybrid{Wall: 5, Count: 2}, impl.Hybrid{Wall: 5, Count: 7}
	three := impl.Hybrid{Wall: 3, Count: 50}
	checkMerge(t, five, 5, fiveLater, impl.Hybrid{Wall: 5, Count: 8})
	checkMerge(t, five, 5, five, impl.Hybrid{Wall: 5, Count: 3})
	checkMerge(t, five, 4, fiveLater, impl.Hybrid{Wall: 5, Count: 8})
	checkMerge(t, five, 5, three, impl.Hybrid{Wall: 5, Count: 3})
	checkMerge(t, five, 6, fiveLater, impl.Hybrid{Wall: 6, Count: 0})
	checkMerge(t, five, 6, five, impl.Hybrid{Wall: 6, Count: 0})
	checkMerge(t, five, 3, three, impl.Hybrid{Wall: 5, Count: 3})
	checkMerge(t, impl.Hybrid{}, 0, impl.Hybrid{}, impl.Hybrid{Wall: 0, Count: 1})
	checkMerge(t, impl.Hybrid{Wall: 999}, 999, impl.Hybrid{Wall: 999, Count: 98}, impl.Hybrid{Wall: 999, Count: 99})
}

// TestHybridMergeDifferent has three different times, each of which is the greatest once.
func TestHybridMergeDifferent(t *testing.T) {
	five, three := impl.Hybrid{Wall: 5, Count: 2}, impl.Hybrid{Wall: 3, Count: 50}
	for _, physical := range []int{0, 2, 4} {
		checkMerge(t, five, physical, three, impl.Hybrid{Wall: 5, Count: 3})
	}
	for _, physical := range []int{6, 7, 998, 999} {
		checkMerge(t, five, physical, three, impl.Hybrid{Wall: physical, Count: 0})
	}
	checkMerge(t, impl.Hybrid{}, 1, impl.Hybrid{}, impl.Hybrid{Wall: 1, Count: 0})
}

// TestHybridMergeFull checks that a Count of MaxCount matters only if its Wall is the greatest time.
func TestHybridMergeFull(t *testing.T) {
	full, five, six := impl.Hybrid{Wall: 5, Count: 99}, impl.Hybrid{Wall: 5, Count: 1}, impl.Hybrid{Wall: 6, Count: 1}
	for _, physical := range []int{0, 4, 5} {
		checkNoMerge(t, full, physical, five)
		checkNoMerge(t, full, physical, full)
		checkNoMerge(t, full, physical, impl.Hybrid{Wall: 4, Count: 1})
		checkNoMerge(t, full, physical, impl.Hybrid{})
		checkMerge(t, full, physical, six, impl.Hybrid{Wall: 6, Count: 2})
	}
	checkMerge(t, full, 6, full, impl.Hybrid{Wall: 6, Count: 0})
	checkMerge(t, full, 6, five, impl.Hybrid{Wall: 6, Count: 0})
	checkMerge(t, full, 6, six, impl.Hybrid{Wall: 6, Count: 2})
	checkMerge(t, five, 5, impl.Hybrid{Wall: 5, Count: 98}, impl.Hybrid{Wall: 5, Count: 99})
	checkNoMerge(t, impl.Hybrid{Wall: 999, Count: 99}, 999, impl.Hybrid{})
	checkNoMerge(t, impl.Hybrid{Wall: 0, Count: 99}, 0, impl.Hybrid{})
	checkMerge(t, impl.Hybrid{Wall: 998, Count: 99}, 999, impl.Hybrid{}, impl.Hybrid{Wall: 999, Count: 0})
}

// TestHybridMergeIsAsSaid compares with the words of the document for hybrid times at the limits and between them.
func TestHybridMergeIsAsSaid(t *testing.T) {
	for _, h := range someHybrids() {
		for _, other := range someHybrids() {
			for _, physical := range somePhysicals {
				if want, ok := wantedMerge(h, physical, other); ok {
					checkMerge(t, h, physical, other, want)
				} else {
					checkNoMerge(t, h, physical, other)
				}
			}
		}
	}
}

func TestHybridMergeInvalid(t *testing.T) {
	physicals := append(slices.Clone(somePhysicals), noTimes...)
	for _, bad := range badHybrids() {
		for _, other := range []impl.Hybrid{{}, {Wall: 5, Count: 2}, {Wall: 999, Count: 98}, bad, {Wall: -1, Count: 100}} {
			for _, physical := range physicals {
				checkNoMerge(t, bad, physical, other)
			}
		}
	}
	for _, h := range someHybrids() {
		for _, other := range someHybrids() {
			for _, physical := range noTimes[1:] {
				checkNoMerge(t, h, physical, other)
			}
		}
	}
}

// TestP16 checks that HybridMerge is greater than both hybrid times, and that its Wall is the greatest of the three times.
func TestP16(t *testing.T) {
	for _, h := range someHybrids() {
		for _, other := range someHybrids() {
			for _, physical := range somePhysicals {
				got, ok := impl.HybridMerge(h, physical, other)
				if ok && (!impl.HybridLess(h, got) || !impl.HybridLess(other, got) || got.Wall != max(h.Wall, other.Wall, physical)) {
					t.Errorf("HybridMerge(%v, %d, %v) = %v", h, physical, other, got)
				}
			}
		}
	}
}

// TestP18 checks that HybridMerge is the same with both hybrid times exchanged, also if one is invalid.
func TestP18(t *testing.T) {
	all := append(someHybrids(), badHybrids()...)
	for _, h := range all {
		for _, other := range all {
			for _, physical := range []int{-1, 0, 2, 500, 999, 1000} {
				got, ok := impl.HybridMerge(h, physical, other)
				if back, backOk := impl.HybridMerge(other, physical, h); back != got || backOk != ok {
					t.Errorf("HybridMerge(%v, %d, %v) = %v, %v, but %v, %v in the other order", h, physical, other, got, ok, back, backOk)
				}
			}
		}
	}
}
