package impl

// MaxGroups is the number of groups, which are numbered from 0.
const MaxGroups = 5

// MaxMessages is the number of messages, which are numbered from 0.
const MaxMessages = 12

// groupSet has bit g set for each of its groups g. It may be empty, so that common groups of two sets are one, too.
type groupSet uint

// with returns the set and a further group, which must exist: a shift by a negative number would panic.
func (s groupSet) with(group int) groupSet {
	return s | 1<<group
}

// has reports whether the set contains a group, which must exist, too.
func (s groupSet) has(group int) bool {
	return s>>group&1 == 1
}

// common returns the groups that are in both sets.
func (s groupSet) common(other groupSet) groupSet {
	return s & other
}

// union returns the groups that are in at least one of both sets.
func (s groupSet) union(other groupSet) groupSet {
	return s | other
}

// linked returns the set and all groups that overlapping sets of the list link with it.
func (s groupSet) linked(sets []groupSet) groupSet {
	before := s
	for _, set := range sets {
		if s.common(set) != 0 {
			s = s.union(set)
		}
	}
	if s == before {
		return s
	}
	// A set that overlaps now may stand before the one that made it overlap.
	return s.linked(sets)
}

// groups returns the groups of the set, ascending.
func (s groupSet) groups() []int {
	list := []int{}
	for group := range MaxGroups {
		if s.has(group) {
			list = append(list, group)
		}
	}
	return list
}

// groupExists reports whether there is a group with this number.
func groupExists(group int) bool {
	return 0 <= group && group < MaxGroups
}

// groupSetOf returns the groups of a list as a set, and whether the list is a set of groups.
func groupSetOf(list []int) (groupSet, bool) {
	var set groupSet
	last := -1
	for _, group := range list {
		if !groupExists(group) || group <= last {
			return 0, false
		}
		set = set.with(group)
		last = group
	}
	return set, len(list) > 0
}

// groupSetPair returns two lists as sets, and whether both are sets of groups.
func groupSetPair(a []int, b []int) (groupSet, groupSet, bool) {
	first, firstValid := groupSetOf(a)
	second, secondValid := groupSetOf(b)
	if !firstValid || !secondValid {
		return 0, 0, false
	}
	return first, second, true
}

// groupSetList returns lists as sets, and whether all are sets of groups and there are not too many.
func groupSetList(list [][]int) ([]groupSet, bool) {
	if len(list) > MaxMessages {
		return nil, false
	}
	sets := []groupSet{}
	for _, groups := range list {
		set, valid := groupSetOf(groups)
		if !valid {
			return nil, false
		}
		sets = append(sets, set)
	}
	return sets, true
}

// GroupsValid reports whether set is a set of groups.
func GroupsValid(set []int) bool {
	_, valid := groupSetOf(set)
	return valid
}

// GroupsCommon returns the common groups of two sets.
func GroupsCommon(a []int, b []int) []int {
	first, second, valid := groupSetPair(a, b)
	if !valid {
		return []int{}
	}
	return first.common(second).groups()
}

// GroupsUnion returns the groups of both sets.
func GroupsUnion(a []int, b []int) []int {
	first, second, valid := groupSetPair(a, b)
	if !valid {
		return []int{}
	}
	return first.union(second).groups()
}

// GroupsNamed returns the indexes of the sets that contain a group.
func GroupsNamed(list [][]int, group int) []int {
	sets, valid := groupSetList(list)
	if !valid || !groupExists(group) {
		return []int{}
	}
	named := []int{}
	for i, set := range sets {
		if set.has(group) {
			named = append(named, i)
		}
	}
	return named
}

// GroupsLinked returns the groups that are linked with a group by overlapping sets.
func GroupsLinked(list [][]int, group int) []int {
	sets, valid := groupSetList(list)
	if !valid || !groupExists(group) {
		return []int{}
	}
	return groupSet(0).with(group).linked(sets).groups()
}
