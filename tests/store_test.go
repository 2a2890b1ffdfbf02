package tests

import (
	"fmt"
	"math"
	"math/rand/v2"
	"slices"
	"sync"
	"testing"

	"loop.example/groupmulticast/impl"
)

// noAmounts are values that no key and no item of a queue has.
var noAmounts = []int{-1, -2, -255, -256, -998, -999, -1000, 1000, 1001, 1023, 1024, 1998, 14985, math.MinInt, math.MinInt + 1, math.MaxInt - 1, math.MaxInt}

// noKeys are numbers that are not keys, among them some that belong to a group, or are keys modulo the size of a word.
var noKeys = []int{-1, -2, -5, -14, -15, -16, -64, 15, 16, 19, 20, 29, 30, 64, 65, 256, math.MinInt, math.MaxInt}

// noAdds are numbers that no put adds. Most of them would lead from a value to another one if they were added twice, or without their sign.
var noAdds = []int{-1000, -1001, -1024, -1998, -14985, 1000, 1001, 1024, 1998, 14985, math.MinInt, math.MinInt + 1, math.MaxInt - 1, math.MaxInt}

// noNeeds are sums that a transaction cannot need.
var noNeeds = []int{-1, -2, -999, -14985, -14986, 14986, 14987, 15000, 29970, math.MinInt, math.MinInt + 1, math.MaxInt - 1, math.MaxInt}

// allKeys are the keys.
var allKeys = []int{0, 1, 2, 3, 4, 5, 6, 7, 8, 9, 10, 11, 12, 13, 14}

// keysByGroup are the keys of each group.
var keysByGroup = [][]int{{0, 5, 10}, {1, 6, 11}, {2, 7, 12}, {3, 8, 13}, {4, 9, 14}}

// put returns a put.
func put(key, add int) impl.Put {
	return impl.Put{Key: key, Add: add}
}

// txn returns a transaction.
func txn(reads []int, need int, puts ...impl.Put) impl.Txn {
	return impl.Txn{Reads: reads, Need: need, Puts: puts}
}

// keysOf returns the keys whose bits are set.
func keysOf(bits int) []int {
	return slices.DeleteFunc(slices.Clone(allKeys), func(key int) bool { return bits>>key&1 == 0 })
}

// putsOf returns puts that all add the same number.
func putsOf(keys []int, add int) []impl.Put {
	puts := []impl.Put{}
	for _, key := range keys {
		puts = append(puts, put(key, add))
	}
	return puts
}

// putKeysOf returns the keys of the puts of a transaction.
func putKeysOf(x impl.Txn) []int {
	keys := []int{}
	for _, p := range x.Puts {
		keys = append(keys, p.Key)
	}
	return keys
}

// allOf returns a state in which all keys have the same value.
func allOf(value int) []int {
	return slices.Repeat([]int{value}, 15)
}

// stateBut returns a state in which some keys, each followed by its value, have other values than the rest.
func stateBut(value int, others ...int) []int {
	state := allOf(value)
	for i := 0; i < len(others); i += 2 {
		state[others[i]] = others[i+1]
	}
	return state
}

// isState reports what the document says of a valid state.
func isState(state []int) bool {
	if len(state) != 15 {
		return false
	}
	return !slices.ContainsFunc(state, func(value int) bool { return value < 0 || value > 999 })
}

// areKeys reports whether a list has keys, and each one is less than all those behind it.
func areKeys(list []int) bool {
	for i, key := range list {
		if !slices.Contains(allKeys, key) || slices.ContainsFunc(list[i+1:], func(later int) bool { return later <= key }) {
			return false
		}
	}
	return true
}

// wantedTxnValid returns what the document says of TxnValid.
func wantedTxnValid(x impl.Txn) bool {
	for _, p := range x.Puts {
		if p.Add < -999 || p.Add > 999 {
			return false
		}
	}
	if len(x.Reads) == 0 && len(x.Puts) == 0 {
		return false
	}
	return areKeys(x.Reads) && areKeys(putKeysOf(x)) && x.Need >= 0 && x.Need <= 15*999
}

// wantedGroups returns what the document says of TxnGroups for a valid transaction.
func wantedGroups(x impl.Txn) []int {
	groups := []int{}
	for group, keys := range keysByGroup {
		if overlap(keys, x.Reads) || overlap(keys, putKeysOf(x)) {
			groups = append(groups, group)
		}
	}
	return groups
}

// readSum returns the sum of the values that a transaction reads.
func readSum(state []int, x impl.Txn) int {
	sum := 0
	for key, value := range state {
		if slices.Contains(x.Reads, key) {
			sum += value
		}
	}
	return sum
}

// after returns the values of all keys with the puts of a transaction added, whether they are in range or not.
func after(state []int, x impl.Txn) []int {
	values := slices.Clone(state)
	for _, p := range x.Puts {
		values[p.Key] += p.Add
	}
	return values
}

// wantedApply returns what the document says of TxnApply for a valid state and transaction.
func wantedApply(state []int, x impl.Txn) ([]int, bool) {
	if readSum(state, x) < x.Need || !isState(after(state, x)) {
		return slices.Clone(state), false
	}
	return after(state, x), true
}

// wantedRun returns what the document says of StoreRun for a valid state and valid transactions.
func wantedRun(state []int, list []impl.Txn) ([]int, []bool) {
	outcomes := []bool{}
	for _, x := range list {
		next, ok := wantedApply(state, x)
		state, outcomes = next, append(outcomes, ok)
	}
	return state, outcomes
}

// wantedPart returns what the document says of StorePart for a valid state and a group.
func wantedPart(state []int, group int) []int {
	part := []int{}
	for _, key := range keysByGroup[group] {
		part = append(part, state[key])
	}
	return part
}

// wantedJoined returns what the document says of StoreJoin.
func wantedJoined(parts [][]int) []int {
	if len(parts) != 5 {
		return nil
	}
	state := allOf(-1)
	for group, part := range parts {
		if len(part) != 3 {
			return nil
		}
		for i, key := range keysByGroup[group] {
			state[key] = part[i]
		}
	}
	if !isState(state) {
		return nil
	}
	return state
}

// statePartsOf returns the parts of all groups.
func statePartsOf(state []int) [][]int {
	parts := [][]int{}
	for group := range 5 {
		parts = append(parts, wantedPart(state, group))
	}
	return parts
}

// someStates are valid states, always the same: with all values equal, with one that differs, with all different, and with values near the limits.
var someStates = sync.OnceValue(func() [][]int {
	states := [][]int{}
	for _, value := range []int{0, 1, 499, 500, 998, 999} {
		states = append(states, allOf(value))
	}
	ascending, descending, turns := []int{}, []int{}, []int{}
	for _, key := range allKeys {
		states = append(states, stateBut(0, key, 999), stateBut(999, key, 0), stateBut(500, key, 37*key+3))
		ascending, descending, turns = append(ascending, 71*key), append(descending, 999-71*key), append(turns, key%2*999)
	}
	states = append(states, ascending, descending, turns, allKeys)
	r := rand.New(rand.NewPCG(31, 1))
	limits := []int{0, 0, 1, 2, 3, 500, 996, 997, 998, 999, 999}
	for range 30 {
		near, free := []int{}, []int{}
		for range allKeys {
			near, free = append(near, limits[r.IntN(len(limits))]), append(free, r.IntN(1000))
		}
		states = append(states, near, free)
	}
	return states
})

// badStates are invalid states: of a wrong length, or with one value out of range.
var badStates = sync.OnceValue(func() [][]int {
	states := [][]int{nil}
	for n := range 40 {
		if n != 15 {
			states = append(states, slices.Repeat([]int{0}, n), slices.Repeat([]int{999}, n), slices.Repeat([]int{7}, n))
		}
	}
	for _, key := range allKeys {
		for i, value := range noAmounts {
			states = append(states, stateBut([]int{0, 5, 999}[(key+i)%3], key, value))
		}
	}
	return append(states, allOf(-1), allOf(1000), stateBut(10, 3, -5, 4, 5), stateBut(10, 0, 1000, 14, -1), allOf(math.MaxInt), allOf(math.MinInt))
})

// goodTxns are valid transactions of all kinds.
var goodTxns = sync.OnceValue(func() []impl.Txn {
	list := []impl.Txn{
		txn([]int{0}, 0), txn([]int{14}, 14985), txn([]int{3, 4, 9}, 12), txn(allKeys, 0), txn(allKeys, 14985),
		txn(nil, 0, put(0, 999)), txn(nil, 0, put(14, -999)), txn(nil, 5, put(7, 0)), txn(nil, 0, put(2, 1), put(7, -1), put(13, 5)),
		txn([]int{0}, 1, put(0, 1)), txn([]int{1, 6, 11}, 100, put(1, -10), put(11, 10)), txn([]int{5}, 7, put(9, -3)), txn(allKeys, 30, putsOf(allKeys, 1)...),
	}
	for _, key := range allKeys {
		list = append(list, txn([]int{key}, key), txn(nil, 0, put(key, key)), txn([]int{key}, 3, put(14-key, 3-key)))
	}
	return list
})

// notKeys are lists of numbers that are not keys, or do not ascend.
var notKeys = sync.OnceValue(func() [][]int {
	lists := [][]int{{2, 2, 5, 9}, {2, 5, 5, 9}, {2, 5, 9, 9}, {2, 5, 9, 2}, {5, 2, 9}, {2, 9, 5}, {9, 5, 2}, {9, 2, 5}, {14, 0}, {0, 14, 0}}
	for _, key := range noKeys {
		lists = append(lists, []int{key}, []int{key, 3}, []int{3, key}, []int{key, 3, 7}, []int{3, key, 7}, []int{3, 7, key}, []int{0, 14, key})
	}
	for i, key := range allKeys {
		lists = append(lists, []int{key, key}, slices.Insert(slices.Clone(allKeys), i, key), append(slices.Clone(allKeys), key))
		if i < 14 {
			exchanged := slices.Clone(allKeys)
			exchanged[i], exchanged[i+1] = exchanged[i+1], exchanged[i]
			lists = append(lists, exchanged, []int{key + 1, key})
		}
	}
	return append(lists, slices.Insert(slices.Clone(allKeys), 0, -1), append(slices.Clone(allKeys), 15), slices.Repeat([]int{3}, 1000))
})

// badTxns are transactions of which one part is invalid, and nothing else.
var badTxns = sync.OnceValue(func() []impl.Txn {
	list := []impl.Txn{{}, txn(nil, 0), txn([]int{}, 0, []impl.Put{}...), txn(nil, 1), txn(nil, 14985)}
	for _, keys := range notKeys() {
		list = append(list, txn(keys, 0), txn(keys, 0, put(3, 1)), txn(keys, 0, putsOf(allKeys, 0)...))
		list = append(list, txn(nil, 0, putsOf(keys, 0)...), txn([]int{3}, 0, putsOf(keys, 1)...), txn(allKeys, 0, putsOf(keys, -1)...))
	}
	for _, add := range noAdds {
		list = append(list, txn(nil, 0, put(0, add)), txn([]int{3}, 0, put(14, add)))
		list = append(list, txn(nil, 0, put(2, add), put(5, 0), put(9, 0)), txn(nil, 0, put(2, 0), put(5, add), put(9, 0)), txn(nil, 0, put(2, 0), put(5, 0), put(9, add)))
	}
	for _, need := range noNeeds {
		list = append(list, txn([]int{0}, need), txn(allKeys, need), txn(nil, need, put(3, 0)), txn([]int{3}, need, put(3, 1)))
	}
	return list
})

// application is a transaction with a state.
type application struct {
	state []int
	txn   impl.Txn
}

// randomTxn returns a valid transaction with some of the keys. Its numbers are often those with which it just succeeds or just fails in the state; of its needs and its puts, a part of risk percent may fail.
func randomTxn(r *rand.Rand, state []int, percent, risk int) impl.Txn {
	x := txn(partOf(r, allKeys, percent), 0)
	if len(x.Reads) == 0 {
		x.Reads = []int{r.IntN(15)}
	}
	sum := readSum(state, x)
	x.Need = []int{0, sum, r.IntN(sum + 1)}[r.IntN(3)]
	if r.IntN(100) < risk {
		x.Need = min(max(0, []int{sum + 1, sum - 1, r.IntN(14986)}[r.IntN(3)]), 14985)
	}
	for _, key := range partOf(r, allKeys, percent) {
		value := state[key]
		add := []int{0, -value, 999 - value, r.IntN(1000) - value}[r.IntN(4)]
		if r.IntN(100) < risk {
			add = min(max(-999, []int{-1 - value, 1000 - value, r.IntN(1999) - 999, -999, 999}[r.IntN(5)]), 999)
		}
		x.Puts = append(x.Puts, put(key, add))
	}
	if len(x.Puts) > 0 && r.IntN(4) == 0 {
		x.Reads, x.Need = nil, r.IntN(100)/90
	}
	return x
}

// applications are valid transactions with valid states, always the same: they succeed, or fail for one of the two reasons or for both.
var applications = sync.OnceValue(func() []application {
	list := []application{}
	r := rand.New(rand.NewPCG(31, 2))
	for _, state := range someStates() {
		for _, x := range goodTxns() {
			list = append(list, application{state, x})
		}
		for _, percent := range []int{10, 30, 60, 100} {
			for _, risk := range []int{0, 5, 40} {
				for range 5 {
					list = append(list, application{state, randomTxn(r, state, percent, risk)})
				}
			}
		}
	}
	return list
})

// successes returns those that succeed.
func successes() []application {
	return slices.DeleteFunc(slices.Clone(applications()), func(a application) bool {
		_, ok := wantedApply(a.state, a.txn)
		return !ok
	})
}

// storeRun is a list of transactions with the state before them.
type storeRun struct {
	state []int
	list  []impl.Txn
}

// storeRuns are valid transactions of which some succeed and some fail, always the same, from none of them to MaxTxns. Each was made for the state in which it is performed, or for the first one.
var storeRuns = sync.OnceValue(func() []storeRun {
	runs := []storeRun{}
	r := rand.New(rand.NewPCG(31, 3))
	for i, first := range someStates() {
		for n := range 11 {
			for _, percent := range []int{7, 20, 50} {
				state, list := first, []impl.Txn{}
				for range n {
					made := [][]int{state, state, first}[r.IntN(3)]
					x := randomTxn(r, made, percent, []int{0, 20, 50}[i%3])
					state, _ = wantedApply(state, x)
					list = append(list, x)
				}
				runs = append(runs, storeRun{first, list})
			}
		}
	}
	return runs
})

// txnOf returns a transaction as text.
func txnOf(x impl.Txn) string {
	return fmt.Sprintf("reads %v, need %d, puts %v", x.Reads, x.Need, x.Puts)
}

// checkStoreValid checks what StoreValid returns.
func checkStoreValid(t *testing.T, state []int, want bool) {
	t.Helper()
	if got := impl.StoreValid(state); got != want {
		t.Errorf("StoreValid(%v) = %v", state, got)
	}
}

// checkTxnValid checks what TxnValid returns.
func checkTxnValid(t *testing.T, x impl.Txn, want bool) {
	t.Helper()
	if got := impl.TxnValid(x); got != want {
		t.Errorf("TxnValid(%s) = %v", txnOf(x), got)
	}
}

// checkTxnGroups checks what TxnGroups returns.
func checkTxnGroups(t *testing.T, x impl.Txn, want ...int) {
	t.Helper()
	if got := impl.TxnGroups(x); !slices.Equal(got, want) {
		t.Errorf("TxnGroups(%s) = %v, not %v", txnOf(x), got, want)
	}
}

// checkApply checks what TxnApply returns.
func checkApply(t *testing.T, state []int, x impl.Txn, want []int, wantOk bool) []int {
	t.Helper()
	got, ok := impl.TxnApply(state, x)
	if !slices.Equal(got, want) || ok != wantOk {
		t.Errorf("TxnApply(%v, %s) = %v, %v, not %v, %v", state, txnOf(x), got, ok, want, wantOk)
	}
	return got
}

// checkRun checks what StoreRun returns.
func checkRun(t *testing.T, state []int, list []impl.Txn, want []int, wantOutcomes []bool) []int {
	t.Helper()
	got, outcomes := impl.StoreRun(state, list)
	if !slices.Equal(got, want) || !slices.Equal(outcomes, wantOutcomes) {
		t.Errorf("StoreRun(%v, %v) = %v, %v, not %v, %v", state, list, got, outcomes, want, wantOutcomes)
	}
	return got
}

// checkPart checks what StorePart returns.
func checkPart(t *testing.T, state []int, group int, want ...int) {
	t.Helper()
	if got := impl.StorePart(state, group); !slices.Equal(got, want) {
		t.Errorf("StorePart(%v, %d) = %v, not %v", state, group, got, want)
	}
}

// checkJoined checks what StoreJoin returns.
func checkJoined(t *testing.T, parts [][]int, want ...int) {
	t.Helper()
	if got := impl.StoreJoin(parts); !slices.Equal(got, want) {
		t.Errorf("StoreJoin(%v) = %v, not %v", parts, got, want)
	}
}

func TestStoreConstants(t *testing.T) {
	if impl.Keys != 15 || impl.MaxAmount != 999 || impl.MaxTxns != 10 {
		t.Errorf("Keys is %d, MaxAmount is %d, MaxTxns is %d", impl.Keys, impl.MaxAmount, impl.MaxTxns)
	}
}

// TestStoreValidLength has all numbers of values up to 40.
func TestStoreValidLength(t *testing.T) {
	checkStoreValid(t, nil, false)
	checkStoreValid(t, []int{}, false)
	for n := range 41 {
		for _, value := range []int{0, 1, 500, 998, 999} {
			checkStoreValid(t, slices.Repeat([]int{value}, n), n == 15)
		}
	}
}

// TestStoreValidValues has all values near the range, and in it, at each place.
func TestStoreValidValues(t *testing.T) {
	for _, key := range allKeys {
		for value := -1100; value <= 2100; value++ {
			checkStoreValid(t, stateBut(0, key, value), value >= 0 && value <= 999)
			checkStoreValid(t, stateBut(999, key, value), value >= 0 && value <= 999)
		}
	}
	for _, state := range badStates() {
		checkStoreValid(t, state, false)
	}
	for _, state := range someStates() {
		checkStoreValid(t, state, true)
	}
}

// TestTxnValidKeys has lists of keys, and lists that are none, in Reads alone, in Puts alone, and in one of them beside the other.
func TestTxnValidKeys(t *testing.T) {
	for _, x := range []struct {
		keys []int
		want bool
	}{
		{[]int{0}, true},
		{[]int{14}, true},
		{[]int{0, 14}, true},
		{[]int{3, 4, 5}, true},
		{allKeys, true},
		{[]int{-1}, false},
		{[]int{15}, false},
		{[]int{-1, 0, 14}, false},
		{[]int{0, -1, 14}, false},
		{[]int{0, 14, -1}, false},
		{[]int{15, 0, 14}, false},
		{[]int{0, 15, 14}, false},
		{[]int{0, 14, 15}, false},
		{[]int{0, 0, 7, 14}, false},
		{[]int{0, 7, 7, 14}, false},
		{[]int{0, 7, 14, 14}, false},
		{[]int{7, 0, 14}, false},
		{[]int{0, 14, 7}, false},
		{[]int{7, 14, 0}, false},
		{[]int{0, 7, 14, 0}, false},
	} {
		checkTxnValid(t, txn(x.keys, 0), x.want)
		checkTxnValid(t, txn(nil, 0, putsOf(x.keys, 0)...), x.want)
		for _, others := range [][]int{{0}, {14}, {7, 8}, allKeys} {
			checkTxnValid(t, txn(x.keys, 14985, putsOf(others, 999)...), x.want)
			checkTxnValid(t, txn(others, 14985, putsOf(x.keys, -999)...), x.want)
		}
	}
	for _, keys := range notKeys() {
		checkTxnValid(t, txn(keys, 0), false)
		checkTxnValid(t, txn(nil, 0, putsOf(keys, 0)...), false)
	}
	for bits := range 1 << 15 {
		checkTxnValid(t, txn(keysOf(bits), 3), bits > 0)
		checkTxnValid(t, txn(nil, 3, putsOf(keysOf(bits), 3)...), bits > 0)
	}
}

// TestTxnValidNumbers has all numbers in and near the ranges of Need and Add, and some far away.
func TestTxnValidNumbers(t *testing.T) {
	for need := -1100; need <= 16100; need++ {
		want := need >= 0 && need <= 14985
		checkTxnValid(t, txn([]int{3}, need), want)
		checkTxnValid(t, txn(allKeys, need), want)
		checkTxnValid(t, txn(nil, need, put(3, 5)), want)
		checkTxnValid(t, txn([]int{3}, need, put(3, -5)), want)
	}
	for add := -2100; add <= 2100; add++ {
		want := add >= -999 && add <= 999
		checkTxnValid(t, txn(nil, 0, put(3, add)), want)
		checkTxnValid(t, txn([]int{3, 4}, 7, put(2, add), put(5, 999), put(9, -999)), want)
		checkTxnValid(t, txn([]int{3, 4}, 7, put(2, 999), put(5, add), put(9, -999)), want)
		checkTxnValid(t, txn([]int{3, 4}, 7, put(2, -999), put(5, 999), put(9, add)), want)
	}
	for i, key := range allKeys {
		for _, add := range noAdds {
			puts := putsOf(allKeys, 0)
			puts[i] = put(key, add)
			checkTxnValid(t, txn(nil, 0, puts...), false)
		}
	}
}

// TestTxnValidEmpty has neither reads nor puts, only one of them, and both.
func TestTxnValidEmpty(t *testing.T) {
	checkTxnValid(t, impl.Txn{}, false)
	for _, need := range []int{0, 1, 14985} {
		for _, none := range [][]int{nil, {}} {
			for _, noPuts := range [][]impl.Put{nil, {}} {
				checkTxnValid(t, txn(none, need, noPuts...), false)
				checkTxnValid(t, txn(none, need, put(0, 0)), true)
				checkTxnValid(t, txn([]int{0}, need, noPuts...), true)
			}
		}
		checkTxnValid(t, txn([]int{0}, need, put(0, 0)), true)
	}
}

// TestTxnValidIsAsSaid compares with the document for all short lists of keys, and of numbers next to them.
func TestTxnValidIsAsSaid(t *testing.T) {
	lists := [][]int{}
	for n := range 4 {
		lists = append(lists, tuples([]int{-1, 0, 1, 8, 14, 15}, n)...)
	}
	for i, reads := range lists {
		for j, keys := range lists {
			x := txn(reads, []int{0, 1, 14985}[(i+j)%3], putsOf(keys, []int{0, 999, -999}[(i+j/3)%3])...)
			checkTxnValid(t, x, wantedTxnValid(x))
		}
	}
	for _, x := range goodTxns() {
		checkTxnValid(t, x, true)
	}
	for _, x := range badTxns() {
		checkTxnValid(t, x, wantedTxnValid(x))
		checkTxnValid(t, x, false)
	}
}

func TestTxnGroupsExamples(t *testing.T) {
	checkTxnGroups(t, txn([]int{0, 5, 10}, 0), 0)
	checkTxnGroups(t, txn([]int{4, 9, 14}, 0), 4)
	checkTxnGroups(t, txn(nil, 0, putsOf([]int{1, 6, 11}, 1)...), 1)
	checkTxnGroups(t, txn(nil, 0, putsOf([]int{3, 8, 13}, -1)...), 3)
	checkTxnGroups(t, txn([]int{2}, 0, put(7, 1)), 2)
	checkTxnGroups(t, txn([]int{2, 12}, 0, put(2, 1), put(7, 1)), 2)
	checkTxnGroups(t, txn([]int{3}, 0, put(9, 1)), 3, 4)
	checkTxnGroups(t, txn([]int{9}, 0, put(3, 1)), 3, 4)
	checkTxnGroups(t, txn([]int{14}, 0, put(0, 1)), 0, 4)
	checkTxnGroups(t, txn([]int{1, 3}, 0, put(11, 1), put(12, 1)), 1, 2, 3)
	checkTxnGroups(t, txn([]int{4, 5}, 0), 0, 4)
	checkTxnGroups(t, txn([]int{0, 1, 2, 3, 4}, 0), 0, 1, 2, 3, 4)
	checkTxnGroups(t, txn(nil, 0, putsOf([]int{4, 8, 10, 11, 12}, 0)...), 0, 1, 2, 3, 4)
	checkTxnGroups(t, txn([]int{0, 12}, 0, put(1, 0), put(9, 0), put(13, 0)), 0, 1, 2, 3, 4)
	checkTxnGroups(t, txn(allKeys, 14985, putsOf(allKeys, 999)...), 0, 1, 2, 3, 4)
	checkTxnGroups(t, txn(nil, 14985, put(6, 0)), 1)
	for _, key := range allKeys {
		checkTxnGroups(t, txn([]int{key}, 0), key%5)
		checkTxnGroups(t, txn(nil, 0, put(key, 0)), key%5)
	}
	for _, x := range badTxns() {
		checkTxnGroups(t, x)
	}
}

// TestTxnGroupsIsAsSaid has all lists of keys in Reads and in Puts, alone and beside other ones.
func TestTxnGroupsIsAsSaid(t *testing.T) {
	for bits := 1; bits < 1<<15; bits++ {
		keys, others := keysOf(bits), keysOf(bits*bits/7)
		for _, x := range []impl.Txn{txn(keys, 5), txn(nil, 5, putsOf(keys, 1)...), txn(keys, 5, putsOf(others, 1)...), txn(others, 5, putsOf(keys, 1)...)} {
			checkTxnGroups(t, x, wantedGroups(x)...)
		}
	}
}

func TestTxnApplyExamples(t *testing.T) {
	state := stateBut(0, 3, 10, 9, 7, 14, 999)
	for _, x := range []struct {
		txn  impl.Txn
		want []int
	}{
		// A transfer, with the condition that there is enough.
		{txn([]int{3}, 5, put(3, -4), put(9, 4)), stateBut(0, 3, 6, 9, 11, 14, 999)},
		{txn([]int{3}, 10, put(3, -10), put(9, 10)), stateBut(0, 9, 17, 14, 999)},
		{txn([]int{3}, 11, put(3, -4), put(9, 4)), nil},
		{txn([]int{3}, 5, put(3, -11), put(9, 11)), nil},
		{txn([]int{3, 9}, 17, put(3, -10), put(9, -7)), stateBut(0, 14, 999)},
		{txn([]int{3, 9}, 18, put(3, -10), put(9, -7)), nil},
		// What is read is the value before the put.
		{txn([]int{3}, 10, put(3, -10)), stateBut(0, 9, 7, 14, 999)},
		{txn([]int{3}, 11, put(3, 5)), nil},
		{txn([]int{0}, 1, put(0, 1)), nil},
		{txn([]int{0}, 0, put(0, 1)), stateBut(0, 0, 1, 3, 10, 9, 7, 14, 999)},
		// The first, a middle or the last put fails, on either side.
		{txn(nil, 0, put(0, -1), put(3, 5), put(9, 5)), nil},
		{txn(nil, 0, put(3, 5), put(4, -1), put(9, 5)), nil},
		{txn(nil, 0, put(3, 5), put(9, 5), put(14, 1)), nil},
		{txn(nil, 0, put(3, 990), put(9, 1), put(14, -1)), nil},
		{txn(nil, 0, put(3, 989), put(9, 1), put(14, -1)), stateBut(0, 3, 999, 9, 8, 14, 998)},
		// The condition and a put fail.
		{txn([]int{3}, 11, put(9, -8)), nil},
		{txn([]int{14}, 1000, put(14, 1)), nil},
		// A put that adds nothing.
		{txn(nil, 0, put(14, 0)), state},
		{txn([]int{9}, 7, put(0, 0)), state},
		// Without puts.
		{txn([]int{3, 9, 14}, 1016), state},
		{txn([]int{3, 9, 14}, 1017), nil},
		{txn([]int{0, 1, 2}, 0), state},
		{txn([]int{0, 1, 2}, 1), nil},
		// Without reads, the sum is 0.
		{txn(nil, 0, put(3, 1)), stateBut(0, 3, 11, 9, 7, 14, 999)},
		{txn(nil, 1, put(3, 1)), nil},
		{txn(nil, 14985, put(14, -999)), nil},
	} {
		if x.want == nil {
			checkApply(t, state, x.txn, state, false)
		} else {
			checkApply(t, state, x.txn, x.want, true)
		}
	}
	if !slices.Equal(state, stateBut(0, 3, 10, 9, 7, 14, 999)) {
		t.Errorf("the state has become %v", state)
	}
}

// TestTxnApplyPutLimits has all numbers that a put may add, and some more, for values at the limits, and all values for some numbers.
func TestTxnApplyPutLimits(t *testing.T) {
	check := func(key, value, add int) {
		t.Helper()
		state, sum := stateBut(5, key, value), value+add
		switch {
		case add < -999 || add > 999:
			checkApply(t, state, txn(nil, 0, put(key, add)), nil, false)
		case sum < 0 || sum > 999:
			checkApply(t, state, txn(nil, 0, put(key, add)), state, false)
		default:
			checkApply(t, state, txn(nil, 0, put(key, add)), stateBut(5, key, sum), true)
		}
	}
	for i, value := range []int{0, 1, 2, 499, 500, 501, 997, 998, 999} {
		for add := -1005; add <= 1005; add++ {
			check((i*4+add+1005)%15, value, add)
		}
	}
	for value := range 1000 {
		for _, add := range []int{0, 1, -1, 999, -999, 500, -500, -value, -value - 1, 999 - value, 1000 - value} {
			check(value%15, value, add)
		}
	}
	for _, key := range allKeys {
		for _, value := range []int{0, 1, 998, 999} {
			for _, add := range append([]int{0, 1, -1, 998, -998, 999, -999}, noAdds...) {
				check(key, value, add)
			}
		}
	}
}

// TestTxnApplyNeedLimits has each number of reads with the sum of their values, one more and one less, up to the greatest sum that there is.
func TestTxnApplyNeedLimits(t *testing.T) {
	for n := 1; n <= 15; n++ {
		for _, keys := range [][]int{allKeys[:n], allKeys[15-n:]} {
			for _, state := range [][]int{allOf(999), allOf(998), allOf(1), stateBut(0, keys[n-1], 999)} {
				sum := 0
				for _, key := range keys {
					sum += state[key]
				}
				checkApply(t, state, txn(keys, 0), state, true)
				checkApply(t, state, txn(keys, sum-1), state, true)
				checkApply(t, state, txn(keys, sum), state, true)
				if sum < 14985 {
					checkApply(t, state, txn(keys, sum+1), state, false)
					checkApply(t, state, txn(keys, 14985), state, false)
				}
				for _, need := range noNeeds {
					checkApply(t, state, txn(keys, need), nil, false)
				}
			}
		}
	}
	checkApply(t, allOf(999), txn(allKeys, 14985, putsOf(allKeys, -999)...), allOf(0), true)
	checkApply(t, stateBut(999, 7, 998), txn(allKeys, 14985, putsOf(allKeys, -998)...), stateBut(999, 7, 998), false)
	checkApply(t, allOf(0), txn(allKeys, 0, putsOf(allKeys, 999)...), allOf(999), true)
	checkApply(t, allOf(0), txn(allKeys, 1, putsOf(allKeys, 999)...), allOf(0), false)
}

// TestTxnApplyOnePutFails has each number of puts, of which each one fails by itself, on both sides, or just does not.
func TestTxnApplyOnePutFails(t *testing.T) {
	state := stateBut(500, 0, 100, 4, 900, 9, 1, 14, 998)
	for n := 1; n <= 15; n++ {
		for _, keys := range [][]int{allKeys[:n], allKeys[15-n:]} {
			for i, key := range keys {
				x := txn([]int{2}, 500, putsOf(keys, 1)...)
				want := after(state, x)
				x.Puts[i].Add = 999 - state[key]
				want[key] = 999
				checkApply(t, state, x, want, true)
				x.Puts[i].Add++
				checkApply(t, state, x, state, false)
				x.Puts[i].Add = -state[key]
				want[key] = 0
				checkApply(t, state, x, want, true)
				x.Puts[i].Add--
				checkApply(t, state, x, state, false)
				x.Need++
				checkApply(t, state, x, state, false)
				x.Puts[i].Add++
				checkApply(t, state, x, state, false)
			}
		}
	}
}

// TestTxnApplyIsAsSaid compares with the document, and checks that all outcomes are among what is compared.
func TestTxnApplyIsAsSaid(t *testing.T) {
	counts := map[string]int{}
	for _, a := range applications() {
		want, wantOk := wantedApply(a.state, a.txn)
		checkApply(t, a.state, a.txn, want, wantOk)
		counts[fmt.Sprint(readSum(a.state, a.txn) < a.txn.Need, !isState(after(a.state, a.txn)))]++
	}
	if len(counts) != 4 || counts["false false"] < 1000 || counts["true false"] < 500 || counts["false true"] < 500 || counts["true true"] < 100 {
		t.Errorf("by whether the condition and a put fail, the transactions are %v", counts)
	}
}

// TestTxnApplySmall compares with the document for all transactions of a few keys with a few numbers.
func TestTxnApplySmall(t *testing.T) {
	state := stateBut(3, 0, 0, 1, 1, 13, 998, 14, 999)
	lists := [][]int{{}, {0}, {14}, {0, 1}, {0, 14}, {13, 14}, {0, 1, 14}}
	for _, reads := range lists {
		for _, need := range []int{0, 1, 2, 998, 999, 1000, 1001, 1997, 1998} {
			for _, keys := range lists {
				for _, adds := range tuples([]int{-999, -1, 0, 1, 999}, len(keys)) {
					x := txn(reads, need)
					for i, key := range keys {
						x.Puts = append(x.Puts, put(key, adds[i]))
					}
					if !wantedTxnValid(x) {
						checkApply(t, state, x, nil, false)
						continue
					}
					want, wantOk := wantedApply(state, x)
					checkApply(t, state, x, want, wantOk)
				}
			}
		}
	}
}

// TestStoreInvalidState has invalid states with transactions that would succeed or fail, and with invalid ones.
func TestStoreInvalidState(t *testing.T) {
	bad := badTxns()
	for i, state := range badStates() {
		for _, x := range goodTxns() {
			checkApply(t, state, x, nil, false)
			checkRun(t, state, []impl.Txn{x}, nil, nil)
		}
		checkApply(t, state, bad[i%len(bad)], nil, false)
		checkRun(t, state, []impl.Txn{bad[i%len(bad)]}, nil, nil)
		checkRun(t, state, goodTxns()[:10], nil, nil)
		checkRun(t, state, goodTxns()[:11], nil, nil)
		checkRun(t, state, nil, nil, nil)
		checkRun(t, state, []impl.Txn{}, nil, nil)
		for _, group := range append([]int{0, 1, 2, 3, 4}, noGroups...) {
			checkPart(t, state, group)
		}
	}
}

// TestStoreInvalidTxn has invalid transactions in valid states: they return nothing, not the state.
func TestStoreInvalidTxn(t *testing.T) {
	states := [][]int{allOf(0), allOf(500), allOf(999)}
	for _, x := range badTxns() {
		for _, state := range states {
			checkApply(t, state, x, nil, false)
			checkRun(t, state, []impl.Txn{x}, nil, nil)
		}
	}
}

func TestStoreRunExamples(t *testing.T) {
	state := stateBut(0, 3, 10, 9, 7)
	give := txn([]int{3}, 6, put(3, -6), put(9, 6))
	take := txn([]int{9}, 13, put(0, 13), put(9, -13))
	// The second time there is not enough left, and what was given is what makes the other one succeed.
	checkRun(t, state, []impl.Txn{give, give, take}, stateBut(0, 0, 13, 3, 4), []bool{true, false, true})
	checkRun(t, state, []impl.Txn{take, give, take}, stateBut(0, 0, 13, 3, 4), []bool{false, true, true})
	checkRun(t, state, []impl.Txn{take, give}, stateBut(0, 3, 4, 9, 13), []bool{false, true})
	checkRun(t, state, []impl.Txn{give, take}, stateBut(0, 0, 13, 3, 4), []bool{true, true})
	checkRun(t, state, []impl.Txn{take}, state, []bool{false})
	checkRun(t, state, nil, state, nil)
	checkRun(t, state, []impl.Txn{}, state, nil)
	// One that fails only because an earlier one has filled the key, or that succeeds only as an earlier one has emptied it.
	fill, empty := txn(nil, 0, put(14, 999)), txn(nil, 0, put(14, -999))
	checkRun(t, state, []impl.Txn{fill, fill}, stateBut(0, 3, 10, 9, 7, 14, 999), []bool{true, false})
	checkRun(t, state, []impl.Txn{fill, empty, fill}, stateBut(0, 3, 10, 9, 7, 14, 999), []bool{true, true, true})
	checkRun(t, state, []impl.Txn{empty, fill, empty, empty}, state, []bool{false, true, true, false})
	checkRun(t, state, slices.Repeat([]impl.Txn{empty}, 10), state, slices.Repeat([]bool{false}, 10))
}

// TestStoreRunNumber has all numbers of transactions up to 40.
func TestStoreRunNumber(t *testing.T) {
	for n := range 41 {
		for _, add := range []int{1, -1} {
			list := slices.Repeat([]impl.Txn{txn(nil, 0, put(n%15, add))}, n)
			if n > 10 {
				checkRun(t, allOf(500), list, nil, nil)
				continue
			}
			checkRun(t, allOf(500), list, stateBut(500, n%15, 500+n*add), slices.Repeat([]bool{true}, n))
		}
	}
	checkRun(t, allOf(0), slices.Repeat([]impl.Txn{txn([]int{0}, 0)}, 1000), nil, nil)
	checkRun(t, allOf(0), slices.Repeat([]impl.Txn{txn([]int{0}, 1)}, 11), nil, nil)
}

// TestStoreRunInvalidTxn has an invalid transaction at each place of lists of each length, behind and before ones that succeed and ones that fail.
func TestStoreRunInvalidTxn(t *testing.T) {
	bad := badTxns()
	next := 0
	for _, other := range []impl.Txn{txn(nil, 0, put(3, 1)), txn([]int{3}, 14985), txn(nil, 0, put(3, -999))} {
		for n := 1; n <= 11; n++ {
			for i := range n {
				for range 10 {
					list := slices.Repeat([]impl.Txn{other}, n)
					list[i] = bad[next%len(bad)]
					next++
					checkRun(t, allOf(7), list, nil, nil)
				}
			}
		}
		for _, x := range bad {
			checkRun(t, allOf(7), []impl.Txn{other, x}, nil, nil)
			checkRun(t, allOf(7), []impl.Txn{x, other}, nil, nil)
			checkRun(t, allOf(7), []impl.Txn{other, x, other}, nil, nil)
			checkRun(t, allOf(7), []impl.Txn{x, x}, nil, nil)
		}
	}
	if next < len(bad) {
		t.Errorf("only %d invalid transactions of %d were in a list", next, len(bad))
	}
}

// TestStoreRunIsAsSaid compares with the document.
func TestStoreRunIsAsSaid(t *testing.T) {
	succeed, fail := 0, 0
	for _, x := range storeRuns() {
		want, wantOutcomes := wantedRun(x.state, x.list)
		checkRun(t, x.state, x.list, want, wantOutcomes)
		for _, ok := range wantOutcomes {
			if ok {
				succeed++
			} else {
				fail++
			}
		}
	}
	if succeed < 1000 || fail < 1000 {
		t.Errorf("only %d transactions succeed and %d fail", succeed, fail)
	}
}

func TestStorePartExamples(t *testing.T) {
	state := []int{10, 20, 30, 40, 50, 11, 21, 31, 41, 51, 12, 22, 32, 42, 52}
	checkPart(t, state, 0, 10, 11, 12)
	checkPart(t, state, 1, 20, 21, 22)
	checkPart(t, state, 2, 30, 31, 32)
	checkPart(t, state, 3, 40, 41, 42)
	checkPart(t, state, 4, 50, 51, 52)
	for _, group := range noGroups {
		checkPart(t, state, group)
	}
	for group := range 5 {
		checkPart(t, allOf(0), group, 0, 0, 0)
		checkPart(t, allOf(999), group, 999, 999, 999)
		checkPart(t, stateBut(0, group, 999, group+10, 1), group, 999, 0, 1)
		for _, state := range badStates() {
			checkPart(t, state, group)
		}
	}
	checkJoined(t, [][]int{{10, 11, 12}, {20, 21, 22}, {30, 31, 32}, {40, 41, 42}, {50, 51, 52}}, state...)
}

// TestStorePartIsAsSaid compares with the document.
func TestStorePartIsAsSaid(t *testing.T) {
	for _, state := range someStates() {
		for group := range 5 {
			checkPart(t, state, group, wantedPart(state, group)...)
		}
		for _, group := range noGroups {
			checkPart(t, state, group)
		}
	}
}

// TestStoreJoinLengths has wrong numbers of parts, and parts of wrong lengths at each place, also if the number of all values is right.
func TestStoreJoinLengths(t *testing.T) {
	checkJoined(t, nil)
	checkJoined(t, [][]int{})
	for n := range 20 {
		for size := range 20 {
			parts := [][]int{}
			for range n {
				parts = append(parts, slices.Repeat([]int{8}, size))
			}
			if n == 5 && size == 3 {
				checkJoined(t, parts, allOf(8)...)
			} else {
				checkJoined(t, parts)
			}
		}
	}
	for _, sizes := range tuples([]int{0, 1, 2, 3, 4, 5, 6}, 5) {
		parts := [][]int{}
		for _, size := range sizes {
			parts = append(parts, slices.Repeat([]int{8}, size))
		}
		if slices.Equal(sizes, []int{3, 3, 3, 3, 3}) {
			checkJoined(t, parts, allOf(8)...)
		} else {
			checkJoined(t, parts)
		}
	}
	checkJoined(t, [][]int{nil, {}, nil, {}, allOf(8)})
	checkJoined(t, [][]int{{1, 2, 3}, {1, 2, 3}, {1, 2, 3}, {1, 2, 3}, {1, 2, 3}, nil})
	checkJoined(t, [][]int{nil, {1, 2, 3}, {1, 2, 3}, {1, 2, 3}, {1, 2, 3}, {1, 2, 3}})
}

// TestStoreJoinValues has all values near the limits, and some far away, at each place of each part.
func TestStoreJoinValues(t *testing.T) {
	for group, keys := range keysByGroup {
		for i, key := range keys {
			for _, value := range slices.Concat([]int{0, 1, 2, 500, 997, 998, 999, -3, 1002}, noAmounts) {
				parts := statePartsOf(allOf(5))
				parts[group][i] = value
				if value >= 0 && value <= 999 {
					checkJoined(t, parts, stateBut(5, key, value)...)
				} else {
					checkJoined(t, parts)
				}
			}
		}
	}
	for _, values := range tuples([]int{-1, 0, 999, 1000}, 5) {
		parts := [][]int{}
		for i, value := range values {
			part := []int{1, 1, 1}
			part[i%3] = value
			parts = append(parts, part)
		}
		checkJoined(t, parts, wantedJoined(parts)...)
	}
}

// TestStoreJoinIsAsSaid joins the parts of different states, also in the wrong order.
func TestStoreJoinIsAsSaid(t *testing.T) {
	states := slices.Concat(someStates(), [][]int{allOf(-1), allOf(1000), stateBut(5, 9, 1000)})
	for i, state := range states {
		for j := range states {
			parts := statePartsOf(state)
			parts[j%5] = wantedPart(states[j], j/5%5)
			parts[(j+i)%5] = wantedPart(states[(i+j)%len(states)], i%5)
			checkJoined(t, parts, wantedJoined(parts)...)
		}
	}
}

// TestStoreTogether has transfers between groups, their return, and the parts of what they lead to.
func TestStoreTogether(t *testing.T) {
	state := stateBut(0, 3, 10, 9, 7, 14, 999)
	there, back := txn([]int{3}, 5, put(3, -4), put(9, 4)), txn(nil, 0, put(3, 4), put(9, -4))
	moved := checkApply(t, state, there, stateBut(0, 3, 6, 9, 11, 14, 999), true)
	checkApply(t, moved, back, state, true)
	checkPart(t, moved, 3, 6, 0, 0)
	checkPart(t, moved, 4, 0, 11, 999)
	// Each put can be left out.
	checkApply(t, state, txn([]int{3}, 5, put(9, 4)), stateBut(0, 3, 10, 9, 11, 14, 999), true)
	checkApply(t, state, txn([]int{3}, 5, put(3, -4)), stateBut(0, 3, 6, 9, 7, 14, 999), true)
	checkApply(t, state, txn([]int{3}, 5), state, true)
	checkApply(t, state, txn(nil, 5), nil, false)
	// Others have no common group with it, whether they succeed or fail.
	other, failing := txn([]int{5}, 0, put(1, 1), put(2, 2)), txn([]int{5}, 1, put(1, 1))
	both := stateBut(0, 1, 1, 2, 2, 3, 6, 9, 11, 14, 999)
	checkRun(t, state, []impl.Txn{there, other}, both, []bool{true, true})
	checkRun(t, state, []impl.Txn{other, there}, both, []bool{true, true})
	checkRun(t, state, []impl.Txn{there, failing}, moved, []bool{true, false})
	checkRun(t, state, []impl.Txn{failing, there}, moved, []bool{false, true})
	checkRun(t, state, []impl.Txn{failing, back}, stateBut(0, 3, 14, 9, 3, 14, 999), []bool{false, true})
	checkRun(t, allOf(0), []impl.Txn{failing, there}, allOf(0), []bool{false, false})
	checkRun(t, allOf(0), []impl.Txn{there, failing}, allOf(0), []bool{false, false})
	// One that has failed can be left out of a list.
	checkRun(t, state, []impl.Txn{there, failing, there, other}, stateBut(0, 1, 1, 2, 2, 3, 2, 9, 15, 14, 999), []bool{true, false, true, true})
	checkRun(t, state, []impl.Txn{there, there, other}, stateBut(0, 1, 1, 2, 2, 3, 2, 9, 15, 14, 999), []bool{true, true, true})
}

// TestStoreSameAtEachCall repeats calls, so that a map that is walked in another order would show.
func TestStoreSameAtEachCall(t *testing.T) {
	for i, x := range storeRuns() {
		if i%20 != 0 {
			continue
		}
		state, outcomes := impl.StoreRun(x.state, x.list)
		parts := statePartsOf(state)
		for range 20 {
			checkRun(t, x.state, x.list, state, outcomes)
			checkJoined(t, parts, state...)
			for group, part := range parts {
				checkPart(t, state, group, part...)
			}
		}
	}
	for i, a := range applications() {
		if i%20 != 0 {
			continue
		}
		state, ok := impl.TxnApply(a.state, a.txn)
		groups := impl.TxnGroups(a.txn)
		for range 20 {
			checkApply(t, a.state, a.txn, state, ok)
			checkTxnGroups(t, a.txn, groups...)
		}
	}
}

// TestP108 checks that each key of a put of a transaction that succeeds has increased by its number, and that all other keys are unchanged.
func TestP108(t *testing.T) {
	count, others := 0, 0
	for _, a := range applications() {
		state, ok := impl.TxnApply(a.state, a.txn)
		if !ok {
			continue
		}
		if !impl.StoreValid(state) || len(state) != len(a.state) {
			t.Fatalf("TxnApply(%v, %s) = %v", a.state, txnOf(a.txn), state)
		}
		for _, p := range a.txn.Puts {
			count++
			if state[p.Key]-a.state[p.Key] != p.Add {
				t.Errorf("TxnApply(%v, %s) = %v", a.state, txnOf(a.txn), state)
			}
		}
		for _, key := range allKeys {
			if slices.Contains(putKeysOf(a.txn), key) {
				continue
			}
			others++
			if state[key] != a.state[key] {
				t.Errorf("TxnApply(%v, %s) = %v", a.state, txnOf(a.txn), state)
			}
		}
	}
	if count < 1000 || others < 1000 {
		t.Errorf("only %d puts have succeeded, beside %d other keys", count, others)
	}
}

// TestP109 checks that a transaction fails if the values that it reads add up to less than Need, and only those succeed for which they do not.
func TestP109(t *testing.T) {
	just, less := 0, 0
	for _, a := range applications() {
		_, ok := impl.TxnApply(a.state, a.txn)
		sum := readSum(a.state, a.txn)
		if ok && sum < a.txn.Need {
			t.Errorf("TxnApply(%v, %s) succeeds, but the sum is %d", a.state, txnOf(a.txn), sum)
		}
		if ok && sum == a.txn.Need {
			just++
		}
		// With the need just met, or just not, only the puts decide.
		for _, need := range []int{sum, sum + 1} {
			x := txn(a.txn.Reads, need, a.txn.Puts...)
			if need > 14985 {
				continue
			}
			if need > sum {
				less++
				checkApply(t, a.state, x, a.state, false)
			} else {
				want, wantOk := wantedApply(a.state, x)
				checkApply(t, a.state, x, want, wantOk)
			}
		}
	}
	if just < 500 || less < 1000 {
		t.Errorf("only %d transactions just succeed, and %d just fail", just, less)
	}
}

// TestP110 checks that a transaction that fails leaves the state unchanged.
func TestP110(t *testing.T) {
	count := 0
	for _, a := range applications() {
		state, ok := impl.TxnApply(a.state, a.txn)
		if ok {
			continue
		}
		count++
		if !slices.Equal(state, a.state) {
			t.Errorf("TxnApply(%v, %s) = %v, false", a.state, txnOf(a.txn), state)
		}
	}
	if count < 1000 {
		t.Errorf("only %d transactions fail", count)
	}
}

// TestP111 checks that TxnGroups has the groups of the keys that are read or put, and no others.
func TestP111(t *testing.T) {
	check := func(x impl.Txn) {
		t.Helper()
		groups := impl.TxnGroups(x)
		if !impl.GroupsValid(groups) {
			t.Errorf("TxnGroups(%s) = %v", txnOf(x), groups)
		}
		keys := slices.Concat(x.Reads, putKeysOf(x))
		for group := -1; group <= 5; group++ {
			concerned := slices.ContainsFunc(keys, func(key int) bool { return key%5 == group })
			if slices.Contains(groups, group) != concerned {
				t.Errorf("TxnGroups(%s) = %v", txnOf(x), groups)
			}
		}
	}
	for _, a := range applications() {
		check(a.txn)
	}
	for _, a := range allKeys {
		for _, b := range allKeys {
			check(txn([]int{a}, 0, put(b, 1)))
			if a < b {
				check(txn([]int{a, b}, 0))
				check(txn(nil, 0, put(a, 1), put(b, 1)))
			}
		}
	}
}

// TestP112 checks that a transaction does not change the parts of groups that it does not concern.
func TestP112(t *testing.T) {
	count := 0
	for _, a := range applications() {
		state, ok := impl.TxnApply(a.state, a.txn)
		groups := impl.TxnGroups(a.txn)
		for group := range 5 {
			if slices.Contains(groups, group) {
				continue
			}
			if ok {
				count++
			}
			checkPart(t, state, group, impl.StorePart(a.state, group)...)
			checkPart(t, state, group, wantedPart(a.state, group)...)
		}
	}
	if count < 1000 {
		t.Errorf("only %d groups were not concerned by transactions that succeed", count)
	}
}

// checkEither checks that two transactions lead to the same state in either order, with the same outcomes, and returns these.
func checkEither(t *testing.T, state []int, a, b impl.Txn) string {
	t.Helper()
	first, okA := impl.TxnApply(state, a)
	both, okB := impl.TxnApply(first, b)
	first, wantB := impl.TxnApply(state, b)
	checkApply(t, first, a, both, okA)
	if okB != wantB {
		t.Errorf("in %v, the outcome of %s is %v behind %s, and %v before it", state, txnOf(b), okB, txnOf(a), wantB)
	}
	return fmt.Sprint(okA, okB)
}

// TestP113 checks that two transactions without a common group can be performed in either order.
func TestP113(t *testing.T) {
	counts := map[string]int{}
	r := rand.New(rand.NewPCG(31, 113))
	for _, state := range someStates() {
		for range 300 {
			a, b := randomTxn(r, state, 8, 30), randomTxn(r, state, 8, 30)
			if !overlap(impl.TxnGroups(a), impl.TxnGroups(b)) {
				counts[checkEither(t, state, a, b)]++
			}
		}
		// Here both have many keys, those of two and of three groups.
		for _, first := range [][]int{{0, 1}, {1, 4}, {0, 2, 4}} {
			in := func(key int) bool { return slices.Contains(first, key%5) }
			for range 20 {
				a, b := randomTxn(r, state, 60, 10), randomTxn(r, state, 60, 10)
				a.Reads = slices.DeleteFunc(a.Reads, func(key int) bool { return !in(key) })
				a.Puts = slices.DeleteFunc(a.Puts, func(p impl.Put) bool { return !in(p.Key) })
				b.Reads = slices.DeleteFunc(b.Reads, in)
				b.Puts = slices.DeleteFunc(b.Puts, func(p impl.Put) bool { return in(p.Key) })
				if impl.TxnValid(a) && impl.TxnValid(b) {
					a.Need, b.Need = r.IntN(readSum(state, a)+2), r.IntN(readSum(state, b)+2)
					counts[checkEither(t, state, a, b)]++
				}
			}
		}
	}
	if len(counts) != 4 || slices.Min([]int{counts["true true"], counts["true false"], counts["false true"], counts["false false"]}) < 100 {
		t.Errorf("the outcomes are %v", counts)
	}
	// With a common group, the order may matter, so the promise says something.
	a, b := txn(nil, 0, put(0, 999)), txn(nil, 0, put(0, 1))
	checkRun(t, allOf(0), []impl.Txn{a, b}, stateBut(0, 0, 999), []bool{true, false})
	checkRun(t, allOf(0), []impl.Txn{b, a}, stateBut(0, 0, 1), []bool{true, false})
}

// TestP114 checks that StoreRun is TxnApply of each transaction in order.
func TestP114(t *testing.T) {
	for _, x := range storeRuns() {
		state, outcomes := slices.Clone(x.state), []bool{}
		for _, one := range x.list {
			next, ok := impl.TxnApply(state, one)
			state, outcomes = next, append(outcomes, ok)
		}
		checkRun(t, x.state, x.list, state, outcomes)
	}
}

// TestP115 checks that StoreRun of a list is StoreRun of its first part, followed by that of the rest, wherever it is cut.
func TestP115(t *testing.T) {
	count := 0
	for _, x := range storeRuns() {
		want, wantOutcomes := impl.StoreRun(x.state, x.list)
		for i := range len(x.list) + 1 {
			count++
			middle, first := impl.StoreRun(x.state, x.list[:i])
			checkRun(t, middle, x.list[i:], want, wantOutcomes[i:])
			if !slices.Equal(first, wantOutcomes[:i]) {
				t.Errorf("StoreRun(%v, %v) has the outcomes %v, not %v", x.state, x.list[:i], first, wantOutcomes[:i])
			}
		}
	}
	if count < 1000 {
		t.Errorf("only %d cuts", count)
	}
}

// TestP116 checks that the parts of a state joined are the state.
func TestP116(t *testing.T) {
	check := func(state []int) {
		t.Helper()
		parts := [][]int{}
		for group := range 5 {
			parts = append(parts, impl.StorePart(state, group))
		}
		checkJoined(t, parts, state...)
	}
	for _, state := range someStates() {
		check(state)
	}
	for _, a := range applications() {
		state, _ := impl.TxnApply(a.state, a.txn)
		check(state)
	}
}

// TestP117 checks that the parts of a joined state are those from which it was made, and that all fitting parts can be joined.
func TestP117(t *testing.T) {
	r := rand.New(rand.NewPCG(31, 117))
	count, none := 0, 0
	for i := range 3000 {
		parts := [][]int{}
		for range 5 + i%50/48 {
			part := []int{}
			for range 3 + r.IntN(40)/39 {
				part = append(part, []int{0, 999, r.IntN(1000), r.IntN(1004) - 2}[r.IntN(4)])
			}
			parts = append(parts, part)
		}
		state := impl.StoreJoin(parts)
		if len(state) == 0 {
			none++
			checkJoined(t, parts, wantedJoined(parts)...)
			continue
		}
		count++
		checkStoreValid(t, state, true)
		if len(parts) != 5 {
			t.Errorf("StoreJoin(%v) = %v", parts, state)
		}
		for group, part := range parts {
			checkPart(t, state, group, part...)
		}
	}
	if count < 1000 || none < 100 {
		t.Errorf("only %d states were joined, and %d could not be", count, none)
	}
}

// TestP118 checks that a transaction without puts changes nothing, and succeeds if and only if its condition holds.
func TestP118(t *testing.T) {
	holds, fails := 0, 0
	for _, a := range applications() {
		x := txn(a.txn.Reads, a.txn.Need)
		if len(x.Reads) == 0 {
			continue
		}
		ok := readSum(a.state, x) >= x.Need
		if ok {
			holds++
		} else {
			fails++
		}
		checkApply(t, a.state, x, a.state, ok)
		x.Puts = []impl.Put{}
		checkApply(t, a.state, x, a.state, ok)
	}
	if holds < 1000 || fails < 1000 {
		t.Errorf("the condition of only %d transactions holds, and that of %d does not", holds, fails)
	}
	for bits := 1; bits < 1<<15; bits++ {
		keys := keysOf(bits)
		checkApply(t, allOf(2), txn(keys, 2*len(keys)), allOf(2), true)
		checkApply(t, allOf(2), txn(keys, 2*len(keys)+1), allOf(2), false)
	}
}

// TestP119 checks that what a transaction has added can be subtracted again, and that the state is the previous one then.
func TestP119(t *testing.T) {
	count := 0
	for _, a := range successes() {
		state, ok := impl.TxnApply(a.state, a.txn)
		if !ok {
			t.Errorf("TxnApply(%v, %s) fails", a.state, txnOf(a.txn))
			continue
		}
		back := txn(nil, 0)
		for _, p := range a.txn.Puts {
			count++
			back.Puts = append(back.Puts, put(p.Key, -p.Add))
		}
		if len(back.Puts) > 0 {
			checkApply(t, state, back, a.state, true)
		}
		// The sum of the values of the first keys is the condition here, so it always holds.
		back.Reads = allKeys[:3]
		back.Need = state[0] + state[1] + state[2]
		checkApply(t, state, back, a.state, true)
	}
	if count < 1000 {
		t.Errorf("only %d puts were taken back", count)
	}
}

// TestP120 checks that a transaction that succeeds also does so without any one put, if a key remains, and that the key of this put is unchanged then.
func TestP120(t *testing.T) {
	count, last := 0, 0
	for _, a := range successes() {
		for i, p := range a.txn.Puts {
			x := txn(a.txn.Reads, a.txn.Need, slices.Delete(slices.Clone(a.txn.Puts), i, i+1)...)
			if len(x.Reads)+len(x.Puts) == 0 {
				last++
				checkApply(t, a.state, x, nil, false)
				continue
			}
			count++
			want := after(a.state, x)
			if want[p.Key] != a.state[p.Key] {
				t.Errorf("%s still puts key %d", txnOf(x), p.Key)
			}
			checkApply(t, a.state, x, want, true)
		}
	}
	if count < 1000 || last < 10 {
		t.Errorf("only %d puts were left out, and %d were the only key", count, last)
	}
}

// TestP121 checks that the transactions that succeed in a run lead to the same state alone, and all of them succeed.
func TestP121(t *testing.T) {
	left := 0
	for _, x := range storeRuns() {
		want, outcomes := impl.StoreRun(x.state, x.list)
		if len(outcomes) != len(x.list) {
			t.Fatalf("StoreRun(%v, %v) has the outcomes %v", x.state, x.list, outcomes)
		}
		list := []impl.Txn{}
		for i, one := range x.list {
			if outcomes[i] {
				list = append(list, one)
			} else {
				left++
			}
		}
		checkRun(t, x.state, list, want, slices.Repeat([]bool{true}, len(list)))
	}
	if left < 1000 {
		t.Errorf("only %d transactions were left out", left)
	}
}

// TestP122 checks that a run of the transactions that do not concern a group leaves the part of the group.
func TestP122(t *testing.T) {
	several, changes := 0, 0
	for _, x := range storeRuns() {
		for group := range 5 {
			list := slices.DeleteFunc(slices.Clone(x.list), func(one impl.Txn) bool { return slices.Contains(impl.TxnGroups(one), group) })
			state, _ := impl.StoreRun(x.state, list)
			checkPart(t, state, group, impl.StorePart(x.state, group)...)
			checkPart(t, state, group, wantedPart(x.state, group)...)
			if len(list) > 1 {
				several++
			}
			if !slices.Equal(state, x.state) {
				changes++
			}
		}
	}
	if several < 1000 || changes < 1000 {
		t.Errorf("only %d lists without a group have several transactions, and %d change something", several, changes)
	}
}

// roomy returns a copy of a slice with so much space behind it that all of a state would fit there.
func roomy[T any](list []T, filled T) []T {
	return append(slices.Clone(list), slices.Repeat([]T{filled}, 40)...)[:len(list)]
}

// roomyTxns returns a copy of transactions with space behind them, and behind their lists.
func roomyTxns(list []impl.Txn) []impl.Txn {
	out := []impl.Txn{}
	for _, x := range list {
		out = append(out, txn(roomy(x.Reads, 77), x.Need, roomy(x.Puts, put(77, 77))...))
	}
	return roomy(out, txn([]int{77}, 77))
}

// roomyParts returns a copy of parts with space behind them, and behind each one.
func roomyParts(parts [][]int) [][]int {
	out := [][]int{}
	for _, part := range parts {
		out = append(out, roomy(part, 77))
	}
	return roomy(out, []int{77})
}

// wholeTxns returns what is in the memory of transactions, as text.
func wholeTxns(list []impl.Txn) string {
	text := fmt.Sprint(len(list), cap(list))
	for _, x := range list[:cap(list)] {
		text += fmt.Sprint("/", len(x.Reads), whole(x.Reads), x.Need, len(x.Puts), x.Puts[:cap(x.Puts)])
	}
	return text
}

// overwriteTxns fills the memory of transactions.
func overwriteTxns(list []impl.Txn) {
	for _, x := range list[:cap(list)] {
		overwrite(x.Reads)
		for i := range x.Puts[:cap(x.Puts)] {
			x.Puts[:cap(x.Puts)][i] = put(99, 99)
		}
	}
	for i := range list[:cap(list)] {
		list[:cap(list)][i] = txn([]int{99}, 99)
	}
}

// turnAll changes each bool in the memory of a slice.
func turnAll(list []bool) {
	for i := range list[:cap(list)] {
		list[:cap(list)][i] = !list[:cap(list)][i]
	}
}

// storeArguments are a state, transactions and parts.
type storeArguments struct {
	state []int
	list  []impl.Txn
	parts [][]int
}

// whole returns what is in the memory of the arguments, as text.
func (a storeArguments) whole() string {
	return whole(a.state) + wholeTxns(a.list) + wholeList(a.parts)
}

// overwrite fills the memory of the arguments.
func (a storeArguments) overwrite() {
	overwrite(a.state)
	overwriteTxns(a.list)
	for _, part := range a.parts[:cap(a.parts)] {
		overwrite(part)
	}
}

// storeResults returns what all functions return for the arguments, and the outcomes of the run.
func storeResults(a storeArguments) ([][]int, []bool) {
	impl.StoreValid(a.state)
	results := [][]int{}
	for _, x := range a.list {
		impl.TxnValid(x)
		state, _ := impl.TxnApply(a.state, x)
		results = append(results, state, impl.TxnGroups(x))
	}
	for group := -1; group <= 5; group++ {
		results = append(results, impl.StorePart(a.state, group))
	}
	state, outcomes := impl.StoreRun(a.state, a.list)
	return append(results, state, impl.StoreJoin(a.parts)), outcomes
}

// checkStoreMemory checks that the functions leave their arguments, and what is behind them, and that a result shares memory neither with an argument nor with another result, of this call or of another one.
func checkStoreMemory(t *testing.T, a storeArguments) {
	t.Helper()
	before := a.whole()
	first, firstOutcomes := storeResults(a)
	second, outcomes := storeResults(a)
	// The results are compared without the space behind them, which they may have.
	want, wantOutcomes := fmt.Sprint(second), fmt.Sprint(outcomes)
	for _, list := range first {
		overwrite(list)
	}
	turnAll(firstOutcomes)
	if a.whole() != before {
		t.Fatalf("an argument was changed: %s", before)
	}
	if fmt.Sprint(second) != want || fmt.Sprint(outcomes) != wantOutcomes {
		t.Fatalf("the results of two calls share memory: %s", before)
	}
	a.overwrite()
	if fmt.Sprint(second) != want || fmt.Sprint(outcomes) != wantOutcomes {
		t.Fatalf("a result shares memory with an argument: %s", before)
	}
	for i, list := range second {
		rest := slices.Delete(slices.Clone(second), i, i+1)
		want := fmt.Sprint(rest)
		overwrite(list)
		if fmt.Sprint(rest) != want {
			t.Fatalf("the results of one call share memory: %s", before)
		}
	}
}

// TestStoreMemory has valid and invalid arguments, with and without space behind them.
func TestStoreMemory(t *testing.T) {
	states := slices.Concat(someStates()[:40], badStates()[:40])
	bad := badTxns()
	for i, x := range storeRuns() {
		if i%3 > 0 {
			continue
		}
		parts := statePartsOf(x.state)
		checkStoreMemory(t, storeArguments{slices.Clone(x.state), roomyTxns(x.list), roomyParts(parts)})
		checkStoreMemory(t, storeArguments{roomy(x.state, 77), roomyTxns(append(slices.Clone(x.list), bad[i%len(bad)])), roomyParts(parts[:i%5])})
		parts[i%5] = parts[i%5][:i%3]
		checkStoreMemory(t, storeArguments{roomy(states[i%80], 77), roomyTxns(x.list), roomyParts(parts)})
	}
	// States and parts that are returned unchanged.
	for _, state := range someStates() {
		list := []impl.Txn{txn([]int{0}, 0), txn([]int{0}, 14985), txn(nil, 1, put(3, 0))}
		checkStoreMemory(t, storeArguments{roomy(state, 77), roomyTxns(list[:0]), roomyParts(statePartsOf(state))})
		checkStoreMemory(t, storeArguments{roomy(state, 77), roomyTxns(list), roomyParts(statePartsOf(state))})
	}
}

// TestStoreSharedArgument has a state that is also the keys of a transaction, a transaction that is in a list more than once, and parts that are pieces of one slice, or all the same one.
func TestStoreSharedArgument(t *testing.T) {
	state := slices.Clone(allKeys)
	for n := 1; n <= 15; n++ {
		x := txn(state[15-n:], 0, put(0, 1), put(14, -1))
		want := stateBut(0)
		copy(want, allKeys)
		want[0], want[14] = 1, 13
		checkApply(t, state, x, want, true)
		want[0], want[14] = 2, 12
		checkRun(t, state, []impl.Txn{x, x}, want, []bool{true, true})
		checkTxnGroups(t, txn(state[:n], 0), wantedGroups(txn(state[:n], 0))...)
		checkStoreMemory(t, storeArguments{state, []impl.Txn{x, x, txn(state[:n], 3)}, nil})
		copy(state, allKeys)
	}
	checkJoined(t, [][]int{state[0:3], state[3:6], state[6:9], state[9:12], state[12:15]}, 0, 3, 6, 9, 12, 1, 4, 7, 10, 13, 2, 5, 8, 11, 14)
	checkJoined(t, [][]int{state[5:8], state[6:9], state[5:8], state[4:7], state[5:8]}, 5, 6, 5, 4, 5, 6, 7, 6, 5, 6, 7, 8, 7, 6, 7)
	if !slices.Equal(state, allKeys) {
		t.Errorf("the parts have become %v", state)
	}
	checkStoreMemory(t, storeArguments{state, nil, [][]int{state[0:3], state[0:3], state[1:4], state[6:9], state[12:15]}})
}

// TestStoreSpareSpace checks that what follows from the same state twice does not overwrite each other.
func TestStoreSpareSpace(t *testing.T) {
	state := checkApply(t, allOf(5), txn(nil, 0, put(2, 1)), stateBut(5, 2, 6), true)
	one := checkApply(t, state, txn(nil, 0, put(2, 1)), stateBut(5, 2, 7), true)
	other := checkApply(t, state, txn(nil, 0, put(3, -5)), stateBut(5, 2, 6, 3, 0), true)
	run := checkRun(t, state, []impl.Txn{txn(nil, 0, put(4, 9))}, stateBut(5, 2, 6, 4, 14), []bool{true})
	same := checkRun(t, state, nil, state, nil)
	same[0] = 88
	part := impl.StorePart(state, 2)
	part[0] = 77
	if !slices.Equal(state, stateBut(5, 2, 6)) || !slices.Equal(one, stateBut(5, 2, 7)) || !slices.Equal(other, stateBut(5, 2, 6, 3, 0)) || !slices.Equal(run, stateBut(5, 2, 6, 4, 14)) {
		t.Errorf("the states are %v, %v, %v and %v", state, one, other, run)
	}
}

// TestStoreNil checks that a nil slice, as an argument, is an empty one.
func TestStoreNil(t *testing.T) {
	for _, none := range [][]int{nil, {}} {
		checkStoreValid(t, none, false)
		checkTxnValid(t, txn(none, 0), false)
		checkTxnGroups(t, txn(none, 0))
		checkTxnGroups(t, txn(none, 0, put(6, 0)), 1)
		checkApply(t, none, txn([]int{0}, 0), nil, false)
		checkApply(t, allOf(5), txn(none, 0), nil, false)
		checkApply(t, allOf(5), txn(none, 0, put(6, 1)), stateBut(5, 6, 6), true)
		checkRun(t, none, []impl.Txn{txn([]int{0}, 0)}, nil, nil)
		checkRun(t, allOf(5), []impl.Txn{txn(none, 0)}, nil, nil)
		checkRun(t, none, nil, nil, nil)
		checkPart(t, none, 0)
		checkJoined(t, [][]int{none, none, none, none, none})
		checkJoined(t, [][]int{{1, 2, 3}, {1, 2, 3}, none, {1, 2, 3}, {1, 2, 3}})
	}
	for _, puts := range [][]impl.Put{nil, {}} {
		x := impl.Txn{Reads: []int{3}, Need: 5, Puts: puts}
		checkTxnValid(t, x, true)
		checkTxnGroups(t, x, 3)
		checkApply(t, allOf(5), x, allOf(5), true)
		checkRun(t, allOf(4), []impl.Txn{x}, allOf(4), []bool{false})
	}
	for _, list := range [][]impl.Txn{nil, {}} {
		checkRun(t, allOf(5), list, allOf(5), nil)
		checkRun(t, allOf(-1), list, nil, nil)
	}
}
