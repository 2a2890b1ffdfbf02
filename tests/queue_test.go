package tests

import (
	"fmt"
	"math"
	"math/rand/v2"
	"runtime"
	"slices"
	"sync"
	"testing"
	"time"

	"loop.example/groupmulticast/impl"
)

// noConsumers are numbers that no consumer has.
var noConsumers = []int{-1, -2, -3, -4, -5, -64, -256, 4, 5, 6, 7, 8, 16, 20, 32, 64, 128, 255, 256, 257, 999, math.MinInt, math.MinInt + 1, math.MaxInt - 1, math.MaxInt}

// someItems are items, those at the limits among them.
var someItems = []int{0, 1, 3, 500, 998, 999}

// queue returns a queue of which the first items were taken by these consumers.
func queue(items []int, taken ...int) impl.Queue {
	return impl.Queue{Items: items, Taken: taken}
}

// sameQueue reports whether two queues are equal.
func sameQueue(a, b impl.Queue) bool {
	return slices.Equal(a.Items, b.Items) && slices.Equal(a.Taken, b.Taken)
}

// numbered returns n different items that neither ascend nor descend.
func numbered(n int) []int {
	list := []int{}
	for i := range n {
		list = append(list, (i*367+41)%1000)
	}
	return list
}

// takers returns n consumers, who take turns.
func takers(n int) []int {
	list := []int{}
	for i := range n {
		list = append(list, (i*3+1)%4)
	}
	return list
}

// wantedQueueValid reports whether a queue is valid, in the document's words.
func wantedQueueValid(q impl.Queue) bool {
	outOfRange := func(item int) bool { return item < 0 || item > 999 }
	nobody := func(consumer int) bool { return !slices.Contains([]int{0, 1, 2, 3}, consumer) }
	return len(q.Items) <= 20 && len(q.Taken) <= len(q.Items) && !slices.ContainsFunc(q.Items, outOfRange) && !slices.ContainsFunc(q.Taken, nobody)
}

// wantedPut returns what QueuePut of a valid queue and item must return.
func wantedPut(q impl.Queue, item int) (impl.Queue, bool) {
	if len(q.Items) == 20 {
		return q, false
	}
	return queue(slices.Concat(q.Items, []int{item}), q.Taken...), true
}

// wantedTake returns what QueueTake of a valid queue and consumer must return.
func wantedTake(q impl.Queue, consumer int) (impl.Queue, int, bool) {
	if len(q.Taken) == len(q.Items) {
		return q, 0, false
	}
	return queue(q.Items, slices.Concat(q.Taken, []int{consumer})...), q.Items[len(q.Taken)], true
}

// wantedOwn returns the items of a valid queue that a consumer has taken.
func wantedOwn(q impl.Queue, consumer int) []int {
	list := []int{}
	for i, item := range q.Items {
		if i < len(q.Taken) && q.Taken[i] == consumer {
			list = append(list, item)
		}
	}
	return list
}

// wantedLeft returns the items of a valid queue that were not taken.
func wantedLeft(q impl.Queue) []int {
	return q.Items[len(q.Taken):]
}

// validQueues are valid queues, always the same: all with up to three items of three kinds, and those of each length with each number of items taken, with different items, with equal ones, and with any.
var validQueues = sync.OnceValue(func() []impl.Queue {
	list := []impl.Queue{}
	for n := range 4 {
		for _, items := range tuples([]int{0, 7, 999}, n) {
			for k := range n + 1 {
				for _, taken := range tuples([]int{0, 1, 2, 3}, k) {
					list = append(list, queue(items, taken...))
				}
			}
		}
	}
	r := rand.New(rand.NewPCG(32, 1))
	for n := range 21 {
		for k := range n + 1 {
			few, free, taken := []int{}, []int{}, []int{}
			for range n {
				few, free = append(few, r.IntN(3)), append(free, r.IntN(1000))
			}
			for range k {
				taken = append(taken, r.IntN(4))
			}
			list = append(list, queue(numbered(n), takers(k)...), queue(slices.Repeat([]int{n*48 + k}, n), taken...), queue(few, slices.Repeat([]int{n % 4}, k)...), queue(free, taken...))
		}
	}
	return list
})

// placesOf returns the first, a middle and the last place of a list.
func placesOf(list []int) []int {
	if len(list) == 0 {
		return nil
	}
	return slices.Compact([]int{0, len(list) / 2, len(list) - 1})
}

// withAt returns a copy of a list with another number at one place.
func withAt(list []int, at, number int) []int {
	list = slices.Clone(list)
	list[at] = number
	return list
}

// badQueues are invalid queues, each for one reason: too many items, too many consumers, or one item or consumer that is out of range.
var badQueues = sync.OnceValue(func() []impl.Queue {
	list := []impl.Queue{}
	for _, n := range []int{21, 22, 40, 41, 64, 128, 255, 256, 257, 276, 65536} {
		for _, k := range []int{0, 1, 19, 20, 21, n - 1, n} {
			list = append(list, queue(numbered(n), takers(k)...), queue(slices.Repeat([]int{5}, n), slices.Repeat([]int{3}, k)...))
		}
	}
	for n := range 21 {
		for _, k := range []int{n + 1, n + 2, 21, 22, 2*n + 1, 40, 256 + n, 65536 + n} {
			list = append(list, queue(numbered(n), takers(k)...), queue(slices.Repeat([]int{5}, n), slices.Repeat([]int{n % 4}, k)...))
		}
	}
	for n := 1; n <= 20; n++ {
		for _, k := range []int{0, 1, (n + 1) / 2, n - 1, n} {
			for _, at := range placesOf(numbered(n)) {
				for _, item := range noAmounts {
					list = append(list, queue(withAt(numbered(n), at, item), takers(k)...))
				}
			}
			for _, at := range placesOf(takers(k)) {
				for _, consumer := range noConsumers {
					list = append(list, queue(numbered(n), withAt(takers(k), at, consumer)...))
				}
			}
		}
	}
	return list
})

// checkQueueValid checks what QueueValid returns.
func checkQueueValid(t *testing.T, q impl.Queue, want bool) {
	t.Helper()
	if got := impl.QueueValid(q); got != want {
		t.Errorf("QueueValid(%v) = %v", q, got)
	}
}

// checkPut checks what QueuePut returns.
func checkPut(t *testing.T, q impl.Queue, item int, want impl.Queue, wantOk bool) impl.Queue {
	t.Helper()
	got, ok := impl.QueuePut(q, item)
	if !sameQueue(got, want) || ok != wantOk {
		t.Errorf("QueuePut(%v, %d) = %v, %v, not %v, %v", q, item, got, ok, want, wantOk)
	}
	return got
}

// checkTake checks what QueueTake returns.
func checkTake(t *testing.T, q impl.Queue, consumer int, want impl.Queue, wantItem int, wantOk bool) impl.Queue {
	t.Helper()
	got, item, ok := impl.QueueTake(q, consumer)
	if !sameQueue(got, want) || item != wantItem || ok != wantOk {
		t.Errorf("QueueTake(%v, %d) = %v, %d, %v, not %v, %d, %v", q, consumer, got, item, ok, want, wantItem, wantOk)
	}
	return got
}

// checkOwn checks what QueueOf returns.
func checkOwn(t *testing.T, q impl.Queue, consumer int, want ...int) {
	t.Helper()
	if got := impl.QueueOf(q, consumer); !slices.Equal(got, want) {
		t.Errorf("QueueOf(%v, %d) = %v, not %v", q, consumer, got, want)
	}
}

// checkLeft checks what QueueLeft returns.
func checkLeft(t *testing.T, q impl.Queue, want ...int) {
	t.Helper()
	if got := impl.QueueLeft(q); !slices.Equal(got, want) {
		t.Errorf("QueueLeft(%v) = %v, not %v", q, got, want)
	}
}

// checkNoQueue checks that an invalid queue is recognized by all functions, whatever the other argument is.
func checkNoQueue(t *testing.T, q impl.Queue) {
	t.Helper()
	checkQueueValid(t, q, false)
	for _, item := range []int{0, 999, -1, 1000} {
		checkPut(t, q, item, impl.Queue{}, false)
	}
	for consumer := -1; consumer <= 4; consumer++ {
		checkTake(t, q, consumer, impl.Queue{}, 0, false)
		checkOwn(t, q, consumer)
	}
	checkLeft(t, q)
}

// checkQueueAsSaid checks all functions for a valid queue against the document's words.
func checkQueueAsSaid(t *testing.T, q impl.Queue) {
	t.Helper()
	checkQueueValid(t, q, true)
	for _, item := range someItems {
		want, ok := wantedPut(q, item)
		checkPut(t, q, item, want, ok)
	}
	for consumer := range 4 {
		want, item, ok := wantedTake(q, consumer)
		checkTake(t, q, consumer, want, item, ok)
		checkOwn(t, q, consumer, wantedOwn(q, consumer)...)
	}
	checkLeft(t, q, wantedLeft(q)...)
}

func TestQueueConstants(t *testing.T) {
	if impl.MaxQueue != 20 || impl.MaxConsumers != 4 || impl.MaxAmount != 999 {
		t.Errorf("MaxQueue is %d, MaxConsumers is %d, MaxAmount is %d", impl.MaxQueue, impl.MaxConsumers, impl.MaxAmount)
	}
}

// TestQueueInTime calls all functions where a queue is empty, full, taken as a whole, or invalid, and checks that none of the calls waits for ever.
func TestQueueInTime(t *testing.T) {
	queues := []impl.Queue{{}, queue(numbered(1)), queue(numbered(1), 3), queue(numbered(20)), queue(numbered(20), takers(10)...), queue(numbered(20), takers(20)...), queue(numbered(21)), queue(numbered(300), takers(300)...), queue(nil, 0), queue(numbered(20), takers(21)...)}
	for _, q := range queues {
		done := make(chan bool)
		go func() {
			impl.QueueValid(q)
			impl.QueuePut(q, 5)
			impl.QueueTake(q, 0)
			impl.QueueOf(q, 1)
			impl.QueueLeft(q)
			close(done)
		}()
		select {
		case <-done:
		case <-time.After(20 * time.Second):
			t.Fatalf("a call for %v does not return", q)
		}
	}
}

// TestQueueGoroutines checks that no call leaves a goroutine behind.
func TestQueueGoroutines(t *testing.T) {
	before := runtime.NumGoroutine()
	for _, q := range []impl.Queue{{}, queue(numbered(7), takers(3)...), queue(numbered(20)), queue(numbered(20), takers(20)...), queue(numbered(21)), queue(nil, 0)} {
		for range 100 {
			impl.QueueValid(q)
			impl.QueuePut(q, 5)
			impl.QueueTake(q, 0)
			impl.QueueOf(q, 1)
			impl.QueueLeft(q)
		}
	}
	// A goroutine that has done its work may need some time to end.
	for range 200 {
		if runtime.NumGoroutine() <= before {
			return
		}
		time.Sleep(10 * time.Millisecond)
	}
	t.Errorf("there are %d goroutines, and %d before the calls", runtime.NumGoroutine(), before)
}

// TestQueueValidNumbers has all numbers of items up to 45 with all numbers of consumers up to 45.
func TestQueueValidNumbers(t *testing.T) {
	for n := range 46 {
		for k := range 46 {
			checkQueueValid(t, queue(numbered(n), takers(k)...), n <= 20 && k <= n)
			checkQueueValid(t, queue(slices.Repeat([]int{0}, n), slices.Repeat([]int{0}, k)...), n <= 20 && k <= n)
		}
	}
}

// TestQueueValidItems has all items near the range, and in it, at each place, whether it was taken or not.
func TestQueueValidItems(t *testing.T) {
	for _, n := range []int{1, 2, 3, 19, 20} {
		for at := range n {
			for item := -1100; item <= 2100; item++ {
				items := withAt(numbered(n), at, item)
				checkQueueValid(t, queue(items), item >= 0 && item <= 999)
				checkQueueValid(t, queue(items, takers(n)...), item >= 0 && item <= 999)
			}
			for _, item := range noAmounts {
				checkQueueValid(t, queue(withAt(numbered(n), at, item), takers(n/2)...), false)
			}
		}
	}
	checkQueueValid(t, queue([]int{5, -1, 1000, 5}), false)
	checkQueueValid(t, queue([]int{-1, -1}, 0, 1), false)
	checkQueueValid(t, queue([]int{1000, 1001}, 0), false)
}

// TestQueueValidConsumers has all consumers near the range, and in it, at each place.
func TestQueueValidConsumers(t *testing.T) {
	for _, n := range []int{1, 2, 3, 19, 20} {
		for k := 1; k <= n; k++ {
			for at := range k {
				for consumer := -20; consumer <= 40; consumer++ {
					checkQueueValid(t, queue(numbered(n), withAt(takers(k), at, consumer)...), consumer >= 0 && consumer <= 3)
				}
				for _, consumer := range noConsumers {
					checkQueueValid(t, queue(numbered(n), withAt(takers(k), at, consumer)...), false)
				}
			}
		}
	}
	checkQueueValid(t, queue([]int{5, 6}, -1, 4), false)
	checkQueueValid(t, queue([]int{5, 6}, 4, 4), false)
}

// TestQueueValidIsAsSaid compares QueueValid with the document's words for valid and invalid queues, and for pieces of them.
func TestQueueValidIsAsSaid(t *testing.T) {
	for _, q := range slices.Concat(validQueues(), badQueues()) {
		checkQueueValid(t, q, wantedQueueValid(q))
		for _, at := range placesOf(q.Items) {
			piece := queue(q.Items[at:], q.Taken...)
			checkQueueValid(t, piece, wantedQueueValid(piece))
		}
		for _, at := range placesOf(q.Taken) {
			piece := queue(q.Items, q.Taken[at:]...)
			checkQueueValid(t, piece, wantedQueueValid(piece))
		}
	}
	for _, q := range validQueues() {
		checkQueueValid(t, q, true)
	}
}

// TestQueueInvalid has invalid queues, each for one reason, or several.
func TestQueueInvalid(t *testing.T) {
	for _, q := range badQueues() {
		checkNoQueue(t, q)
	}
	checkNoQueue(t, queue(nil, 0))
	checkNoQueue(t, queue([]int{}, 3, 2, 1))
	checkNoQueue(t, queue(nil, -1))
	checkNoQueue(t, queue([]int{-1}, 4))
	checkNoQueue(t, queue([]int{1000}, 0, 0))
	checkNoQueue(t, queue(slices.Repeat([]int{-1}, 21), slices.Repeat([]int{4}, 22)...))
	// What was taken can be invalid, too, and what is left.
	checkNoQueue(t, queue([]int{-1, 5}, 0))
	checkNoQueue(t, queue([]int{5, 1000}, 0))
}

// TestQueuePutItems has all items near the range, and in it, for queues with and without space, and with and without items left.
func TestQueuePutItems(t *testing.T) {
	queues := []impl.Queue{{}, queue([]int{7}), queue([]int{7}, 0), queue(numbered(19)), queue(numbered(19), takers(19)...), queue(numbered(20)), queue(numbered(20), takers(20)...)}
	for _, q := range queues {
		for item := -1100; item <= 2100; item++ {
			want, ok := wantedPut(q, item)
			if item < 0 || item > 999 {
				want, ok = impl.Queue{}, false
			}
			checkPut(t, q, item, want, ok)
		}
		for _, item := range noAmounts {
			checkPut(t, q, item, impl.Queue{}, false)
		}
	}
}

// TestQueuePutPlaces has queues with each number of items, of which each number was taken.
func TestQueuePutPlaces(t *testing.T) {
	for n := range 20 {
		for k := range n + 1 {
			want := queue(append(numbered(n), 333), takers(k)...)
			checkPut(t, queue(numbered(n), takers(k)...), 333, want, true)
			checkPut(t, queue(slices.Repeat([]int{333}, n), takers(k)...), 333, queue(slices.Repeat([]int{333}, n+1), takers(k)...), true)
		}
	}
	for k := range 21 {
		full := queue(numbered(20), takers(k)...)
		checkPut(t, full, 333, full, false)
		checkPut(t, full, 0, full, false)
		checkPut(t, full, -1, impl.Queue{}, false)
		checkPut(t, full, 1000, impl.Queue{}, false)
	}
}

// TestQueueTakeExamples takes the items of a queue one by one, by each consumer.
func TestQueueTakeExamples(t *testing.T) {
	items := []int{7, 999, 0, 7, 7, 12}
	q := queue(items)
	q = checkTake(t, q, 2, queue(items, 2), 7, true)
	q = checkTake(t, q, 0, queue(items, 2, 0), 999, true)
	q = checkTake(t, q, 0, queue(items, 2, 0, 0), 0, true)
	q = checkTake(t, q, 3, queue(items, 2, 0, 0, 3), 7, true)
	q = checkTake(t, q, 2, queue(items, 2, 0, 0, 3, 2), 7, true)
	checkOwn(t, q, 0, 999, 0)
	checkOwn(t, q, 1)
	checkOwn(t, q, 2, 7, 7)
	checkOwn(t, q, 3, 7)
	checkLeft(t, q, 12)
	q = checkTake(t, q, 1, queue(items, 2, 0, 0, 3, 2, 1), 12, true)
	checkOwn(t, q, 1, 12)
	checkLeft(t, q)
	for consumer := range 4 {
		checkTake(t, q, consumer, q, 0, false)
	}
	q = checkPut(t, q, 0, queue([]int{7, 999, 0, 7, 7, 12, 0}, 2, 0, 0, 3, 2, 1), true)
	// The item 0 is not the 0 of a take that fails.
	checkTake(t, q, 3, queue([]int{7, 999, 0, 7, 7, 12, 0}, 2, 0, 0, 3, 2, 1, 3), 0, true)
}

// TestQueueTakePlaces has queues with each number of items, of which each number was taken, and each consumer.
func TestQueueTakePlaces(t *testing.T) {
	for n := range 21 {
		items := numbered(n)
		for k := range n + 1 {
			for consumer := range 4 {
				q := queue(items, takers(k)...)
				if k == n {
					checkTake(t, q, consumer, q, 0, false)
				} else {
					checkTake(t, q, consumer, queue(items, append(takers(k), consumer)...), items[k], true)
				}
			}
		}
	}
}

// TestQueueTakeNobody has consumers that do not exist, for queues with and without items left.
func TestQueueTakeNobody(t *testing.T) {
	for _, q := range []impl.Queue{{}, queue([]int{7}), queue([]int{7}, 0), queue(numbered(20)), queue(numbered(20), takers(19)...), queue(numbered(20), takers(20)...)} {
		for consumer := -20; consumer <= 40; consumer++ {
			want, item, ok := wantedTake(q, consumer)
			if consumer < 0 || consumer > 3 {
				want, item, ok = impl.Queue{}, 0, false
			}
			checkTake(t, q, consumer, want, item, ok)
		}
		for _, consumer := range noConsumers {
			checkTake(t, q, consumer, impl.Queue{}, 0, false)
		}
	}
}

// TestQueueOfExamples has consumers that have taken nothing, some, and all of what was taken, of which nothing, some or all was.
func TestQueueOfExamples(t *testing.T) {
	items := []int{5, 3, 5, 8}
	for _, x := range []struct {
		taken []int
		own   [4][]int
		left  []int
	}{
		{nil, [4][]int{}, []int{5, 3, 5, 8}},
		{[]int{1}, [4][]int{1: {5}}, []int{3, 5, 8}},
		{[]int{0, 3}, [4][]int{0: {5}, 3: {3}}, []int{5, 8}},
		{[]int{2, 2}, [4][]int{2: {5, 3}}, []int{5, 8}},
		{[]int{3, 0, 3}, [4][]int{0: {3}, 3: {5, 5}}, []int{8}},
		{[]int{0, 0, 0, 0}, [4][]int{0: {5, 3, 5, 8}}, nil},
		{[]int{3, 3, 3, 3}, [4][]int{3: {5, 3, 5, 8}}, nil},
		{[]int{3, 2, 1, 0}, [4][]int{{8}, {5}, {3}, {5}}, nil},
		{[]int{1, 2, 2, 1}, [4][]int{1: {5, 8}, 2: {3, 5}}, nil},
	} {
		q := queue(items, x.taken...)
		for consumer, own := range x.own {
			checkOwn(t, q, consumer, own...)
		}
		checkLeft(t, q, x.left...)
	}
}

// TestQueueOfNobody checks that consumers that do not exist have taken nothing.
func TestQueueOfNobody(t *testing.T) {
	for _, q := range []impl.Queue{{}, queue(numbered(4)), queue(numbered(4), 0, 3), queue(numbered(4), 3, 2, 1, 0), queue(numbered(20), slices.Repeat([]int{0}, 20)...), queue(numbered(20), slices.Repeat([]int{3}, 20)...)} {
		for _, consumer := range noConsumers {
			checkOwn(t, q, consumer)
		}
	}
}

// TestQueueOfPlaces has one consumer at each place among others.
func TestQueueOfPlaces(t *testing.T) {
	for n := 1; n <= 20; n++ {
		items := numbered(n)
		for k := 1; k <= n; k++ {
			for at := range k {
				for consumer := range 4 {
					other := (consumer + 1 + at%3) % 4
					q := queue(items, withAt(slices.Repeat([]int{other}, k), at, consumer)...)
					checkOwn(t, q, consumer, items[at])
					checkOwn(t, q, other, slices.Delete(slices.Clone(items[:k]), at, at+1)...)
					checkLeft(t, q, items[k:]...)
				}
			}
		}
	}
}

// TestQueueNothingLeft has queues without items left: one that is empty, some whose items were all taken, and a full one whose items were all taken.
func TestQueueNothingLeft(t *testing.T) {
	for _, none := range [][]int{nil, {}} {
		empty := impl.Queue{Items: none, Taken: none}
		checkQueueValid(t, empty, true)
		checkLeft(t, empty)
		for consumer := -1; consumer <= 4; consumer++ {
			checkOwn(t, empty, consumer)
			checkTake(t, empty, consumer, impl.Queue{}, 0, false)
		}
		checkPut(t, empty, 5, queue([]int{5}), true)
		checkPut(t, empty, -1, impl.Queue{}, false)
	}
	for n := range 21 {
		items, taken := numbered(n), takers(n)
		q := queue(items, taken...)
		checkQueueAsSaid(t, q)
		checkLeft(t, q)
		for consumer := range 4 {
			checkTake(t, q, consumer, q, 0, false)
		}
		if n == 20 {
			checkPut(t, q, 5, q, false)
			continue
		}
		for consumer := range 4 {
			one := checkPut(t, q, 5, queue(append(numbered(n), 5), taken...), true)
			checkLeft(t, one, 5)
			one = checkTake(t, one, consumer, queue(append(numbered(n), 5), append(takers(n), consumer)...), 5, true)
			checkLeft(t, one)
			checkOwn(t, one, consumer, append(wantedOwn(q, consumer), 5)...)
			checkTake(t, one, 3-consumer, one, 0, false)
		}
	}
}

// TestQueueIsAsSaid compares all functions with the document's words.
func TestQueueIsAsSaid(t *testing.T) {
	for _, q := range validQueues() {
		checkQueueAsSaid(t, q)
	}
}

// plainQueue is a queue as plain lists: what was put, what is left, who has taken, and what each one has.
type plainQueue struct {
	put, left, taken []int
	own              [4][]int
}

// stepPut puts an item into a queue and into the plain one, and compares them.
func stepPut(t *testing.T, q impl.Queue, p plainQueue, item int) (impl.Queue, plainQueue) {
	t.Helper()
	if len(p.put) == 20 {
		return checkPut(t, q, item, queue(p.put, p.taken...), false), p
	}
	p.put, p.left = slices.Concat(p.put, []int{item}), slices.Concat(p.left, []int{item})
	q = checkPut(t, q, item, queue(p.put, p.taken...), true)
	checkPlain(t, q, p)
	return q, p
}

// stepTake lets a consumer take an item of a queue and of the plain one, and compares them.
func stepTake(t *testing.T, q impl.Queue, p plainQueue, consumer int) (impl.Queue, plainQueue) {
	t.Helper()
	if len(p.left) == 0 {
		return checkTake(t, q, consumer, queue(p.put, p.taken...), 0, false), p
	}
	item := p.left[0]
	p.left, p.taken = p.left[1:], slices.Concat(p.taken, []int{consumer})
	p.own[consumer] = slices.Concat(p.own[consumer], []int{item})
	q = checkTake(t, q, consumer, queue(p.put, p.taken...), item, true)
	checkPlain(t, q, p)
	return q, p
}

// checkPlain checks that a queue is the plain one.
func checkPlain(t *testing.T, q impl.Queue, p plainQueue) {
	t.Helper()
	checkQueueValid(t, q, true)
	checkLeft(t, q, p.left...)
	sum := len(impl.QueueLeft(q))
	for consumer, own := range p.own {
		checkOwn(t, q, consumer, own...)
		sum += len(impl.QueueOf(q, consumer))
	}
	if sum != len(p.put) {
		t.Errorf("%v has %d items", q, sum)
	}
}

// TestQueueSequencesAll performs all sequences of up to six puts and takes; several sequences go on from the same queue.
func TestQueueSequencesAll(t *testing.T) {
	var goOn func(q impl.Queue, p plainQueue, steps int)
	goOn = func(q impl.Queue, p plainQueue, steps int) {
		if steps == 6 {
			return
		}
		after, plain := stepPut(t, q, p, (steps*367+7)%1000)
		goOn(after, plain, steps+1)
		for consumer := range 4 {
			after, plain := stepTake(t, q, p, consumer)
			goOn(after, plain, steps+1)
		}
	}
	goOn(impl.Queue{}, plainQueue{}, 0)
}

// TestQueueSequences performs long sequences of puts and takes by changing consumers, and takes what is left in the end: each item that was put is taken exactly once, in the order in which it was put.
func TestQueueSequences(t *testing.T) {
	r := rand.New(rand.NewPCG(32, 2))
	full, empty := 0, 0
	for i := range 400 {
		q, p := impl.Queue{}, plainQueue{}
		order := []int{}
		for step := range 80 {
			consumer := r.IntN(4)
			before := len(p.taken)
			if r.IntN(100) < []int{20, 40, 60, 90}[i%4] {
				if len(p.put) == 20 {
					full++
				}
				q, p = stepPut(t, q, p, (step*13+i*7)%1000)
			} else {
				if len(p.left) == 0 {
					empty++
				}
				q, p = stepTake(t, q, p, consumer)
			}
			if len(p.taken) > before {
				order = append(order, p.put[before])
			}
		}
		for len(p.left) > 0 {
			order = append(order, p.left[0])
			q, p = stepTake(t, q, p, r.IntN(4))
		}
		if !slices.Equal(order, q.Items) {
			t.Errorf("%v were put, and %v were taken", q.Items, order)
		}
		checkTake(t, q, 0, q, 0, false)
	}
	if full < 1000 || empty < 1000 {
		t.Errorf("only %d puts into a full queue, and %d takes from one without items left", full, empty)
	}
}

// TestQueueSameAtEachCall repeats calls, with calls for other queues in between, and calls at the same time.
func TestQueueSameAtEachCall(t *testing.T) {
	for i, q := range validQueues() {
		if i%20 != 0 {
			continue
		}
		for range 5 {
			checkQueueAsSaid(t, q)
			checkPut(t, queue([]int{1, 2}, 3), 4, queue([]int{1, 2, 4}, 3), true)
			checkTake(t, queue([]int{1, 2}, 3), 0, queue([]int{1, 2}, 3, 0), 2, true)
		}
	}
	var group sync.WaitGroup
	for start := range 8 {
		group.Go(func() {
			for i, q := range validQueues() {
				if i%50 == start {
					checkQueueAsSaid(t, q)
				}
			}
		})
	}
	group.Wait()
}

// everyPut calls f for each valid queue with each of some items, among them those of the queue.
func everyPut(f func(q impl.Queue, item int)) {
	for _, q := range validQueues() {
		items := slices.Clone(someItems)
		for _, at := range placesOf(q.Items) {
			items = append(items, q.Items[at])
		}
		for _, item := range items {
			f(q, item)
		}
	}
}

// everyTake calls f for each valid queue with each consumer.
func everyTake(f func(q impl.Queue, consumer int)) {
	for _, q := range validQueues() {
		for consumer := range 4 {
			f(q, consumer)
		}
	}
}

// TestP123 checks that an item that is put is the last one that was not taken, and that nothing else changes.
func TestP123(t *testing.T) {
	puts := 0
	everyPut(func(q impl.Queue, item int) {
		got, ok := impl.QueuePut(q, item)
		if !ok {
			return
		}
		puts++
		checkLeft(t, got, append(impl.QueueLeft(q), item)...)
		if !slices.Equal(got.Items, append(slices.Clone(q.Items), item)) || !slices.Equal(got.Taken, q.Taken) {
			t.Errorf("QueuePut(%v, %d) = %v", q, item, got)
		}
		for consumer := range 4 {
			checkOwn(t, got, consumer, impl.QueueOf(q, consumer)...)
		}
	})
	if puts < 10000 {
		t.Errorf("only %d puts succeed", puts)
	}
}

// TestP124 checks that QueuePut fails for a full queue only, and that nothing changes then.
func TestP124(t *testing.T) {
	fails := 0
	everyPut(func(q impl.Queue, item int) {
		got, ok := impl.QueuePut(q, item)
		if ok == (len(q.Items) == 20) {
			t.Errorf("QueuePut(%v, %d) returns %v", q, item, ok)
		}
		if !ok {
			fails++
			if !sameQueue(got, q) {
				t.Errorf("QueuePut(%v, %d) fails and returns %v", q, item, got)
			}
		}
	})
	if fails < 500 {
		t.Errorf("only %d puts fail", fails)
	}
}

// TestP125 checks that QueueTake gives the first item that was not taken, which is not left then, and is the last one of the consumer.
func TestP125(t *testing.T) {
	takes := 0
	everyTake(func(q impl.Queue, consumer int) {
		got, item, ok := impl.QueueTake(q, consumer)
		if !ok {
			return
		}
		takes++
		left := impl.QueueLeft(q)
		if item != left[0] {
			t.Errorf("QueueTake(%v, %d) gives %d", q, consumer, item)
		}
		checkLeft(t, got, left[1:]...)
		checkOwn(t, got, consumer, append(impl.QueueOf(q, consumer), item)...)
	})
	if takes < 3000 {
		t.Errorf("only %d takes succeed", takes)
	}
}

// TestP126 checks that what one consumer takes does not change what others have, whether it succeeds or not.
func TestP126(t *testing.T) {
	having := 0
	everyTake(func(q impl.Queue, consumer int) {
		got, _, _ := impl.QueueTake(q, consumer)
		for other := range 4 {
			if other != consumer {
				own := impl.QueueOf(q, other)
				having += len(own)
				checkOwn(t, got, other, own...)
			}
		}
	})
	if having < 10000 {
		t.Errorf("the others have only %d items", having)
	}
}

// TestP127 checks that QueueTake fails where no item is left only, and that nothing changes then.
func TestP127(t *testing.T) {
	fails := 0
	everyTake(func(q impl.Queue, consumer int) {
		got, item, ok := impl.QueueTake(q, consumer)
		if ok != (len(impl.QueueLeft(q)) > 0) {
			t.Errorf("QueueTake(%v, %d) returns %v", q, consumer, ok)
		}
		if !ok {
			fails++
			if item != 0 || !sameQueue(got, q) {
				t.Errorf("QueueTake(%v, %d) fails and returns %v, %d", q, consumer, got, item)
			}
		}
	})
	if fails < 1000 {
		t.Errorf("only %d takes fail", fails)
	}
}

// TestP128 checks that each item is either one that exactly one consumer has, or one that is left.
func TestP128(t *testing.T) {
	for _, q := range validQueues() {
		all := impl.QueueLeft(q)
		for consumer := range 4 {
			all = append(all, impl.QueueOf(q, consumer)...)
		}
		if len(all) != len(q.Items) {
			t.Errorf("the items of %v that somebody has or that are left are %d", q, len(all))
		}
		slices.Sort(all)
		if !slices.Equal(all, slices.Sorted(slices.Values(q.Items))) {
			t.Errorf("the items of %v that somebody has or that are left are %v", q, all)
		}
	}
}

// TestP129 checks that the items of a consumer are those that it was given by QueueTake, one after the other.
func TestP129(t *testing.T) {
	given := 0
	for _, x := range validQueues() {
		q := queue(x.Items)
		var own [4][]int
		for _, consumer := range x.Taken {
			after, item, ok := impl.QueueTake(q, consumer)
			if !ok {
				t.Fatalf("QueueTake(%v, %d) fails", q, consumer)
			}
			q, own[consumer] = after, append(own[consumer], item)
			given++
		}
		if !sameQueue(q, x) {
			t.Errorf("the takes lead to %v, not to %v", q, x)
		}
		for consumer := range 4 {
			checkOwn(t, x, consumer, own[consumer]...)
		}
	}
	if given < 8000 {
		t.Errorf("only %d items were taken", given)
	}
}

// TestP130 checks that no item is left after as many takes as items were left, by the same or by changing consumers, and that one more fails.
func TestP130(t *testing.T) {
	r := rand.New(rand.NewPCG(32, 3))
	for i, x := range validQueues() {
		q, n := x, len(impl.QueueLeft(x))
		for range n {
			consumer := i % 5
			if consumer == 4 {
				consumer = r.IntN(4)
			}
			after, _, ok := impl.QueueTake(q, consumer)
			if !ok {
				t.Fatalf("QueueTake(%v, %d) fails", q, consumer)
			}
			q = after
		}
		checkLeft(t, q)
		for consumer := range 4 {
			checkTake(t, q, consumer, q, 0, false)
		}
	}
}

// TestP131 checks that two items that are put into a queue without items left are taken in their order.
func TestP131(t *testing.T) {
	pairs := 0
	for _, x := range validQueues() {
		if len(impl.QueueLeft(x)) > 0 || len(x.Items) > 18 {
			continue
		}
		for i, first := range someItems {
			second := someItems[(i*5+len(x.Items))%len(someItems)]
			q, putFirst := impl.QueuePut(x, first)
			q, putSecond := impl.QueuePut(q, second)
			q, gotFirst, takenFirst := impl.QueueTake(q, i%4)
			q, gotSecond, takenSecond := impl.QueueTake(q, len(x.Items)%4)
			if !putFirst || !putSecond || !takenFirst || !takenSecond || gotFirst != first || gotSecond != second {
				t.Errorf("%d and %d were put into %v, and %d and %d taken", first, second, x, gotFirst, gotSecond)
			}
			checkLeft(t, q)
			pairs++
		}
	}
	if pairs < 5000 {
		t.Errorf("only %d pairs were put", pairs)
	}
}

// TestP132 checks that what is left is the end of the items, without as many as were taken.
func TestP132(t *testing.T) {
	for _, q := range validQueues() {
		left := impl.QueueLeft(q)
		if len(left) != len(q.Items)-len(q.Taken) || !slices.Equal(slices.Concat(q.Items[:len(q.Taken)], left), q.Items) {
			t.Errorf("QueueLeft(%v) = %v", q, left)
		}
	}
}

// roomyQueue returns a copy of a queue with space behind its lists.
func roomyQueue(q impl.Queue) impl.Queue {
	return queue(roomy(q.Items, 77), roomy(q.Taken, 77)...)
}

// wholeQueue returns what is in the memory of a queue, as text.
func wholeQueue(q impl.Queue) string {
	return fmt.Sprint(len(q.Items), "/", whole(q.Items), "/", len(q.Taken), "/", whole(q.Taken))
}

// queueResults returns what all functions return for a queue.
func queueResults(q impl.Queue) [][]int {
	impl.QueueValid(q)
	results := [][]int{impl.QueueLeft(q)}
	for _, item := range []int{5, 999, -1} {
		put, _ := impl.QueuePut(q, item)
		results = append(results, put.Items, put.Taken)
	}
	for consumer := -1; consumer <= 4; consumer++ {
		taken, _, _ := impl.QueueTake(q, consumer)
		results = append(results, taken.Items, taken.Taken, impl.QueueOf(q, consumer))
	}
	return results
}

// checkQueueMemory checks that the functions leave their argument, and what is behind its lists, and that a result shares memory neither with the argument nor with another result, of this call or of another one.
func checkQueueMemory(t *testing.T, q impl.Queue) {
	t.Helper()
	before := wholeQueue(q)
	first, second := queueResults(q), queueResults(q)
	// The results are compared without the space behind them, which they may have.
	want := fmt.Sprint(second)
	for _, list := range first {
		overwrite(list)
	}
	if wholeQueue(q) != before {
		t.Fatalf("an argument was changed: %s", before)
	}
	if fmt.Sprint(second) != want {
		t.Fatalf("the results of two calls share memory: %s", before)
	}
	overwrite(q.Items)
	overwrite(q.Taken)
	if fmt.Sprint(second) != want {
		t.Fatalf("a result shares memory with an argument: %s", before)
	}
	for i, list := range second {
		rest := slices.Delete(slices.Clone(second), i, i+1)
		want := fmt.Sprint(rest)
		overwrite(list)
		if fmt.Sprint(rest) != want {
			t.Fatalf("the results of one call share memory: %s", before)
		}
	}
}

// TestQueueMemory has valid and invalid queues, with and without space behind their lists.
func TestQueueMemory(t *testing.T) {
	for i, q := range slices.Concat(validQueues(), badQueues()) {
		if i%5 > 0 && (len(q.Items) < 19 || i >= len(validQueues())) || len(q.Items) > 50 || len(q.Taken) > 50 {
			continue
		}
		checkQueueMemory(t, roomyQueue(q))
		checkQueueMemory(t, queue(slices.Clone(q.Items), slices.Clone(q.Taken)...))
		checkQueueMemory(t, queue(roomy(q.Items, 77), slices.Clone(q.Taken)...))
		checkQueueMemory(t, queue(slices.Clone(q.Items), roomy(q.Taken, 77)...))
	}
}

// TestQueueSharedArgument has queues whose lists share memory: both are the same one, or one stands behind the other.
func TestQueueSharedArgument(t *testing.T) {
	for n := range 5 {
		for at := range n + 1 {
			for _, space := range []bool{false, true} {
				numbers := []int{3, 0, 2, 1}[:n]
				if space {
					numbers = roomy(numbers, 77)
				}
				for _, q := range []impl.Queue{{Items: numbers, Taken: numbers[:at]}, {Items: numbers, Taken: numbers[at:]}, {Items: numbers[:at], Taken: numbers[at:]}, {Items: numbers[at:], Taken: numbers[:at]}} {
					before := whole(numbers)
					if len(q.Taken) > len(q.Items) {
						checkNoQueue(t, q)
					} else {
						checkQueueAsSaid(t, q)
					}
					if whole(numbers) != before {
						t.Fatalf("the numbers have become %v", numbers)
					}
				}
			}
		}
	}
	numbers := []int{3, 0, 2, 1}
	q := checkPut(t, impl.Queue{Items: numbers, Taken: numbers}, 2, queue([]int{3, 0, 2, 1, 2}, 3, 0, 2, 1), true)
	q.Items[0] = 500
	if !slices.Equal(q.Taken, []int{3, 0, 2, 1}) || !slices.Equal(numbers, []int{3, 0, 2, 1}) {
		t.Errorf("the lists are %v and %v", q.Taken, numbers)
	}
}

// TestQueueSpareSpace checks that what follows from the same queue twice does not overwrite each other, also where the queue is returned unchanged.
func TestQueueSpareSpace(t *testing.T) {
	q := checkPut(t, queue([]int{5}), 6, queue([]int{5, 6}), true)
	one := checkPut(t, q, 7, queue([]int{5, 6, 7}), true)
	other := checkPut(t, q, 8, queue([]int{5, 6, 8}), true)
	first := checkTake(t, one, 1, queue([]int{5, 6, 7}, 1), 5, true)
	second := checkTake(t, one, 2, queue([]int{5, 6, 7}, 2), 5, true)
	third := checkTake(t, first, 3, queue([]int{5, 6, 7}, 1, 3), 6, true)
	fourth := checkTake(t, first, 0, queue([]int{5, 6, 7}, 1, 0), 6, true)
	for i, x := range []impl.Queue{q, one, other, first, second, third, fourth} {
		want := []impl.Queue{queue([]int{5, 6}), queue([]int{5, 6, 7}), queue([]int{5, 6, 8}), queue([]int{5, 6, 7}, 1), queue([]int{5, 6, 7}, 2), queue([]int{5, 6, 7}, 1, 3), queue([]int{5, 6, 7}, 1, 0)}[i]
		if !sameQueue(x, want) {
			t.Errorf("queue %d has become %v, not %v", i, x, want)
		}
	}
	full := roomyQueue(queue(numbered(20), takers(20)...))
	put := checkPut(t, full, 5, full, false)
	take := checkTake(t, full, 1, full, 0, false)
	put.Items[3], put.Taken[4], take.Items[5], take.Taken[6] = 888, 88, 888, 88
	if !sameQueue(full, queue(numbered(20), takers(20)...)) {
		t.Errorf("the full queue has become %v", full)
	}
	if !sameQueue(take, queue(withAt(numbered(20), 5, 888), withAt(takers(20), 6, 88)...)) {
		t.Errorf("the queue that QueueTake returns has become %v", take)
	}
}

// TestQueueNil checks that a nil slice, as an argument, is an empty one.
func TestQueueNil(t *testing.T) {
	for _, none := range [][]int{nil, {}} {
		q := impl.Queue{Items: []int{5}, Taken: none}
		checkQueueAsSaid(t, q)
		checkTake(t, q, 2, queue([]int{5}, 2), 5, true)
		checkPut(t, q, 6, queue([]int{5, 6}), true)
		checkOwn(t, q, 0)
		checkLeft(t, q, 5)
		checkQueueAsSaid(t, impl.Queue{Items: none, Taken: none})
		checkNoQueue(t, impl.Queue{Items: none, Taken: []int{0}})
	}
	checkQueueAsSaid(t, impl.Queue{Items: nil, Taken: []int{}})
	checkQueueAsSaid(t, impl.Queue{Items: []int{}, Taken: nil})
}
