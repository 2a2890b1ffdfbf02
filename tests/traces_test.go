package tests

import (
	"fmt"
	"math/rand/v2"
	"slices"
	"sync"
	"testing"

	"loop.example/groupmulticast/impl"
)

// isTrace reports whether a list has different messages, as the document says.
func isTrace(list []int) bool {
	for i, message := range list {
		if message < 0 || message > 11 || slices.Contains(list[:i], message) {
			return false
		}
	}
	return true
}

// areTraces returns what the document says of TracesValid.
func areTraces(traces [][]int) bool {
	return len(traces) <= 6 && !slices.ContainsFunc(traces, func(trace []int) bool { return !isTrace(trace) })
}

// allTold returns the messages of traces, each once, ascending.
func allTold(traces [][]int) []int {
	list := slices.Concat(traces...)
	slices.Sort(list)
	return slices.Compact(list)
}

// toldNext reports whether some trace tells b right after a.
func toldNext(traces [][]int, a, b int) bool {
	return slices.ContainsFunc(traces, func(trace []int) bool {
		i := slices.Index(trace, a)
		return i >= 0 && i+1 < len(trace) && trace[i+1] == b
	})
}

// wantedOrder returns what the document says of TraceOrder of valid traces, with its words.
func wantedOrder(traces [][]int) ([]int, bool) {
	order, remaining := []int{}, allTold(traces)
	for len(remaining) > 0 {
		i := slices.IndexFunc(remaining, func(b int) bool {
			return !slices.ContainsFunc(remaining, func(a int) bool { return toldNext(traces, a, b) })
		})
		if i < 0 {
			return nil, false
		}
		order = append(order, remaining[i])
		remaining = slices.Delete(remaining, i, i+1)
	}
	return order, true
}

// follows reports whether all messages of a trace are in an order, in the same sequence.
func follows(trace, order []int) bool {
	last := -1
	for _, message := range trace {
		place := slices.Index(order, message)
		if place <= last {
			return false
		}
		last = place
	}
	return true
}

// cyclesOf returns all cycles of n messages that start with their smallest one, those with smaller messages first.
func cyclesOf(traces [][]int, n int) [][]int {
	cycles := [][]int{}
	var extend func(path []int)
	extend = func(path []int) {
		last := path[len(path)-1]
		if len(path) == n {
			if toldNext(traces, last, path[0]) {
				cycles = append(cycles, slices.Clone(path))
			}
			return
		}
		for _, next := range allTold(traces) {
			if next > path[0] && !slices.Contains(path, next) && toldNext(traces, last, next) {
				extend(append(slices.Clone(path), next))
			}
		}
	}
	for _, first := range allTold(traces) {
		extend([]int{first})
	}
	return cycles
}

// shortestCycles returns the cycles of the smallest number of messages, those with smaller messages first.
func shortestCycles(traces [][]int) [][]int {
	for n := 2; n <= impl.MaxMessages; n++ {
		if cycles := cyclesOf(traces, n); len(cycles) > 0 {
			return cycles
		}
	}
	return nil
}

// wantedCycle returns what the document says of TraceCycle of valid traces. A breadth-first search that visits messages in ascending order reaches each of them on that one of the shortest ways on which the messages are smaller where the ways part; so it is the first of the shortest cycles.
func wantedCycle(traces [][]int) []int {
	if cycles := shortestCycles(traces); len(cycles) > 0 {
		return cycles[0]
	}
	return nil
}

// partOf returns messages of a list, a part of percent, in its sequence.
func partOf(r *rand.Rand, list []int, percent int) []int {
	part := []int{}
	for _, x := range list {
		if r.IntN(100) < percent {
			part = append(part, x)
		}
	}
	return part
}

// randomTraces returns n traces of k messages: parts of one order, with some exchanges.
func randomTraces(r *rand.Rand, n, k, percent, exchanges int) [][]int {
	order := r.Perm(impl.MaxMessages)[:k]
	traces := [][]int{}
	for range n {
		traces = append(traces, partOf(r, order, percent))
	}
	for range exchanges {
		trace := traces[r.IntN(n)]
		if len(trace) > 1 {
			i := 1 + r.IntN(len(trace)-1)
			trace[i-1], trace[i] = trace[i], trace[i-1]
		}
	}
	return traces
}

// ringTraces returns n traces, at least two, that tell k messages round a cycle: each starts with the last message of the previous one, and the first one with that of the last.
func ringTraces(r *rand.Rand, n, k int) [][]int {
	ring := r.Perm(impl.MaxMessages)[:k]
	traces := [][]int{}
	from := 0
	for i := range n {
		to := k * (i + 1) / n
		piece := []int{}
		for place := from; place <= to; place++ {
			piece = append(piece, ring[place%k])
		}
		traces = append(traces, piece)
		from = to
	}
	return traces
}

// ringOf returns the messages of such traces, from the second one on.
func ringOf(traces [][]int) []int {
	ring := []int{}
	for _, trace := range traces {
		ring = append(ring, trace[1:]...)
	}
	return ring
}

// layeredTraces returns n traces that go round k layers of messages, each through any message of a layer, so that there are many cycles of k messages.
func layeredTraces(r *rand.Rand, n, k int) [][]int {
	layers := make([][]int, k)
	for i, message := range r.Perm(impl.MaxMessages) {
		layers[i%k] = append(layers[i%k], message)
	}
	traces := [][]int{}
	for range n {
		trace := []int{}
		for layer := r.IntN(k); ; layer = (layer + 1) % k {
			message := layers[layer][r.IntN(len(layers[layer]))]
			if slices.Contains(trace, message) {
				break
			}
			trace = append(trace, message)
		}
		traces = append(traces, trace)
	}
	return traces
}

// smallTraces are all lists of at most three traces of three messages, and all that tell, with two messages each, up to six of the pairs of four messages.
func smallTraces() [][][]int {
	lists := [][][]int{nil, {}}
	three := partsOf([]int{0, 5, 11})
	for _, a := range three {
		lists = append(lists, [][]int{a})
		for _, b := range three {
			lists = append(lists, [][]int{a, b})
			for _, c := range three {
				lists = append(lists, [][]int{a, b, c})
			}
		}
	}
	pairs := [][]int{}
	for _, part := range partsOf([]int{0, 3, 8, 11}) {
		if len(part) == 2 {
			pairs = append(pairs, part)
		}
	}
	for bits := range 1 << len(pairs) {
		list := [][]int{}
		for i, pair := range pairs {
			if bits>>i&1 == 1 {
				list = append(list, pair)
			}
		}
		if len(list) <= impl.MaxTraces {
			lists = append(lists, list)
		}
	}
	return lists
}

// partsOf returns all lists of different ones of some numbers.
func partsOf(numbers []int) [][]int {
	lists := [][]int{{}}
	for i := 0; i < len(lists); i++ {
		for _, x := range numbers {
			if !slices.Contains(lists[i], x) {
				lists = append(lists, append(slices.Clone(lists[i]), x))
			}
		}
	}
	return lists
}

// validTraces are valid lists of traces, always the same: small ones, and those with orders and cycles of all lengths.
var validTraces = sync.OnceValue(func() [][][]int {
	lists := smallTraces()
	r := rand.New(rand.NewPCG(25, 26))
	for n := 1; n <= impl.MaxTraces; n++ {
		for k := 1; k <= impl.MaxMessages; k++ {
			for _, percent := range []int{30, 60, 100} {
				for _, exchanges := range []int{0, 0, 1, 2, 5} {
					lists = append(lists, randomTraces(r, n, k, percent, exchanges), randomTraces(r, n, k, percent, exchanges))
				}
			}
			if n < 2 || k < n {
				continue
			}
			for range 20 {
				ring := ringTraces(r, n, k)
				lists = append(lists, ring, ring[1:], layeredTraces(r, n, min(k, 6)))
				if n < impl.MaxTraces {
					lists = append(lists, append(slices.Clone(ring), partOf(r, ringOf(ring), 60)))
				}
			}
		}
	}
	return lists
})

// orderedTraces are those of the valid traces for which there is an order.
var orderedTraces = sync.OnceValue(func() [][][]int {
	lists := [][][]int{}
	for _, traces := range validTraces() {
		if _, ok := wantedOrder(traces); ok {
			lists = append(lists, traces)
		}
	}
	return lists
})

// badTraces are invalid lists of traces: a bad trace in each place, between others, and too many. Without the invalid part they have an order, or a cycle.
var badTraces = sync.OnceValue(func() [][][]int {
	lists := [][][]int{}
	bad := badTraceLists()
	for _, others := range [][][]int{{}, {{1, 2}}, {{}, {2, 3}, {}}, {{1, 2}, {2, 1}}, {{4, 2, 3}, {2, 4}, {0}, {7, 8}, {8, 9}}} {
		for place := range len(others) + 1 {
			for _, trace := range bad {
				lists = append(lists, slices.Insert(slices.Clone(others), place, trace))
			}
		}
	}
	for _, n := range []int{7, 8, 12, 13, 64, 1000} {
		for _, trace := range [][]int{nil, {1}, {11, 0, 3}} {
			lists = append(lists, slices.Repeat([][]int{trace}, n))
		}
		lists = append(lists, append(slices.Repeat([][]int{{2, 9}}, n-1), []int{9, 2}))
		lists = append(lists, append([][]int{{2, 9}, {9, 2}}, slices.Repeat([][]int{{}}, n-2)...))
	}
	return lists
})

// badTraceLists are lists that are not traces: with a message twice, at the beginning, apart and at the end, and with a number that is no message at each place.
func badTraceLists() [][]int {
	lists := [][]int{{0, 0}, {3, 3}, {11, 11}, {0, 0, 1}, {5, 1, 5}, {0, 1, 1}, {11, 0, 11}, {6, 6, 6}, {1, 2, 3, 4, 1}, {1, 2, 3, 2, 4}, {1, 2, 3, 4, 4}, {1, 1, 2, 3, 4}, {0, 1, 2, 3, 4, 5, 6, 7, 8, 9, 10, 11, 0}, {11, 10, 9, 8, 7, 6, 5, 4, 3, 2, 1, 0, 0}, slices.Repeat([]int{2}, 1000)}
	for _, number := range noMessages {
		lists = append(lists, []int{number}, []int{number, 0}, []int{0, number}, []int{4, number, 6}, []int{number, number}, []int{11, 10, number})
	}
	return lists
}

// checkOrder checks TraceOrder of traces for which there is an order.
func checkOrder(t *testing.T, traces [][]int, want ...int) {
	t.Helper()
	if got, ok := impl.TraceOrder(traces); !ok || !slices.Equal(got, want) {
		t.Errorf("TraceOrder(%v) = %v, %v, not %v", traces, got, ok, want)
	}
	if got := impl.TraceCycle(traces); len(got) != 0 {
		t.Errorf("TraceCycle(%v) = %v, but there is an order", traces, got)
	}
}

// checkCycle checks TraceCycle of traces for which there is no order.
func checkCycle(t *testing.T, traces [][]int, want ...int) {
	t.Helper()
	if got := impl.TraceCycle(traces); !slices.Equal(got, want) {
		t.Errorf("TraceCycle(%v) = %v, not %v", traces, got, want)
	}
	if got, ok := impl.TraceOrder(traces); ok || len(got) != 0 {
		t.Errorf("TraceOrder(%v) = %v, %v, but there is a cycle", traces, got, ok)
	}
}

// checkAsSaid checks TraceOrder and TraceCycle of valid traces.
func checkAsSaid(t *testing.T, traces [][]int) {
	t.Helper()
	if !impl.TracesValid(traces) {
		t.Errorf("TracesValid(%v) = false", traces)
	}
	if order, ok := wantedOrder(traces); ok {
		checkOrder(t, traces, order...)
	} else {
		checkCycle(t, traces, wantedCycle(traces)...)
	}
}

// checkBad checks all results for invalid traces.
func checkBad(t *testing.T, traces [][]int) {
	t.Helper()
	if impl.TracesValid(traces) {
		t.Errorf("TracesValid(%v) = true", traces)
	}
	if got, ok := impl.TraceOrder(traces); ok || len(got) != 0 {
		t.Errorf("TraceOrder(%v) = %v, %v", traces, got, ok)
	}
	if got := impl.TraceCycle(traces); len(got) != 0 {
		t.Errorf("TraceCycle(%v) = %v", traces, got)
	}
}

// checkFollows checks TraceFollows.
func checkFollows(t *testing.T, trace, order []int, want bool) {
	t.Helper()
	if got := impl.TraceFollows(trace, order); got != want {
		t.Errorf("TraceFollows(%v, %v) = %v", trace, order, got)
	}
}

func TestTracesConstants(t *testing.T) {
	if impl.MaxTraces != 6 {
		t.Errorf("MaxTraces is %d", impl.MaxTraces)
	}
}

func TestTracesValidExamples(t *testing.T) {
	for _, traces := range [][][]int{
		nil,
		{},
		{nil},
		{{}, {}, nil, {}, {}, {}},
		{{0}},
		{{11}},
		{{0, 11}, {11, 0}},
		{{5}, {5}, {5}, {5}, {5}, {5}},
		{{0, 1, 2, 3, 4, 5, 6, 7, 8, 9, 10, 11}},
		{{11, 10, 9, 8, 7, 6, 5, 4, 3, 2, 1, 0}, {}, {0, 11}},
		slices.Repeat([][]int{{3, 1, 0, 2, 7, 6, 5, 4, 11, 10, 9, 8}}, 6),
	} {
		if !impl.TracesValid(traces) {
			t.Errorf("TracesValid(%v) = false", traces)
		}
		checkAsSaid(t, traces)
	}
}

// TestTracesInvalid checks that invalid traces are refused before anything else is looked at.
func TestTracesInvalid(t *testing.T) {
	for _, traces := range badTraces() {
		if areTraces(traces) {
			t.Fatalf("%v are traces", traces)
		}
		checkBad(t, traces)
	}
}

// TestTracesValidNumbers has each number near the range of messages, alone and beside messages.
func TestTracesValidNumbers(t *testing.T) {
	for number := -70; number <= 140; number++ {
		for _, traces := range [][][]int{{{number}}, {{20 - number, number}}, {{}, {3, number}}, {{number, 3}, {1}}} {
			if impl.TracesValid(traces) != areTraces(traces) {
				t.Errorf("TracesValid(%v) is not %v", traces, areTraces(traces))
			}
		}
	}
}

// TestTracesNumber has as many traces as there may be, and more.
func TestTracesNumber(t *testing.T) {
	for n := range 20 {
		for _, trace := range [][]int{nil, {0}, {4, 2, 9}} {
			traces := slices.Repeat([][]int{trace}, n)
			if n > impl.MaxTraces {
				checkBad(t, traces)
			} else {
				checkAsSaid(t, traces)
			}
		}
		if n > 1 {
			traces := append(slices.Repeat([][]int{{}}, n-2), []int{4, 2}, []int{2, 4})
			if n > impl.MaxTraces {
				checkBad(t, traces)
			} else {
				checkCycle(t, traces, 2, 4)
			}
		}
	}
}

func TestTraceOrderExamples(t *testing.T) {
	// Several messages could be next: the smallest one is.
	checkOrder(t, [][]int{{7}, {3}, {5}}, 3, 5, 7)
	checkOrder(t, [][]int{{8, 9}, {2, 3}, {5, 6}}, 2, 3, 5, 6, 8, 9)
	checkOrder(t, [][]int{{9, 2}, {8, 3}}, 8, 3, 9, 2)
	checkOrder(t, [][]int{{1, 5}, {2, 4}, {3}}, 1, 2, 3, 4, 5)
	// A message becomes possible only after a greater one, and is next at once.
	checkOrder(t, [][]int{{6, 0}, {3, 7}}, 3, 6, 0, 7)
	checkOrder(t, [][]int{{4, 0}, {5}}, 4, 0, 5)
	checkOrder(t, [][]int{{11, 10, 0}, {5, 6}}, 5, 6, 11, 10, 0)
	// It waits for all that are told right before it.
	checkOrder(t, [][]int{{4, 0}, {9, 0}, {6, 0}}, 4, 6, 9, 0)
	checkOrder(t, [][]int{{9, 0}, {4, 0}, {7}}, 4, 7, 9, 0)
	// It is told by one trace alone.
	checkOrder(t, [][]int{{1, 2}, {0, 2}, {10}}, 0, 1, 2, 10)
	checkOrder(t, [][]int{{8, 1}, {8, 4}, {}, {2}}, 2, 8, 1, 4)
	// It is in several traces.
	checkOrder(t, [][]int{{2, 1}, {2, 1}, {2, 1}}, 2, 1)
	checkOrder(t, [][]int{{6, 2, 4}, {2, 4, 1}, {6, 4}, {2}}, 6, 2, 4, 1)
	checkOrder(t, [][]int{{3, 2, 1}, {3, 1}, {2, 1}, {1}, {}}, 3, 2, 1)
	// It is at an end of the range.
	checkOrder(t, [][]int{{0}}, 0)
	checkOrder(t, [][]int{{11}}, 11)
	checkOrder(t, [][]int{{11, 0}}, 11, 0)
	checkOrder(t, [][]int{{0, 11}}, 0, 11)
	checkOrder(t, [][]int{{11, 5}, {0, 5}}, 0, 11, 5)
	checkOrder(t, [][]int{{5, 11}, {5, 0}}, 5, 0, 11)
	// Traces are empty, or there is none.
	checkOrder(t, [][]int{{}, {3, 1}, {}}, 3, 1)
	checkOrder(t, [][]int{nil, {1}, nil, nil, {0}, nil}, 0, 1)
}

// TestTraceOrderAll has all messages: in one trace, each in a trace of few, and with those of an even number before the others.
func TestTraceOrderAll(t *testing.T) {
	ascending := []int{0, 1, 2, 3, 4, 5, 6, 7, 8, 9, 10, 11}
	descending := []int{11, 10, 9, 8, 7, 6, 5, 4, 3, 2, 1, 0}
	checkOrder(t, [][]int{ascending}, ascending...)
	checkOrder(t, [][]int{descending}, descending...)
	checkOrder(t, slices.Repeat([][]int{descending}, 6), descending...)
	checkOrder(t, [][]int{{11, 10}, {9, 8}, {7, 6}, {5, 4}, {3, 2}, {1, 0}}, 1, 0, 3, 2, 5, 4, 7, 6, 9, 8, 11, 10)
	checkOrder(t, [][]int{{0, 6}, {1, 7}, {2, 8}, {3, 9}, {4, 10}, {5, 11}}, ascending...)
	checkOrder(t, [][]int{{6, 0}, {7, 1}, {8, 2}, {9, 3}, {10, 4}, {11, 5}}, 6, 0, 7, 1, 8, 2, 9, 3, 10, 4, 11, 5)
	checkOrder(t, [][]int{{11, 9, 7, 5, 3, 1}, {10, 8, 6, 4, 2, 0}}, 10, 8, 6, 4, 2, 0, 11, 9, 7, 5, 3, 1)
	checkOrder(t, [][]int{{11, 9, 7, 5, 3, 1}, {10, 8, 6, 4, 2, 0}, {1, 10}}, 11, 9, 7, 5, 3, 1, 10, 8, 6, 4, 2, 0)
	checkOrder(t, [][]int{{0, 2, 4, 6, 8, 10}, {1, 3, 5, 7, 9, 11}, {10, 1}}, 0, 2, 4, 6, 8, 10, 1, 3, 5, 7, 9, 11)
	checkOrder(t, [][]int{{11, 0}, {11, 1, 2}, {11, 3, 4}, {11, 5, 6}, {11, 7, 8}, {11, 9, 10}}, 11, 0, 1, 2, 3, 4, 5, 6, 7, 8, 9, 10)
	checkOrder(t, [][]int{{10, 9, 0}, {8, 7, 0}, {6, 5, 0}, {4, 3, 0}, {2, 1, 0}, {11, 0}}, 2, 1, 4, 3, 6, 5, 8, 7, 10, 9, 11, 0)
}

// TestTraceOrderIsFirst checks that the order is the first one of all that the traces follow, where the smaller message counts in the first place that differs.
func TestTraceOrderIsFirst(t *testing.T) {
	for _, traces := range validTraces() {
		told := allTold(traces)
		if len(told) > 5 {
			continue
		}
		var first []int
		permutations(len(told), func(places []int) {
			order := []int{}
			for _, place := range places {
				order = append(order, told[place])
			}
			if first == nil && !slices.ContainsFunc(traces, func(trace []int) bool { return !follows(trace, order) }) {
				first = order
			}
		})
		if first != nil {
			checkOrder(t, traces, first...)
		} else if got, ok := impl.TraceOrder(traces); ok || len(got) != 0 {
			t.Errorf("TraceOrder(%v) = %v, %v", traces, got, ok)
		}
	}
}

// TestTracesAreAsSaid compares all results for valid traces with the words of the document.
func TestTracesAreAsSaid(t *testing.T) {
	orders, cycles := map[int]bool{}, map[int]bool{}
	for _, traces := range validTraces() {
		if !areTraces(traces) {
			t.Fatalf("%v are no traces", traces)
		}
		checkAsSaid(t, traces)
		if order, ok := wantedOrder(traces); ok {
			orders[len(order)] = true
		} else {
			cycles[len(wantedCycle(traces))] = true
		}
	}
	for n := range impl.MaxMessages + 1 {
		if !orders[n] || n > 1 && !cycles[n] {
			t.Errorf("the traces have no order, or no cycle, of %d messages", n)
		}
	}
}

// turned returns a cycle from its smallest message on.
func turned(ring []int) []int {
	at := slices.Index(ring, slices.Min(ring))
	return slices.Concat(ring[at:], ring[:at])
}

// TestTraceCycleLengths has cycles of two messages up to all of them, told by any number of traces, of which two are enough.
func TestTraceCycleLengths(t *testing.T) {
	r := rand.New(rand.NewPCG(27, 28))
	for n := 2; n <= impl.MaxMessages; n++ {
		for range 20 {
			ring := r.Perm(impl.MaxMessages)[:n]
			want := turned(ring)
			for cut := 1; cut < n; cut++ {
				pair := [][]int{ring[:cut+1], append(slices.Clone(ring[cut:]), ring[0])}
				checkCycle(t, pair, want...)
				checkCycle(t, append(slices.Repeat([][]int{{}}, 4), pair...), want...)
			}
			for traces := 2; traces <= min(n, impl.MaxTraces); traces++ {
				list := ringTraces(r, traces, n)
				checkCycle(t, list, turned(ringOf(list))...)
			}
		}
	}
}

func TestTraceCycleExamples(t *testing.T) {
	checkCycle(t, [][]int{{1, 2}, {2, 3}, {3, 1}}, 1, 2, 3)
	checkCycle(t, [][]int{{3, 2, 1}, {1, 3}}, 1, 3, 2)
	checkCycle(t, [][]int{{11, 0}, {0, 11}}, 0, 11)
	checkCycle(t, [][]int{{0, 1, 2, 3, 4, 5, 6, 7, 8, 9, 10, 11}, {11, 0}}, 0, 1, 2, 3, 4, 5, 6, 7, 8, 9, 10, 11)
	checkCycle(t, [][]int{{11, 10, 9, 8, 7, 6, 5, 4, 3, 2, 1, 0}, {0, 11}}, 0, 11, 10, 9, 8, 7, 6, 5, 4, 3, 2, 1)
	checkCycle(t, [][]int{{0, 1, 2}, {2, 3, 4}, {4, 5, 6}, {6, 7, 8}, {8, 9, 10}, {10, 11, 0}}, 0, 1, 2, 3, 4, 5, 6, 7, 8, 9, 10, 11)
	// The shortest one does not start with the smallest message.
	checkCycle(t, [][]int{{0, 1, 2}, {2, 0}, {4, 5}, {5, 4}}, 4, 5)
	checkCycle(t, [][]int{{0, 1, 2, 3, 4}, {4, 0}, {3, 2}}, 2, 3)
	checkCycle(t, [][]int{{0, 9, 10, 11}, {11, 0}, {11, 9}}, 9, 10, 11)
	checkCycle(t, [][]int{{0, 10}, {10, 5, 0}, {1, 2, 3, 4}, {4, 1}, {11, 10}, {10, 11}}, 10, 11)
	// Several shortest ones start with different messages.
	checkCycle(t, [][]int{{6, 7}, {7, 6}, {2, 9}, {9, 2}, {4, 3}, {3, 4}}, 2, 9)
	checkCycle(t, [][]int{{3, 4, 5}, {5, 3}, {11, 2, 10}, {10, 11}}, 2, 10, 11)
	checkCycle(t, [][]int{{1, 5, 2}, {2, 1}, {5, 2, 3}, {3, 5}}, 1, 5, 2)
	checkCycle(t, [][]int{{3, 0, 4}, {3, 5, 4}, {4, 3}, {0, 1}}, 0, 4, 3)
	// Beside it are messages that are in none, also those that no other one leads to.
	checkCycle(t, [][]int{{0}, {7, 8}, {8, 7}, {3, 2}, {11}}, 7, 8)
	checkCycle(t, [][]int{{0, 1, 2}, {4, 6}, {6, 4}, {9, 11}}, 4, 6)
	// Messages lead into it, or from it, but are not in it.
	checkCycle(t, [][]int{{0, 1, 5, 6}, {6, 5}}, 5, 6)
	checkCycle(t, [][]int{{0, 5, 6, 7}, {7, 5}, {1, 6}, {2, 7}, {7, 3}}, 5, 6, 7)
	checkCycle(t, [][]int{{5, 6, 0}, {6, 5, 1}, {5, 2}}, 5, 6)
	checkCycle(t, [][]int{{10, 2, 3, 4, 11}, {4, 2}, {0, 1, 2}, {4, 5, 6}}, 2, 3, 4)
	checkCycle(t, [][]int{{0, 3, 4}, {0, 4, 3}, {1, 4}}, 3, 4)
	// It is there only because of three or more traces.
	checkCycle(t, [][]int{{0, 4}, {4, 8}, {8, 0}}, 0, 4, 8)
	checkCycle(t, [][]int{{2, 7, 4}, {4, 1, 3}, {3, 9, 2}}, 1, 3, 9, 2, 7, 4)
	checkCycle(t, [][]int{{10, 1}, {6, 10}, {3, 6}, {9, 3}, {5, 9}, {1, 5}}, 1, 5, 9, 3, 6, 10)
}

// TestTraceCycleOfMany has cycles that need each one of their traces.
func TestTraceCycleOfMany(t *testing.T) {
	r := rand.New(rand.NewPCG(29, 30))
	for n := 3; n <= impl.MaxTraces; n++ {
		for k := n; k <= impl.MaxMessages; k++ {
			traces := ringTraces(r, n, k)
			checkCycle(t, traces, turned(ringOf(traces))...)
			for i := range traces {
				rest := slices.Delete(slices.Clone(traces), i, i+1)
				want, _ := wantedOrder(rest)
				checkOrder(t, rest, want...)
			}
		}
	}
}

// TestTraceCycleTies has several shortest cycles that start with the same message.
func TestTraceCycleTies(t *testing.T) {
	// The smaller message after the first one is visited first.
	checkCycle(t, [][]int{{0, 5, 7}, {0, 3, 9}, {7, 0}, {9, 0}}, 0, 3, 9)
	checkCycle(t, [][]int{{0, 3, 9}, {0, 5, 7}, {7, 0}, {9, 0}}, 0, 3, 9)
	checkCycle(t, [][]int{{0, 8}, {8, 0}, {0, 2}, {2, 0}, {0, 5}, {5, 0}}, 0, 2)
	// Of several messages before the first one, the one that was reached first leads to it.
	checkCycle(t, [][]int{{1, 6, 9}, {6, 4}, {9, 1}, {4, 1}}, 1, 6, 4)
	checkCycle(t, [][]int{{0, 1, 8, 10}, {0, 2, 5}, {5, 10, 0}, {8, 0}, {5, 0}}, 0, 1, 8)
	checkCycle(t, [][]int{{0, 1, 8}, {0, 2, 3}, {8, 0}, {3, 0}}, 0, 1, 8)
	checkCycle(t, [][]int{{0, 1, 11}, {0, 2, 4}, {4, 5, 0}, {11, 10, 0}, {5, 3}}, 0, 1, 11, 10)
	// A message is reached from the first one that leads to it, although a smaller one does, too.
	checkCycle(t, [][]int{{0, 1, 4, 5}, {0, 2, 3, 5}, {5, 0}}, 0, 1, 4, 5)
	checkCycle(t, [][]int{{0, 2, 3, 5}, {0, 1, 4, 5}, {5, 0}}, 0, 1, 4, 5)
	checkCycle(t, [][]int{{2, 3, 11, 5, 6}, {2, 4, 7, 5}, {6, 2}}, 2, 3, 11, 5, 6)
	checkCycle(t, [][]int{{0, 1, 10, 7, 11}, {0, 2, 9, 6, 11}, {0, 3, 8, 5, 11}, {11, 0}}, 0, 1, 10, 7, 11)
	checkCycle(t, [][]int{{0, 1, 9, 3, 8}, {0, 2, 10, 3}, {9, 7, 8}, {8, 0}}, 0, 1, 9, 3, 8)
	// Both decide: 6 is reached before 5, and leads to 8 before 5 does.
	checkCycle(t, [][]int{{0, 3, 6, 8, 10}, {0, 4, 5, 8}, {10, 0}}, 0, 3, 6, 8, 10)
	// The message after the first one is the smallest of those in a shortest cycle, not the smallest of all.
	checkCycle(t, [][]int{{1, 2, 3, 4}, {1, 5, 6}, {6, 1}, {4, 7, 1}}, 1, 5, 6)
	checkCycle(t, [][]int{{0, 4, 1, 6}, {0, 5, 2, 6}, {4, 2}, {5, 1}, {6, 0}}, 0, 4, 1, 6)
	checkCycle(t, [][]int{{0, 5, 2, 6, 8}, {0, 4, 9, 7, 8}, {8, 0}, {9, 6}, {2, 7}}, 0, 4, 9, 6, 8)
}

// TestTraceCycleManyTies has cycles of three and more messages that start with the same message, and differ in some place.
func TestTraceCycleManyTies(t *testing.T) {
	ties := [impl.MaxMessages]int{}
	for _, traces := range validTraces() {
		cycles := shortestCycles(traces)
		if len(cycles) < 2 || cycles[0][0] != cycles[1][0] {
			continue
		}
		checkCycle(t, traces, cycles[0]...)
		for place := range cycles[0] {
			if cycles[0][place] != cycles[1][place] {
				ties[place]++
				break
			}
		}
	}
	for place := 1; place <= 4; place++ {
		if ties[place] < 10 {
			t.Errorf("only %d lists have shortest cycles that differ in place %d first", ties[place], place)
		}
	}
}

func TestTraceFollowsExamples(t *testing.T) {
	all := []int{0, 1, 2, 3, 4, 5, 6, 7, 8, 9, 10, 11}
	mixed := []int{7, 0, 11, 3, 9, 2}
	for _, c := range []struct {
		trace, order []int
		want         bool
	}{
		{[]int{1, 3}, []int{1, 2, 3}, true},
		{[]int{3, 1}, []int{1, 2, 3}, false},
		// All messages of the order.
		{mixed, mixed, true},
		{all, all, true},
		{[]int{4}, []int{4}, true},
		// Some of them: at its beginning, in the middle, at its end, and apart.
		{[]int{7, 0}, mixed, true},
		{[]int{11, 3}, mixed, true},
		{[]int{9, 2}, mixed, true},
		{[]int{7, 2}, mixed, true},
		{[]int{0, 3, 2}, mixed, true},
		{[]int{7}, mixed, true},
		{[]int{2}, mixed, true},
		// None of them.
		{nil, mixed, true},
		{[]int{}, all, true},
		{[]int{1, 4}, mixed, false},
		{[]int{10}, mixed, false},
		// One that is not in the order: first, in the middle, last.
		{[]int{1, 0, 3}, mixed, false},
		{[]int{0, 1, 3}, mixed, false},
		{[]int{0, 3, 1}, mixed, false},
		// Two exchanged: first, apart, last.
		{[]int{0, 7, 11}, mixed, false},
		{[]int{7, 3, 11}, mixed, false},
		{[]int{7, 9, 11, 2}, mixed, false},
		{[]int{0, 11, 3, 2, 9}, mixed, false},
		{[]int{2, 7}, mixed, false},
		// An order that is shorter than the trace.
		{mixed, mixed[:5], false},
		{mixed, mixed[1:], false},
		{mixed, []int{7}, false},
		{[]int{0, 1}, []int{0}, false},
		{[]int{0, 1}, []int{1}, false},
		// Empty ones.
		{nil, nil, true},
		{[]int{}, nil, true},
		{nil, []int{}, true},
		{[]int{0}, nil, false},
		{all, []int{}, false},
	} {
		checkFollows(t, c.trace, c.order, c.want)
	}
}

// TestTraceFollowsIsAsSaid compares TraceFollows with the words of the document, for all traces of four messages, and random ones.
func TestTraceFollowsIsAsSaid(t *testing.T) {
	for _, trace := range partsOf([]int{0, 4, 10, 11}) {
		for _, order := range partsOf([]int{0, 4, 10, 11}) {
			checkFollows(t, trace, order, follows(trace, order))
		}
	}
	for _, traces := range validTraces() {
		for _, trace := range traces {
			for _, order := range traces {
				checkFollows(t, trace, order, follows(trace, order))
			}
		}
	}
}

// TestTraceFollowsInvalid has an invalid trace, an invalid order, and both, with all messages of the trace in the order where there is one.
func TestTraceFollowsInvalid(t *testing.T) {
	for _, bad := range badTraceLists() {
		for _, list := range [][]int{nil, {0}, {1, 2, 3, 4}, {0, 11}, bad[:1], bad[:len(bad)-1], bad[1:]} {
			checkFollows(t, bad, list, false)
			checkFollows(t, list, bad, false)
		}
		checkFollows(t, bad, bad, false)
		for place := range bad {
			checkFollows(t, bad[place:place+1], bad, false)
		}
	}
	checkFollows(t, []int{1, 1}, []int{1, 2, 1}, false)
	checkFollows(t, []int{1, 2}, []int{1, 2, 2}, false)
	checkFollows(t, []int{1, 2}, []int{1, 2, 12}, false)
	checkFollows(t, []int{1, 2}, []int{-1, 1, 2}, false)
	checkFollows(t, nil, []int{12}, false)
	checkFollows(t, nil, []int{5, 5}, false)
	checkFollows(t, []int{12}, nil, false)
	checkFollows(t, []int{5, 5}, nil, false)
}

// TestP73 checks that each trace follows the order, which has exactly the messages of the traces, each once.
func TestP73(t *testing.T) {
	for _, traces := range validTraces() {
		order, ok := impl.TraceOrder(traces)
		if !ok {
			continue
		}
		for _, trace := range traces {
			checkFollows(t, trace, order, true)
			if !follows(trace, order) {
				t.Errorf("TraceOrder(%v) = %v: %v does not follow it", traces, order, trace)
			}
		}
		sorted := slices.Sorted(slices.Values(order))
		if !slices.Equal(sorted, allTold(traces)) {
			t.Errorf("TraceOrder(%v) = %v", traces, order)
		}
	}
}

// TestP74 checks that there is an order or a cycle, never both.
func TestP74(t *testing.T) {
	for _, traces := range validTraces() {
		order, ok := impl.TraceOrder(traces)
		cycle := impl.TraceCycle(traces)
		if ok != (len(cycle) == 0) {
			t.Errorf("TraceOrder(%v) = %v, %v and TraceCycle is %v", traces, order, ok, cycle)
		}
	}
}

// TestP75 checks that each message of a cycle is told right before the next one, and the last one before the first.
func TestP75(t *testing.T) {
	for _, traces := range validTraces() {
		cycle := impl.TraceCycle(traces)
		for i, message := range cycle {
			next := cycle[(i+1)%len(cycle)]
			if !toldNext(traces, message, next) {
				t.Errorf("TraceCycle(%v) = %v: no trace tells %d right before %d", traces, cycle, message, next)
			}
		}
	}
}

// TestP76 checks that a cycle has different messages, of which the first one is the smallest.
func TestP76(t *testing.T) {
	for _, traces := range validTraces() {
		cycle := impl.TraceCycle(traces)
		if !isTrace(cycle) || len(cycle) == 1 || len(cycle) > 0 && cycle[0] != slices.Min(cycle) {
			t.Errorf("TraceCycle(%v) = %v", traces, cycle)
		}
	}
}

// contradict reports whether two traces tell two messages in different orders.
func contradict(a, b []int) bool {
	for i, x := range a {
		for _, y := range a[i+1:] {
			if first, second := slices.Index(b, y), slices.Index(b, x); first >= 0 && first < second {
				return true
			}
		}
	}
	return false
}

// TestP77 checks that there is no order if two traces tell two messages in different orders, side by side or apart.
func TestP77(t *testing.T) {
	for _, traces := range validTraces() {
		for i, a := range traces {
			for _, b := range traces[:i] {
				if order, ok := impl.TraceOrder(traces); contradict(a, b) && (ok || len(order) != 0) {
					t.Errorf("TraceOrder(%v) = %v, %v, but %v and %v have different orders", traces, order, ok, a, b)
				}
			}
		}
	}
	checkCycle(t, [][]int{{4, 9}, {9, 4}}, 4, 9)
	checkCycle(t, [][]int{{4, 1, 9}, {9, 4}}, 1, 9, 4)
	checkCycle(t, [][]int{{4, 1, 9}, {9, 2, 4}}, 1, 9, 2, 4)
	checkCycle(t, [][]int{{0, 4, 1, 9, 3}, {}, {5, 9, 2, 6, 4, 7}}, 1, 9, 2, 6, 4)
}

// TestP78 checks that the order of one trace is the trace, which follows itself.
func TestP78(t *testing.T) {
	check := func(trace []int) {
		for _, traces := range [][][]int{{trace}, {{}, trace}, {trace, {}, {}}} {
			checkOrder(t, traces, trace...)
		}
		checkFollows(t, trace, trace, true)
	}
	for _, trace := range partsOf([]int{0, 2, 7, 10, 11}) {
		check(trace)
	}
	r := rand.New(rand.NewPCG(31, 32))
	for n := range impl.MaxMessages + 1 {
		for range 50 {
			check(r.Perm(impl.MaxMessages)[:n])
		}
	}
}

// TestP79 checks that there is an order without any one trace, and with any prefix of one.
func TestP79(t *testing.T) {
	for _, traces := range orderedTraces() {
		for i, trace := range traces {
			rest := slices.Delete(slices.Clone(traces), i, i+1)
			if _, ok := impl.TraceOrder(rest); !ok {
				t.Errorf("TraceOrder(%v) fails, but not that of %v", rest, traces)
			}
			for n := range trace {
				shorter := slices.Clone(traces)
				shorter[i] = trace[:n]
				if _, ok := impl.TraceOrder(shorter); !ok {
					t.Errorf("TraceOrder(%v) fails, but not that of %v", shorter, traces)
				}
			}
		}
	}
}

// TestP80 checks that the order as a further trace, at any place, leads to the same order, and is refused if there is no space.
func TestP80(t *testing.T) {
	for _, traces := range orderedTraces() {
		order, ok := impl.TraceOrder(traces)
		if !ok {
			t.Errorf("TraceOrder(%v) fails", traces)
		}
		for place := range len(traces) + 1 {
			more := slices.Insert(slices.Clone(traces), place, order)
			if len(more) > impl.MaxTraces {
				checkBad(t, more)
			} else {
				checkOrder(t, more, order...)
			}
		}
	}
}

// TestP81 checks that all messages of a trace that follows an order are in it, and any two of them in the same sequence.
func TestP81(t *testing.T) {
	check := func(trace, order []int) {
		if !impl.TraceFollows(trace, order) {
			return
		}
		if !within(trace, order) || contradict(trace, order) {
			t.Errorf("TraceFollows(%v, %v) = true", trace, order)
		}
	}
	for _, trace := range partsOf([]int{0, 1, 5, 11}) {
		for _, order := range partsOf([]int{0, 1, 5, 11}) {
			check(trace, order)
		}
	}
	for _, traces := range validTraces() {
		for _, trace := range traces {
			check(trace, traces[0])
			check(traces[0], trace)
		}
	}
}

// TestP82 checks that a trace that follows an order does so without any one message.
func TestP82(t *testing.T) {
	for _, traces := range orderedTraces() {
		order, _ := wantedOrder(traces)
		for _, trace := range append(slices.Clone(traces), order) {
			checkFollows(t, trace, order, true)
			for i := range trace {
				checkFollows(t, slices.Delete(slices.Clone(trace), i, i+1), order, true)
			}
		}
	}
}

// TestP83 checks that the results for the traces in reverse order are the same, and those in any order if they are few.
func TestP83(t *testing.T) {
	same := func(traces, other [][]int) {
		order, ok := impl.TraceOrder(traces)
		if got, otherOk := impl.TraceOrder(other); otherOk != ok || !slices.Equal(got, order) {
			t.Errorf("TraceOrder(%v) = %v, %v, but %v, %v for %v", other, got, otherOk, order, ok, traces)
		}
		cycle := impl.TraceCycle(traces)
		if got := impl.TraceCycle(other); !slices.Equal(got, cycle) {
			t.Errorf("TraceCycle(%v) = %v, but %v for %v", other, got, cycle, traces)
		}
	}
	for i, traces := range validTraces() {
		reverse := slices.Clone(traces)
		slices.Reverse(reverse)
		same(traces, reverse)
		if i%9 > 0 || len(traces) > 4 {
			continue
		}
		permutations(len(traces), func(places []int) {
			other := [][]int{}
			for _, place := range places {
				other = append(other, traces[place])
			}
			same(traces, other)
		})
	}
}

// TestP84 checks that empty traces have an empty order, and the empty trace follows every order.
func TestP84(t *testing.T) {
	checkOrder(t, nil)
	checkOrder(t, [][]int{})
	for n := range impl.MaxTraces + 1 {
		for _, empty := range [][]int{nil, {}, make([]int, 0, 5)} {
			checkOrder(t, slices.Repeat([][]int{empty}, n))
		}
	}
	for _, traces := range validTraces() {
		for _, order := range traces {
			checkFollows(t, nil, order, true)
			checkFollows(t, []int{}, order, true)
		}
	}
}

// allTraces returns what the functions return for traces, as lists.
func allTraces(traces [][]int) [][]int {
	impl.TracesValid(traces)
	order, _ := impl.TraceOrder(traces)
	if len(traces) > 1 {
		impl.TraceFollows(traces[0], traces[1])
	}
	return [][]int{order, impl.TraceCycle(traces)}
}

// TestTracesMemory checks that the functions leave their arguments, and what is behind them, and that no result shares memory with another one or with an argument.
func TestTracesMemory(t *testing.T) {
	for _, list := range append(slices.Clone(validTraces()), badTraces()...) {
		traces := spareList(list)
		before := wholeList(traces)
		first, second := allTraces(traces), allTraces(traces)
		want := wholeList(second)
		for _, result := range first {
			overwrite(result)
		}
		if wholeList(traces) != before {
			t.Fatalf("an argument was changed: %v", list)
		}
		if wholeList(second) != want {
			t.Fatalf("the results of two calls share memory: %v", list)
		}
		for _, trace := range traces[:cap(traces)] {
			overwrite(trace)
		}
		if wholeList(second) != want {
			t.Fatalf("a result shares memory with an argument: %v", list)
		}
	}
}

// TestTraceFollowsMemory checks that TraceFollows leaves both lists, and what is behind them, valid or not.
func TestTraceFollowsMemory(t *testing.T) {
	lists := append(badTraceLists(), []int{}, []int{3, 1}, []int{9, 3, 0, 1, 11})
	for _, x := range lists {
		for _, y := range lists {
			trace, order := spare(x), spare(y)
			beforeTrace, beforeOrder := fmt.Sprint(whole(trace), len(trace)), fmt.Sprint(whole(order), len(order))
			impl.TraceFollows(trace, order)
			impl.TraceFollows(order, trace)
			if fmt.Sprint(whole(trace), len(trace)) != beforeTrace || fmt.Sprint(whole(order), len(order)) != beforeOrder {
				t.Errorf("TraceFollows changes %v or %v", x, y)
			}
		}
	}
}
