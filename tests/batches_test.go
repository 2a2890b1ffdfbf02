package tests

import (
	"math"
	"math/rand/v2"
	"slices"
	"testing"

	"loop.example/groupmulticast/impl"
)

// items are items with limits.
type items struct {
	sizes       []int
	bytes, many int
}

// noBytes are numbers that are not the size of a batch.
var noBytes = []int{0, -1, -99, 100, 101, 198, math.MinInt, math.MaxInt}

// noMany are numbers that are not the most items of a batch.
var noMany = []int{0, -1, -20, 21, 22, 40, math.MinInt, math.MaxInt}

// noNumbers are numbers of items that no batch has.
var noNumbers = []int{0, -1, -20, 21, 22, 40, math.MinInt, math.MaxInt}

// fewItems returns all items of sizes 1 to bytes for small limits, always the same.
func fewItems() []items {
	all := []items{}
	for bytes := 1; bytes <= 4; bytes++ {
		sizes := []int{1, 2, 3, 4}[:bytes]
		for n := range 6 {
			for _, list := range tuples(sizes, n) {
				for _, many := range []int{1, 2, 3, 20} {
					all = append(all, items{list, bytes, many})
				}
			}
		}
	}
	return all
}

// randomItems returns items of any number and size, always the same: of all sizes, of small ones, and of some that fill a batch alone.
func randomItems() []items {
	all := []items{}
	r := rand.New(rand.NewPCG(9, 10))
	for n := range impl.MaxItems + 1 {
		for range 60 {
			bytes, many := 1+r.IntN(impl.MaxBytes), 1+r.IntN(impl.MaxItems)
			any, small, full := []int{}, []int{}, []int{}
			for range n {
				any = append(any, 1+r.IntN(bytes))
				small = append(small, 1+r.IntN(1+bytes/5))
				full = append(full, []int{1, bytes, 1 + r.IntN(bytes)}[r.IntN(3)])
			}
			if bytes > 1 {
				all = append(all, items{small, bytes, many})
			}
			all = append(all, items{any, bytes, many}, items{full, bytes, many})
		}
	}
	return all
}

// limitItems returns items at the limits: no items, most items, and sizes and limits that are the least and the greatest ones.
func limitItems() []items {
	all := []items{}
	for _, bytes := range []int{1, 2, 50, 98, 99} {
		for _, many := range []int{1, 2, 19, 20} {
			for _, n := range []int{0, 1, 2, 19, 20} {
				for _, size := range []int{1, bytes, max(1, bytes/2), max(1, bytes/2+1), max(1, bytes/20), max(1, bytes-1)} {
					all = append(all, items{slices.Repeat([]int{min(size, bytes)}, n), bytes, many})
				}
			}
		}
	}
	return all
}

// validItems returns all of the valid items above.
func validItems() []items {
	return slices.Concat(fewItems(), randomItems(), limitItems())
}

// badItems returns invalid items or limits: a limit or a size out of range at every place, or too many items.
func badItems() []items {
	all := []items{}
	for _, sizes := range [][]int{nil, {}, {1}, {1, 1}, {99}, {5, 3, 4}, slices.Repeat([]int{1}, 20), slices.Repeat([]int{1}, 21)} {
		for _, bad := range noBytes {
			all = append(all, items{sizes, bad, 1}, items{sizes, bad, 20})
			for _, badToo := range noMany {
				all = append(all, items{sizes, bad, badToo})
			}
		}
		for _, bad := range noMany {
			all = append(all, items{sizes, 1, bad}, items{sizes, 99, bad})
		}
	}
	for _, bytes := range []int{1, 2, 7, 98, 99} {
		for _, n := range []int{21, 22, 40, 400} {
			all = append(all, items{slices.Repeat([]int{1}, n), bytes, 20}, items{slices.Repeat([]int{bytes}, n), bytes, 1})
		}
		for _, bad := range []int{0, -1, -bytes, bytes + 1, bytes + 2, 2 * bytes, 100, math.MinInt, math.MaxInt} {
			for n := range impl.MaxItems {
				good := []int{}
				for i := range n {
					good = append(good, []int{1, bytes}[i%2])
				}
				for at := range n + 1 {
					all = append(all, items{slices.Insert(slices.Clone(good), at, bad), bytes, 1 + n})
				}
			}
		}
	}
	return all
}

// total returns the sum of some sizes.
func total(sizes []int) int {
	sum := 0
	for _, size := range sizes {
		sum += size
	}
	return sum
}

// wantedCut returns what the document says of BatchCut of valid items, by trying one number of items of a batch after the other.
func wantedCut(x items) []int {
	cut := []int{}
	for rest := x.sizes; len(rest) > 0; {
		best := 0
		for number := range len(rest) + 1 {
			if number <= x.many && total(rest[:number]) <= x.bytes {
				best = number
			}
		}
		cut, rest = append(cut, best), rest[best:]
	}
	return cut
}

// wantedFits returns what the document says of BatchFits of valid items.
func wantedFits(x items, cut []int) bool {
	rest := x.sizes
	for _, number := range cut {
		if number < 1 || number > x.many || number > len(rest) || total(rest[:number]) > x.bytes {
			return false
		}
		rest = rest[number:]
	}
	return len(rest) == 0
}

// wantedOf returns what the document says of BatchOf, by giving every item the index of its batch.
func wantedOf(cut []int, item int) int {
	owners := []int{}
	for i, number := range cut {
		if len(cut) > impl.MaxItems || number < 1 || number > impl.MaxItems {
			break
		}
		owners = append(owners, slices.Repeat([]int{i}, number)...)
	}
	if item < 0 || item >= len(owners) {
		return -1
	}
	return owners[item]
}

// fewestBatches returns the least number of batches in which valid items can be sent, of all divisions.
func fewestBatches(x items) int {
	fewest := []int{0}
	for end := 1; end <= len(x.sizes); end++ {
		best := end
		for first := range end {
			if end-first <= x.many && total(x.sizes[first:end]) <= x.bytes {
				best = min(best, fewest[first]+1)
			}
		}
		fewest = append(fewest, best)
	}
	return fewest[len(x.sizes)]
}

// divisions returns all ways to divide n items into batches.
func divisions(n int) [][]int {
	if n == 0 {
		return [][]int{{}}
	}
	all := [][]int{}
	for first := 1; first <= n; first++ {
		for _, rest := range divisions(n - first) {
			all = append(all, append([]int{first}, rest...))
		}
	}
	return all
}

// cutOf returns BatchCut of items.
func cutOf(x items) []int {
	return impl.BatchCut(x.sizes, x.bytes, x.many)
}

// checkCut checks that BatchCut returns some numbers of items.
func checkCut(t *testing.T, x items, want []int) {
	t.Helper()
	if got := cutOf(x); !slices.Equal(got, want) {
		t.Errorf("BatchCut(%v, %d, %d) = %v, not %v", x.sizes, x.bytes, x.many, got, want)
	}
}

// checkFits checks whether BatchFits accepts batches.
func checkFits(t *testing.T, x items, cut []int, want bool) {
	t.Helper()
	if got := impl.BatchFits(x.sizes, x.bytes, x.many, cut); got != want {
		t.Errorf("BatchFits(%v, %d, %d, %v) = %v", x.sizes, x.bytes, x.many, cut, got)
	}
}

// checkOf checks that BatchOf is an index, or -1.
func checkOf(t *testing.T, cut []int, item int, want int) {
	t.Helper()
	if got := impl.BatchOf(cut, item); got != want {
		t.Errorf("BatchOf(%v, %d) = %d, not %d", cut, item, got, want)
	}
}

// checkValid checks whether BatchesValid accepts items.
func checkValid(t *testing.T, x items, want bool) {
	t.Helper()
	if got := impl.BatchesValid(x.sizes, x.bytes, x.many); got != want {
		t.Errorf("BatchesValid(%v, %d, %d) = %v", x.sizes, x.bytes, x.many, got)
	}
}

// checkNoItems checks that all functions refuse items, whatever the batches are.
func checkNoItems(t *testing.T, x items) {
	t.Helper()
	checkValid(t, x, false)
	checkCut(t, x, nil)
	for _, cut := range [][]int{nil, {}, {len(x.sizes)}, slices.Repeat([]int{1}, len(x.sizes)), {1}, {0}, {-1}} {
		checkFits(t, x, cut, false)
	}
}

func TestBatchesConstants(t *testing.T) {
	if impl.MaxItems != 20 || impl.MaxBytes != 99 {
		t.Errorf("MaxItems is %d, MaxBytes is %d", impl.MaxItems, impl.MaxBytes)
	}
}

func TestBatchesValidExamples(t *testing.T) {
	twenty, more := slices.Repeat([]int{1}, 20), slices.Repeat([]int{1}, 21)
	for _, x := range []items{{nil, 1, 1}, {[]int{}, 99, 20}, {[]int{1}, 1, 1}, {[]int{99}, 99, 20}, {[]int{4, 4, 4, 1}, 4, 3}, {twenty, 1, 1}, {twenty, 99, 20}} {
		checkValid(t, x, true)
	}
	for _, x := range []items{
		{nil, 0, 1}, {nil, 1, 0}, {nil, 100, 1}, {nil, 1, 21}, {nil, -1, 1}, {nil, 1, -1},
		{[]int{0}, 1, 1}, {[]int{2}, 1, 1}, {[]int{-1}, 1, 1}, {[]int{100}, 99, 1}, {[]int{100}, 100, 1}, {[]int{4, 5, 4}, 4, 3}, {[]int{4, 4, 0}, 4, 3},
		{more, 1, 1}, {more, 99, 20},
	} {
		checkNoItems(t, x)
	}
}

// TestBatchesValidLimits tries limits and sizes at and beside their limits.
func TestBatchesValidLimits(t *testing.T) {
	for bytes := -1; bytes <= impl.MaxBytes+1; bytes++ {
		for many := -1; many <= impl.MaxItems+1; many++ {
			limits := bytes >= 1 && bytes <= 99 && many >= 1 && many <= 20
			checkValid(t, items{nil, bytes, many}, limits)
			checkValid(t, items{[]int{}, bytes, many}, limits)
			for _, size := range []int{-1, 0, 1, bytes - 1, bytes, bytes + 1, 99, 100} {
				checkValid(t, items{[]int{size}, bytes, many}, limits && size >= 1 && size <= bytes)
			}
		}
	}
	for n := range 2 * impl.MaxItems {
		for _, many := range []int{1, 20} {
			checkValid(t, items{slices.Repeat([]int{1}, n), 1, many}, n <= 20)
			checkValid(t, items{slices.Repeat([]int{99}, n), 99, many}, n <= 20)
		}
	}
}

// TestBatchesInvalid checks that the functions with limits refuse whatever is invalid, before they look at the batches.
func TestBatchesInvalid(t *testing.T) {
	for _, x := range badItems() {
		checkNoItems(t, x)
	}
	for _, x := range validItems() {
		checkValid(t, x, true)
	}
}

// TestBatchCutExamples has items of the size of a batch, batches that are just full, and one byte or item more.
func TestBatchCutExamples(t *testing.T) {
	for _, c := range []struct {
		items
		want []int
	}{
		{items{[]int{4, 4, 4, 1}, 8, 3}, []int{2, 2}},
		{items{[]int{8}, 8, 3}, []int{1}},
		{items{[]int{8, 8, 8}, 8, 3}, []int{1, 1, 1}},
		{items{[]int{8, 8, 1, 1}, 8, 3}, []int{1, 1, 2}},
		{items{[]int{1, 1, 8, 1, 1}, 8, 3}, []int{2, 1, 2}},
		{items{[]int{1, 8, 8, 1}, 8, 20}, []int{1, 1, 1, 1}},
		{items{[]int{1, 1, 8}, 8, 3}, []int{2, 1}},
		{items{[]int{5, 3, 1}, 8, 3}, []int{2, 1}},
		{items{[]int{5, 3, 1}, 9, 3}, []int{3}},
		{items{[]int{5, 4, 1}, 8, 3}, []int{1, 2}},
		{items{[]int{7, 1, 7, 1}, 8, 3}, []int{2, 2}},
		{items{[]int{7, 2, 7, 1}, 8, 3}, []int{1, 1, 2}},
		{items{[]int{1, 1, 1}, 99, 3}, []int{3}},
		{items{[]int{1, 1, 1, 1}, 99, 3}, []int{3, 1}},
		{items{[]int{1, 1, 1, 1, 1, 1}, 99, 3}, []int{3, 3}},
		{items{[]int{1, 1, 1, 97}, 99, 3}, []int{3, 1}},
		{items{[]int{33, 33, 33, 33}, 99, 20}, []int{3, 1}},
		{items{[]int{33, 33, 33, 33}, 98, 20}, []int{2, 2}},
		{items{[]int{99, 1, 98, 1}, 99, 20}, []int{1, 2, 1}},
		{items{[]int{5, 3, 1}, 99, 1}, []int{1, 1, 1}},
		{items{[]int{1}, 1, 1}, []int{1}},
		{items{[]int{1, 1}, 1, 20}, []int{1, 1}},
		{items{[]int{1, 1}, 2, 20}, []int{2}},
	} {
		checkCut(t, c.items, c.want)
		checkFits(t, c.items, c.want, true)
	}
}

// TestBatchCutNoItems checks that there are no batches without items, whether the limits are valid or not.
func TestBatchCutNoItems(t *testing.T) {
	for _, none := range [][]int{nil, {}, make([]int, 0, 3)} {
		for bytes := 1; bytes <= impl.MaxBytes; bytes++ {
			for many := 1; many <= impl.MaxItems; many++ {
				x := items{none, bytes, many}
				checkCut(t, x, nil)
				checkFits(t, x, nil, true)
				checkFits(t, x, []int{}, true)
				for _, cut := range [][]int{{0}, {1}, {-1}, {0, 0}, {1, -1}, {many}} {
					checkFits(t, x, cut, false)
				}
			}
		}
		for _, bad := range noBytes {
			checkNoItems(t, items{none, bad, 1})
		}
		for _, bad := range noMany {
			checkNoItems(t, items{none, 99, bad})
		}
	}
}

// TestBatchCutFullItems has items of the size of a batch: alone, in a row, everywhere, and one between small ones, at every place.
func TestBatchCutFullItems(t *testing.T) {
	for _, bytes := range []int{1, 2, 8, 98, 99} {
		for _, many := range []int{1, 2, 3, 19, 20} {
			for n := range impl.MaxItems + 1 {
				checkCut(t, items{slices.Repeat([]int{bytes}, n), bytes, many}, slices.Repeat([]int{1}, n))
				for at := range n {
					for end := at + 1; end <= min(n, at+3); end++ {
						row := slices.Repeat([]int{1}, n)
						for i := at; i < end; i++ {
							row[i] = bytes
						}
						x := items{row, bytes, many}
						want := slices.Concat(cutOf(items{row[:at], bytes, many}), slices.Repeat([]int{1}, end-at), cutOf(items{row[end:], bytes, many}))
						checkCut(t, x, want)
						checkCut(t, x, wantedCut(x))
					}
				}
			}
		}
	}
}

// TestBatchCutExactly has a batch that is just full, and then one byte less for it, for any number of items of it.
func TestBatchCutExactly(t *testing.T) {
	for n := 2; n < impl.MaxItems; n++ {
		for _, size := range []int{1, 2, 3, 4} {
			sizes := slices.Repeat([]int{size}, n)
			for _, last := range []int{1, size} {
				more := append(slices.Clone(sizes), last)
				checkCut(t, items{sizes, n * size, 20}, []int{n})
				checkCut(t, items{sizes, n*size - 1, 20}, []int{n - 1, 1})
				checkCut(t, items{more, n * size, 20}, []int{n, 1})
				checkCut(t, items{more, n*size + last, 20}, []int{n + 1})
				checkCut(t, items{more, 99, n}, []int{n, 1})
				checkCut(t, items{more, 99, n + 1}, []int{n + 1})
			}
		}
	}
}

// TestBatchCutManyItems checks MaxItems items, in one batch and in a batch each, and one item more.
func TestBatchCutManyItems(t *testing.T) {
	twenty := slices.Repeat([]int{4}, 20)
	checkCut(t, items{twenty, 80, 20}, []int{20})
	checkCut(t, items{twenty, 79, 20}, []int{19, 1})
	checkCut(t, items{twenty, 80, 19}, []int{19, 1})
	checkCut(t, items{twenty, 99, 7}, []int{7, 7, 6})
	checkCut(t, items{twenty, 4, 20}, slices.Repeat([]int{1}, 20))
	checkFits(t, items{twenty, 80, 20}, []int{20}, true)
	checkFits(t, items{twenty, 4, 20}, slices.Repeat([]int{1}, 20), true)
	checkFits(t, items{twenty, 4, 20}, slices.Repeat([]int{1}, 19), false)
	checkFits(t, items{twenty, 4, 20}, slices.Repeat([]int{1}, 21), false)
	for _, many := range []int{1, 19, 20} {
		checkNoItems(t, items{slices.Repeat([]int{4}, 21), 80, many})
		checkNoItems(t, items{slices.Repeat([]int{4}, 21), 99, many})
	}
}

// TestBatchCutIsAsSaid compares BatchCut with the words of the document.
func TestBatchCutIsAsSaid(t *testing.T) {
	for _, x := range validItems() {
		checkCut(t, x, wantedCut(x))
	}
}

func TestBatchFitsExamples(t *testing.T) {
	x := items{[]int{4, 4, 4, 1}, 8, 3}
	for _, cut := range [][]int{{2, 2}, {1, 1, 2}, {1, 1, 1, 1}, {2, 1, 1}, {1, 2, 1}} {
		checkFits(t, x, cut, true)
	}
	for _, cut := range [][]int{
		{2, 1}, {2}, {1, 1, 1}, {2, 3}, {2, 2, 1}, {1, 1, 1, 1, 1},
		{2, 0, 2}, {0, 2, 2}, {2, 2, 0}, {2, -1, 2, 1}, {2, 3, -1}, {-1, 2, 3}, {4, 1, -1},
		{4}, {1, 3}, {3, 1}, nil, {},
	} {
		checkFits(t, x, cut, false)
	}
	checkFits(t, items{[]int{4, 4}, 8, 3}, []int{2}, true)
	checkFits(t, items{[]int{4, 4}, 8, 3}, []int{1, 1}, true)
	checkFits(t, items{[]int{4, 4}, 7, 3}, []int{2}, false)
	checkFits(t, items{[]int{4, 4}, 99, 1}, []int{2}, false)
	checkFits(t, items{[]int{1, 1, 1, 1}, 99, 3}, []int{4}, false)
	checkFits(t, items{[]int{1, 1, 1, 1}, 99, 3}, []int{1, 3}, true)
	checkFits(t, items{[]int{1, 1, 1, 1}, 3, 20}, []int{4}, false)
}

// TestBatchFitsIsAsSaid compares BatchFits with the words of the document, for all lists of few numbers, also out of range.
func TestBatchFitsIsAsSaid(t *testing.T) {
	cuts := [][]int{}
	for size := range 5 {
		cuts = append(cuts, tuples([]int{-1, 0, 1, 2, 3, 4, 5}, size)...)
	}
	for _, sizes := range [][]int{{}, {1}, {4}, {1, 3}, {2, 3}, {1, 1, 2}, {4, 1, 4}, {1, 1, 1, 1}, {2, 2, 3, 1}, {1, 2, 1, 2, 1}} {
		for _, bytes := range []int{4, 5, 99} {
			for _, many := range []int{1, 2, 3, 20} {
				for _, cut := range cuts {
					x := items{sizes, bytes, many}
					checkFits(t, x, cut, wantedFits(x, cut))
				}
			}
		}
	}
}

// TestBatchFitsDivisions compares BatchFits with the words of the document for all divisions of few items.
func TestBatchFitsDivisions(t *testing.T) {
	for _, x := range fewItems() {
		for _, cut := range divisions(len(x.sizes)) {
			checkFits(t, x, cut, wantedFits(x, cut))
		}
	}
}

// TestBatchFitsChanged changes the batches of BatchCut at each place: another number, one batch less, and one more.
func TestBatchFitsChanged(t *testing.T) {
	for _, x := range append(randomItems(), limitItems()...) {
		cut := cutOf(x)
		for at := range len(cut) + 1 {
			for _, number := range append(slices.Clone(noNumbers), 1, x.many, x.many+1, len(x.sizes)) {
				more := slices.Insert(slices.Clone(cut), at, number)
				checkFits(t, x, more, false)
			}
		}
		for at := range cut {
			checkFits(t, x, slices.Delete(slices.Clone(cut), at, at+1), false)
			for _, number := range append(slices.Clone(noNumbers), cut[at]-1, cut[at]+1, x.many+1) {
				changed := slices.Clone(cut)
				changed[at] = number
				checkFits(t, x, changed, false)
			}
		}
		for at := 1; at < len(cut); at++ {
			moved := slices.Clone(cut)
			moved[at-1]++
			moved[at]--
			checkFits(t, x, moved, false)
		}
	}
}

// TestBatchFitsOverflow has numbers whose sum does not fit into an int, and would be the number of items if it wrapped around.
func TestBatchFitsOverflow(t *testing.T) {
	most, least := math.MaxInt, math.MinInt
	for n := range impl.MaxItems + 1 {
		for _, many := range []int{1, 2, 20} {
			x := items{slices.Repeat([]int{1}, n), 99, many}
			for _, cut := range [][]int{
				{most}, {least}, {most, most}, {most, most, n + 2}, {n + 2, most, most}, {most, n + 2, most},
				{least, least, n}, {n, least, least}, {least, n, least}, {most, least, n + 1}, {n, most, least, 1}, {n, 1, most, least},
				{1 << 62, 1 << 62, 1 << 62, 1 << 62, n}, {n, 1 << 62, 1 << 62, 1 << 62, 1 << 62}, {1, most, most, n + 1},
			} {
				checkFits(t, x, cut, false)
				for item := -1; item <= n; item++ {
					checkOf(t, cut, item, wantedOf(cut, item))
				}
			}
		}
	}
}

// TestBatchFitsManyBatches has more batches than items, as many as there could be of valid items, and far more.
func TestBatchFitsManyBatches(t *testing.T) {
	for n := range impl.MaxItems + 1 {
		x := items{slices.Repeat([]int{1}, n), 99, 20}
		for _, batches := range []int{0, 1, 19, 20, 21, 40, 400} {
			checkFits(t, x, slices.Repeat([]int{1}, batches), batches == n)
			checkFits(t, x, slices.Repeat([]int{0}, batches), batches == 0 && n == 0)
			checkFits(t, x, slices.Repeat([]int{-1}, batches), batches == 0 && n == 0)
		}
	}
}

func TestBatchOfExamples(t *testing.T) {
	for _, c := range []struct {
		cut        []int
		item, want int
	}{
		{[]int{2, 2}, 0, 0}, {[]int{2, 2}, 1, 0}, {[]int{2, 2}, 2, 1}, {[]int{2, 2}, 3, 1}, {[]int{2, 2}, 4, -1}, {[]int{2, 2}, -1, -1},
		{[]int{1, 3, 2}, 0, 0}, {[]int{1, 3, 2}, 1, 1}, {[]int{1, 3, 2}, 3, 1}, {[]int{1, 3, 2}, 4, 2}, {[]int{1, 3, 2}, 5, 2}, {[]int{1, 3, 2}, 6, -1},
		{[]int{1}, 0, 0}, {[]int{1}, 1, -1}, {[]int{20}, 0, 0}, {[]int{20}, 19, 0}, {[]int{20}, 20, -1},
		{nil, 0, -1}, {[]int{}, 0, -1}, {nil, -1, -1}, {nil, 1, -1}, {nil, math.MaxInt, -1}, {nil, math.MinInt, -1},
		{[]int{2, 2}, math.MaxInt, -1}, {[]int{2, 2}, math.MinInt, -1}, {[]int{20, 20}, 25, 1}, {[]int{20, 20}, 39, 1}, {[]int{20, 20}, 40, -1},
		{[]int{2, 0, 2}, 1, 0}, {[]int{2, 0, 2}, 2, -1}, {[]int{0, 2}, 0, -1}, {[]int{0}, 0, -1}, {[]int{2, 2, 0}, 3, 1},
		{[]int{2, 21, 2}, 1, 0}, {[]int{2, 21, 2}, 2, -1}, {[]int{2, 21, 2}, 22, -1}, {[]int{2, 21, 2}, 23, -1}, {[]int{21}, 0, -1}, {[]int{2, 2, 21}, 3, 1},
		{[]int{2, -1, 2}, 1, 0}, {[]int{2, -1, 2}, 2, -1}, {[]int{-1, 2}, 0, -1}, {[]int{2, 2, -1}, 3, 1},
	} {
		checkOf(t, c.cut, c.item, c.want)
	}
}

// TestBatchOfEnds checks the first and the last item of each batch, and the items before and behind all of them.
func TestBatchOfEnds(t *testing.T) {
	r := rand.New(rand.NewPCG(11, 12))
	for batches := range impl.MaxItems + 1 {
		for range 50 {
			cut := []int{}
			for range batches {
				cut = append(cut, []int{1, 20, 1 + r.IntN(20)}[r.IntN(3)])
			}
			first := 0
			for i, number := range cut {
				checkOf(t, cut, first, i)
				checkOf(t, cut, first+number-1, i)
				first += number
			}
			for _, item := range []int{-1, -2, -20, -first, math.MinInt, first, first + 1, 400, 401, math.MaxInt} {
				checkOf(t, cut, item, -1)
			}
		}
	}
}

// TestBatchOfBadBatch puts a number out of range before, at and after the batch of each item.
func TestBatchOfBadBatch(t *testing.T) {
	for _, good := range [][]int{{}, {1}, {20}, {3, 2}, {1, 20, 1}, {1, 2, 3, 4, 5}, slices.Repeat([]int{1}, 19), slices.Repeat([]int{20}, 19)} {
		for _, bad := range noNumbers {
			for at := range len(good) + 1 {
				cut := slices.Insert(slices.Clone(good), at, bad)
				before := total(good[:at])
				for item := range total(good) + 22 {
					if item < before {
						checkOf(t, cut, item, wantedOf(good, item))
					} else {
						checkOf(t, cut, item, -1)
					}
				}
				checkOf(t, cut, -1, -1)
				checkOf(t, cut, math.MinInt, -1)
				checkOf(t, cut, math.MaxInt, -1)
			}
		}
	}
}

// TestBatchOfManyBatches checks MaxItems batches, of which each may be the one, and one more, where not even the first is.
func TestBatchOfManyBatches(t *testing.T) {
	for _, number := range []int{1, 2, 19, 20} {
		most := slices.Repeat([]int{number}, 20)
		for item := range 20 * number {
			checkOf(t, most, item, item/number)
		}
		checkOf(t, most, 20*number, -1)
		for _, batches := range []int{21, 22, 40, 400} {
			tooMany := slices.Repeat([]int{number}, batches)
			for _, item := range []int{-1, 0, 1, number, 20*number - 1, 20 * number, 21*number - 1, 21 * number} {
				checkOf(t, tooMany, item, -1)
			}
		}
	}
}

// TestBatchOfIsAsSaid compares BatchOf with the words of the document, for all lists of few numbers, also out of range.
func TestBatchOfIsAsSaid(t *testing.T) {
	for size := range 5 {
		for _, cut := range tuples([]int{-1, 0, 1, 2, 19, 20, 21}, size) {
			for item := -1; item <= 84; item++ {
				checkOf(t, cut, item, wantedOf(cut, item))
			}
		}
	}
}

// TestP30 checks that BatchFits accepts BatchCut of valid items.
func TestP30(t *testing.T) {
	for _, x := range validItems() {
		cut := cutOf(x)
		checkFits(t, x, cut, true)
		if !wantedFits(x, cut) {
			t.Errorf("BatchCut(%v, %d, %d) = %v does not fit", x.sizes, x.bytes, x.many, cut)
		}
	}
}

// TestP31 checks that none of all divisions that BatchFits accepts has fewer batches than BatchCut.
func TestP31(t *testing.T) {
	for _, x := range fewItems() {
		for _, cut := range divisions(len(x.sizes)) {
			if impl.BatchFits(x.sizes, x.bytes, x.many, cut) && len(cut) < len(cutOf(x)) {
				t.Errorf("BatchCut(%v, %d, %d) = %v, but %v is accepted", x.sizes, x.bytes, x.many, cutOf(x), cut)
			}
		}
	}
	for _, x := range validItems() {
		if got := cutOf(x); len(got) != fewestBatches(x) {
			t.Errorf("BatchCut(%v, %d, %d) = %v, but %d batches are enough", x.sizes, x.bytes, x.many, got, fewestBatches(x))
		}
	}
}

// TestP32 checks that no batch but the last one has space for the next item.
func TestP32(t *testing.T) {
	for _, x := range validItems() {
		cut, first := cutOf(x), 0
		for i, number := range cut {
			if i == len(cut)-1 {
				break
			}
			longer := x.sizes[first : first+number+1]
			if len(longer) <= x.many && total(longer) <= x.bytes {
				t.Errorf("BatchCut(%v, %d, %d) = %v: batch %d has space for one more", x.sizes, x.bytes, x.many, cut, i)
			}
			first += number
		}
	}
}

// TestP33 checks that the batches have all items together, and BatchOf of each item is the batch that has it.
func TestP33(t *testing.T) {
	for _, x := range validItems() {
		cut := cutOf(x)
		if total(cut) != len(x.sizes) {
			t.Errorf("BatchCut(%v, %d, %d) = %v", x.sizes, x.bytes, x.many, cut)
		}
		item := 0
		for i, number := range cut {
			for range number {
				checkOf(t, cut, item, i)
				item++
			}
		}
		checkOf(t, cut, item, -1)
		checkOf(t, cut, -1, -1)
	}
}

// TestP34 checks that BatchCut of the first items is the beginning of BatchCut of all, but for the last batch, which may be smaller.
func TestP34(t *testing.T) {
	for _, x := range validItems() {
		all := cutOf(x)
		for n := 1; n <= len(x.sizes); n++ {
			cut := cutOf(items{x.sizes[:n], x.bytes, x.many})
			last := len(cut) - 1
			if last < 0 || last >= len(all) || !slices.Equal(cut[:last], all[:last]) || cut[last] > all[last] || total(cut) != n {
				t.Fatalf("BatchCut(%v, %d, %d) = %v, but %v of the first %d", x.sizes, x.bytes, x.many, all, cut, n)
			}
		}
	}
}

// TestP35 checks that one more byte, or one more item, does not lead to more batches, unless the limit becomes invalid.
func TestP35(t *testing.T) {
	for _, x := range validItems() {
		cut := cutOf(x)
		for _, wider := range []items{{x.sizes, x.bytes + 1, x.many}, {x.sizes, x.bytes, x.many + 1}} {
			if wider.bytes > impl.MaxBytes || wider.many > impl.MaxItems {
				checkNoItems(t, wider)
				continue
			}
			if got := cutOf(wider); len(got) > len(cut) || total(got) != len(x.sizes) {
				t.Errorf("BatchCut(%v, %d, %d) = %v, but %v with the limits %d and %d", x.sizes, x.bytes, x.many, cut, got, wider.bytes, wider.many)
			}
		}
	}
	checkCut(t, items{[]int{4, 4, 4}, 7, 2}, []int{1, 1, 1})
	checkCut(t, items{[]int{4, 4, 4}, 8, 2}, []int{2, 1})
	checkCut(t, items{[]int{4, 4, 4}, 12, 2}, []int{2, 1})
	checkCut(t, items{[]int{4, 4, 4}, 12, 3}, []int{3})
}

// TestP36 checks that there is a batch of one item for each item if a batch may not have more.
func TestP36(t *testing.T) {
	for _, x := range validItems() {
		checkCut(t, items{x.sizes, x.bytes, 1}, slices.Repeat([]int{1}, len(x.sizes)))
	}
}

// TestP37 checks that there is one batch if all items respect both limits together, just or amply, and more otherwise.
func TestP37(t *testing.T) {
	for _, x := range validItems() {
		n, sum := len(x.sizes), total(x.sizes)
		if n == 0 {
			checkCut(t, x, nil)
			continue
		}
		if sum <= impl.MaxBytes {
			for _, bytes := range []int{sum, min(sum+1, 99), 99} {
				for _, many := range []int{n, min(n+1, 20), 20} {
					checkCut(t, items{x.sizes, bytes, many}, []int{n})
				}
			}
		}
		if got := cutOf(x); (len(got) == 1) != (n <= x.many && sum <= x.bytes) {
			t.Errorf("BatchCut(%v, %d, %d) = %v", x.sizes, x.bytes, x.many, got)
		}
	}
}

// TestBatchCutMemory checks that BatchCut leaves its argument, and what is behind it, and returns memory of its own.
func TestBatchCutMemory(t *testing.T) {
	for _, x := range append(validItems(), badItems()...) {
		sizes := spare(x.sizes)
		before := whole(sizes)
		first, second := impl.BatchCut(sizes, x.bytes, x.many), impl.BatchCut(sizes, x.bytes, x.many)
		want := whole(second)
		overwrite(first)
		if whole(sizes) != before || whole(second) != want {
			t.Errorf("BatchCut(%v, %d, %d): memory of the argument or of another result was changed", x.sizes, x.bytes, x.many)
		}
		overwrite(sizes)
		if whole(second) != want {
			t.Errorf("BatchCut(%v, %d, %d): the result shares memory with the argument", x.sizes, x.bytes, x.many)
		}
	}
}

// TestBatchesMemory checks that the other functions leave their arguments, and what is behind them, as they are.
func TestBatchesMemory(t *testing.T) {
	for _, x := range append(validItems(), badItems()...) {
		for _, list := range [][]int{cutOf(x), {}, {1, 0, 30}, slices.Repeat([]int{1}, 21)} {
			sizes, cut := spare(x.sizes), spare(list)
			beforeSizes, beforeCut := whole(sizes), whole(cut)
			impl.BatchesValid(sizes, x.bytes, x.many)
			impl.BatchFits(sizes, x.bytes, x.many, cut)
			for _, item := range []int{-1, 0, 1, len(sizes)} {
				impl.BatchOf(cut, item)
			}
			if whole(sizes) != beforeSizes || whole(cut) != beforeCut {
				t.Errorf("an argument was changed: %v or %v", x.sizes, list)
			}
		}
	}
}
