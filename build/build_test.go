package build_test

import (
	"container/heap"
	"math"
	"slices"
	"sort"
	"testing"

	"bellows/api"
	"bellows/build"
	"bellows/canon"
)

// bundle is a parcel by the chapter's words: its weight, and how often each symbol is in it.
type bundle struct {
	weight int
	pair   bool
	made   []int
}

// judge is what the chapter asks of frequencies, by its words alone, so that it shares nothing with the package.
func judge(freq []int, most int) ([]uint8, api.Errno) {
	if most < 1 || most > 15 {
		return nil, api.ErrArg
	}
	if len(freq) > 320 {
		return nil, api.ErrMany
	}
	for _, f := range freq {
		if f < 0 || f > 1073741824 {
			return nil, api.ErrArg
		}
	}
	items := itemsOf(freq)
	if float64(len(items)) > math.Pow(2, float64(most)) {
		return nil, api.ErrMany
	}
	lengths := make([]uint8, len(freq))
	if len(items) == 1 {
		lengths[items[0].made[0]] = 1
	}
	row := items
	for range most - 1 {
		row = behind(items, row)
	}
	for i := range 2*len(items) - 2 {
		for _, sym := range row[i].made {
			lengths[sym]++
		}
	}
	return lengths, api.OK
}

// itemsOf are the items, picked one by one: the first one of those that are least.
func itemsOf(freq []int) []bundle {
	var items []bundle
	rest := slices.Clone(freq)
	for {
		least := -1
		for sym, f := range rest {
			if f > 0 && (least < 0 || f < rest[least]) {
				least = sym
			}
		}
		if least < 0 {
			return items
		}
		items = append(items, bundle{weight: rest[least], made: []int{least}})
		rest[least] = 0
	}
}

// behind is the row behind a row: all items and all pairs, put in order by a sort with every rule told.
func behind(items, row []bundle) []bundle {
	all := slices.Clone(items)
	for i := 1; i < len(row); i += 2 {
		made := slices.Concat(row[i-1].made, row[i].made)
		all = append(all, bundle{weight: row[i-1].weight + row[i].weight, pair: true, made: made})
	}
	place := make([]int, len(all))
	for i := range place {
		place[i] = i
	}
	sort.Slice(place, func(x, y int) bool {
		a, b := all[place[x]], all[place[y]]
		if a.weight != b.weight {
			return a.weight < b.weight
		}
		if a.pair != b.pair {
			return b.pair
		}
		return place[x] < place[y]
	})
	next := make([]bundle, len(all))
	for i, at := range place {
		next[i] = all[at]
	}
	return next
}

// ask asks Lengths of frequencies for what the chapter's words tell, and for what follows from them.
func ask(t *testing.T, freq []int, most int) {
	t.Helper()
	want, wantE := judge(freq, most)
	l, e := build.Lengths(freq, most)
	if e != wantE || !slices.Equal(l, want) || e != api.OK && l != nil {
		t.Fatalf("Lengths(%v, %d) is %v, %d, not %v, %d", freq, most, l, e, want, wantE)
	}
	if e == api.OK {
		follow(t, freq, most, l)
	}
}

// follow asks whether lengths may be, are those of items alone, and go down where frequencies go up.
func follow(t *testing.T, freq []int, most int, l []uint8) {
	t.Helper()
	if f := canon.Check(l, most); f != api.OK || len(l) != len(freq) {
		t.Fatalf("Lengths(%v, %d) is %v, which may not be: %d", freq, most, l, f)
	}
	last := -1
	for _, item := range itemsOf(freq) {
		sym := item.made[0]
		if l[sym] < 1 || int(l[sym]) > most {
			t.Fatalf("Lengths(%v, %d) is %v: %d bits for %d", freq, most, l, l[sym], sym)
		}
		if last >= 0 && l[last] < l[sym] {
			t.Fatalf("Lengths(%v, %d) is %v: %d is shorter than %d", freq, most, l, last, sym)
		}
		last = sym
	}
	for sym, f := range freq {
		if f == 0 && l[sym] != 0 {
			t.Fatalf("Lengths(%v, %d) is %v: %d is no item", freq, most, l, sym)
		}
	}
}

// cost is each frequency times its length, together.
func cost(freq []int, l []uint8) int {
	all := 0
	for i, f := range freq {
		all += f * int(l[i])
	}
	return all
}

// cheapest is the least cost of lengths from 1 to most that are together at most 1, by trying each; room is how many codes of most bits are left.
func cheapest(freq []int, most, room int) int {
	if len(freq) == 0 {
		return 0
	}
	best := math.MaxInt
	for long := 1; long <= most; long++ {
		left := room - 1<<(most-long)
		// Each item behind needs one code at least.
		if left < len(freq)-1 {
			continue
		}
		if c := cheapest(freq[1:], most, left); c < math.MaxInt {
			best = min(best, c+long*freq[0])
		}
	}
	return best
}

// planned is the least cost of items in falling order, of most bits at most, for more of them than can be tried: at each depth, by how many have a code so far, and how many places there are.
func planned(freq []int, most int) int {
	falling := slices.Clone(freq)
	slices.SortFunc(falling, func(a, b int) int { return b - a })
	n := len(falling)
	rest := make([]int, n+1)
	for i := n - 1; i >= 0; i-- {
		rest[i] = rest[i+1] + falling[i]
	}
	ways := map[[2]int]int{{0, 1}: 0}
	for range most {
		next := map[[2]int]int{}
		for state, c := range ways {
			have, places := state[0], min(2*state[1], n-state[0])
			for more := range min(places, n-have) + 1 {
				to := [2]int{have + more, places - more}
				if was, ok := next[to]; !ok || c+rest[have] < was {
					next[to] = c + rest[have]
				}
			}
		}
		// Those that had all before stay as they are.
		for state, c := range ways {
			if was, ok := next[[2]int{n, 0}]; state[0] == n && (!ok || c < was) {
				next[[2]int{n, 0}] = c
			}
		}
		ways = next
	}
	best := math.MaxInt
	for state, c := range ways {
		if state[0] == n {
			best = min(best, c)
		}
	}
	return best
}

// weights is a heap of numbers.
type weights struct{ sort.IntSlice }

func (w *weights) Push(x any) { w.IntSlice = append(w.IntSlice, x.(int)) }

func (w *weights) Pop() any {
	last := w.IntSlice[len(w.IntSlice)-1]
	w.IntSlice = w.IntSlice[:len(w.IntSlice)-1]
	return last
}

// unbound is the least cost without a limit of bits: the two least ones are put together, over and over.
func unbound(freq []int) int {
	w := &weights{}
	for _, f := range freq {
		if f > 0 {
			w.IntSlice = append(w.IntSlice, f)
		}
	}
	heap.Init(w)
	all := 0
	for w.Len() > 1 {
		both := heap.Pop(w).(int) + heap.Pop(w).(int)
		all += both
		heap.Push(w, both)
	}
	return all
}

// chance gives numbers that look like chance and are always the same.
type chance uint64

func (c *chance) below(n int) int {
	*c ^= *c << 13
	*c ^= *c >> 7
	*c ^= *c << 17
	return int(uint64(*c>>16) % uint64(n))
}

// freq is so many frequencies, each below top, but for some that are 0.
func (c *chance) freq(symbols, top, none int) []int {
	l := make([]int, symbols)
	for i := range l {
		if c.below(100) >= none {
			l[i] = c.below(top)
		}
	}
	return l
}

// mixed shuffles frequencies where they stand.
func (c *chance) mixed(freq []int) []int {
	for i := range freq {
		k := i + c.below(len(freq)-i)
		freq[i], freq[k] = freq[k], freq[i]
	}
	return freq
}

// times is one frequency, so many times.
func times(f, many int) []int {
	return slices.Repeat([]int{f}, many)
}

// steep is 1 2 4 8 .. , which needs as long codes as may be.
func steep(n int) []int {
	l := make([]int, n)
	for i := range l {
		l[i] = 1 << i
	}
	return l
}

// golden is 1 1 2 3 5 .. , at which items and pairs weigh the same or nearly so.
func golden(n int) []int {
	l := make([]int, n)
	for i := range l {
		l[i] = 1
		if i > 1 {
			l[i] = l[i-1] + l[i-2]
		}
	}
	return l
}

// each calls f with every row of so many numbers, each below top.
func each(symbols, top int, f func([]int)) {
	rows := 1
	for range symbols {
		rows *= top
	}
	for row := range rows {
		l := make([]int, symbols)
		for i := range l {
			l[i] = row % top
			row /= top
		}
		f(l)
	}
}

// P4.1: each row of up to 6 frequencies, each from 0 to 4, of 1 bit at most to 4, and of 15.
func TestEachShortRow(t *testing.T) {
	for symbols := range 7 {
		each(symbols, 5, func(freq []int) {
			for _, most := range []int{1, 2, 3, 4, 15} {
				ask(t, freq, most)
			}
		})
	}
}

// P4.1: rows of many symbols, of few unlike frequencies and of many, of each number of bits.
func TestLongRows(t *testing.T) {
	c := chance(88172645463325252)
	for most := 1; most <= 15; most++ {
		for _, top := range []int{2, 3, 5, 20, 300, 1 << 16, api.MaxFreq + 1} {
			for _, none := range []int{0, 50, 90} {
				for range 3 {
					ask(t, c.freq(1+c.below(api.MaxSyms), top, none), most)
				}
			}
		}
	}
}

// P4.1: rows that need longer codes than may be, in their order, the other way round, and mixed.
func TestRowsThatNeedLongCodes(t *testing.T) {
	c := chance(7)
	for _, freq := range [][]int{
		steep(31), steep(16), steep(17), steep(5), golden(44), golden(16), golden(17), golden(9),
		append(steep(31), times(1, 200)...), append(golden(40), times(1, 280)...), append(steep(31), times(api.MaxFreq, 289)...),
	} {
		for most := 1; most <= 15; most++ {
			ask(t, freq, most)
			back := slices.Clone(freq)
			slices.Reverse(back)
			ask(t, back, most)
			ask(t, c.mixed(back), most)
		}
	}
}

// P4.1: a most that may not be, ahead of all that is wrong with frequencies.
func TestWrongMost(t *testing.T) {
	for _, most := range []int{0, -1, -15, 16, 17, 31, 32, 64, 255, 256, 257, 1 << 32, 1<<32 + 1, math.MaxInt, math.MinInt, math.MinInt + 1} {
		for _, freq := range [][]int{nil, {}, {0}, {7}, {1, 1}, {-1}, {api.MaxFreq + 1}, times(1, 320), times(0, 321), times(-1, 400)} {
			if l, e := build.Lengths(freq, most); l != nil || e != api.ErrArg {
				t.Error(freq, most, l, e)
			}
		}
	}
}

// P4.1: as many symbols as may be, and one more, which is told ahead of frequencies that may not be.
func TestHowManySymbols(t *testing.T) {
	for i, x := range []struct {
		freq []int
		e    api.Errno
	}{
		{times(0, 320), api.OK},
		{times(1, 320), api.OK},
		{times(api.MaxFreq, 320), api.OK},
		{append(times(0, 319), 1), api.OK},
		{append(times(0, 319), -1), api.ErrArg},
		{append(times(0, 319), api.MaxFreq+1), api.ErrArg},
		{times(-1, 320), api.ErrArg},
		{times(0, 321), api.ErrMany},
		{times(1, 321), api.ErrMany},
		{times(-1, 321), api.ErrMany},
		{append(times(0, 320), -1), api.ErrMany},
		{times(math.MaxInt, 321), api.ErrMany},
		{append([]int{api.MaxFreq + 1}, times(0, 320)...), api.ErrMany},
		{times(0, 1<<20), api.ErrMany},
		{times(math.MinInt, 1<<20), api.ErrMany},
	} {
		l, e := build.Lengths(x.freq, 15)
		if e != x.e || e != api.OK && l != nil {
			t.Error(i, len(l), e)
		}
		for most := 1; most <= 15; most++ {
			ask(t, x.freq, most)
		}
	}
}

// P4.1: frequencies from 0 to MaxFreq, wherever they stand, and those that may not be, also ahead of too many items.
func TestWrongFrequencies(t *testing.T) {
	for _, x := range []struct {
		f int
		e api.Errno
	}{
		{0, api.OK}, {1, api.OK}, {api.MaxFreq - 1, api.OK}, {api.MaxFreq, api.OK},
		{-1, api.ErrArg}, {api.MaxFreq + 1, api.ErrArg}, {-api.MaxFreq, api.ErrArg}, {1 << 31, api.ErrArg},
		{1 << 32, api.ErrArg}, {1<<32 + 1, api.ErrArg}, {-1 << 32, api.ErrArg}, {math.MaxInt, api.ErrArg}, {math.MinInt, api.ErrArg},
	} {
		for _, symbols := range []int{1, 2, 3, 30, 320} {
			for _, other := range []int{0, 1, 5} {
				for _, at := range []int{0, symbols / 2, symbols - 1} {
					freq := times(other, symbols)
					freq[at] = x.f
					if l, e := build.Lengths(freq, 15); e != x.e || e != api.OK && l != nil {
						t.Error(x, symbols, other, at, l, e)
					}
					ask(t, freq, 15)
					ask(t, freq, 1)
				}
			}
		}
	}
}

// P4.1: of each number of bits as many items as there are codes, and one more; symbols that are no items don't count.
func TestHowManyItems(t *testing.T) {
	c := chance(5)
	for most := 1; most <= 8; most++ {
		for _, f := range []int{1, 9, api.MaxFreq} {
			for _, none := range []int{0, 1, 63} {
				full := append(times(0, none), times(f, 1<<most)...)
				for range 3 {
					l, e := build.Lengths(c.mixed(full), most)
					for sym, n := range l {
						if (full[sym] > 0) != (int(n) == most) {
							t.Error(most, f, none, l)
						}
					}
					if e != api.OK || len(l) != len(full) {
						t.Error(most, f, none, e)
					}
					ask(t, full, most)
				}
				over := append(slices.Clone(full), f)
				if l, e := build.Lengths(over, most); l != nil || e != api.ErrMany {
					t.Error(most, f, none, l, e)
				}
			}
		}
	}
	for items := range 321 {
		for most := 1; most <= 15; most++ {
			want := api.OK
			if items > 1<<most {
				want = api.ErrMany
			}
			if _, e := build.Lengths(append(times(0, 320-items), times(3, items)...), most); e != want {
				t.Error(items, most, e)
			}
		}
	}
}

// P4.1: no item, or one, wherever it stands.
func TestNoItemOrOne(t *testing.T) {
	for symbols := range 321 {
		for most := 1; most <= 15; most++ {
			if l, e := build.Lengths(times(0, symbols), most); e != api.OK || !slices.Equal(l, make([]uint8, symbols)) {
				t.Fatal(symbols, most, l, e)
			}
		}
		for _, at := range []int{0, symbols / 2, symbols - 1} {
			for _, f := range []int{1, 2, api.MaxFreq} {
				if symbols == 0 {
					continue
				}
				freq, want := times(0, symbols), make([]uint8, symbols)
				freq[at], want[at] = f, 1
				if l, e := build.Lengths(freq, 1+at%15); e != api.OK || !slices.Equal(l, want) {
					t.Fatal(symbols, at, f, l, e)
				}
			}
		}
	}
	for _, freq := range [][]int{nil, {}} {
		if l, e := build.Lengths(freq, 1); len(l) != 0 || e != api.OK {
			t.Error(l, e)
		}
	}
}

// P4.1: of one frequency the earlier symbols are the ones that are not shorter, at each number of them.
func TestAllOfOneFrequency(t *testing.T) {
	for items := 2; items <= 320; items++ {
		long := 0
		for 1<<long < items {
			long++
		}
		l, e := build.Lengths(times(4, items), 15)
		deep := 2 * (items - 1<<long/2)
		for sym, n := range l {
			if want := long; sym < deep && int(n) != want || sym >= deep && int(n) != want-1 {
				t.Fatal(items, sym, l)
			}
		}
		if e != api.OK || len(l) != items {
			t.Fatal(items, e)
		}
	}
}

// P4.1: of one weight items stand ahead of pairs, and so get the shorter codes where both would cost the same.
func TestItemsStandAheadOfPairs(t *testing.T) {
	for i, x := range []struct {
		freq []int
		want []uint8
	}{
		{[]int{1, 1, 2, 2}, []uint8{2, 2, 2, 2}},
		{[]int{2, 2, 1, 1}, []uint8{2, 2, 2, 2}},
		{[]int{1, 1, 2, 3, 3}, []uint8{3, 3, 2, 2, 2}},
		{[]int{3, 2, 1, 3, 1}, []uint8{2, 2, 3, 2, 3}},
		{[]int{1, 1, 2, 3, 5}, []uint8{4, 4, 3, 2, 1}},
		{[]int{1, 1, 1, 3, 3}, []uint8{3, 3, 2, 2, 2}},
	} {
		if l, e := build.Lengths(x.freq, 15); e != api.OK || !slices.Equal(l, x.want) {
			t.Error(i, l, e)
		}
		ask(t, x.freq, 15)
	}
}

// P4.1: weights that are more than 32 bits hold, and those that differ by 1 alone.
func TestGreatWeights(t *testing.T) {
	c := chance(11)
	for range 40 {
		freq := make([]int, 2+c.below(319))
		for i := range freq {
			freq[i] = api.MaxFreq - c.below(3)
		}
		for most := 1; most <= 15; most++ {
			ask(t, freq, most)
		}
		if l, e := build.Lengths(freq, 15); e != api.OK || cost(freq, l) != unbound(freq) {
			t.Fatal(freq, l, e)
		}
	}
}

// P4.2: neither frequencies nor the memory behind them are written to, and a second call answers the same.
func TestReadingChangesNothing(t *testing.T) {
	c := chance(2)
	for _, freq := range [][]int{c.freq(320, 900, 20), c.freq(40, 4, 0), steep(31), {}, {0, 0}, {0, 7, 0}, {3, 1, 2}, {5, -1}, times(3, 321)} {
		for _, most := range []int{1, 9, 15, 16} {
			memory := append(slices.Clone(freq), times(77, 30)...)
			before := slices.Clone(memory)
			handed := memory[:len(freq)]
			l, e := build.Lengths(handed, most)
			for range 3 {
				again, f := build.Lengths(handed, most)
				if f != e || !slices.Equal(again, l) {
					t.Error(freq, most, "a second call answers otherwise")
				}
			}
			if !slices.Equal(memory, before) {
				t.Error(freq, most, "what was handed in is not as it was")
			}
		}
	}
}

// P4.2: lengths that were answered are their caller's: what becomes of them shows in no others.
func TestLengthsAreApart(t *testing.T) {
	for _, freq := range [][]int{{5, 9, 12, 13, 16, 45}, {0, 7, 0}, {0, 0}, times(2, 320)} {
		kept, _ := build.Lengths(freq, 15)
		first, _ := build.Lengths(freq, 15)
		before := slices.Clone(kept)
		first = first[:cap(first)]
		for i := range first {
			first[i] = 99
		}
		if again, _ := build.Lengths(freq, 15); !slices.Equal(kept, before) || !slices.Equal(again, before) {
			t.Error(freq, "memory is shared")
		}
	}
}

// P4.3: no other lengths cost less: of up to 6 items each of the others is tried.
func TestNoOthersCostLess(t *testing.T) {
	try := func(freq []int, most int) {
		l, e := build.Lengths(freq, most)
		if e != api.OK {
			t.Fatal(freq, most, e)
		}
		if best := cheapest(freq, most, 1<<most); cost(freq, l) != best {
			t.Fatalf("Lengths(%v, %d) is %v, which costs %d, not %d", freq, most, l, cost(freq, l), best)
		}
		follow(t, freq, most, l)
	}
	for items := 1; items <= 4; items++ {
		each(items, 6, func(freq []int) {
			for i := range freq {
				freq[i]++
			}
			for most := 2; most <= 4; most++ {
				try(freq, most)
			}
		})
	}
	c := chance(3)
	for range 400 {
		freq := c.freq(1+c.below(6), 1<<(1+c.below(12)), 0)
		for i := range freq {
			freq[i]++
		}
		for most := 3; most <= 6; most++ {
			try(freq, most)
		}
	}
}

// P4.3: no other lengths of many items cost less, of few bits and of many, wherever symbols without a code stand.
func TestNoOthersOfManyItemsCostLess(t *testing.T) {
	c := chance(4)
	rows := [][]int{golden(24), steep(24), steep(31), append(golden(20), times(1, 12)...)}
	for range 40 {
		freq := c.freq(2+c.below(40), 1<<(1+c.below(20)), 0)
		for i := range freq {
			freq[i]++
		}
		rows = append(rows, freq)
	}
	for _, freq := range rows {
		for most := 1; most <= 15; most++ {
			if len(freq) > 1<<most {
				continue
			}
			apart := c.mixed(append(slices.Clone(freq), times(0, c.below(30))...))
			l, e := build.Lengths(apart, most)
			if best := planned(freq, most); e != api.OK || cost(apart, l) != best {
				t.Fatalf("Lengths(%v, %d) is %v, %d, which costs %d, not %d", apart, most, l, e, cost(apart, l), best)
			}
			follow(t, apart, most, l)
		}
	}
}

// P4.3: where the limit does not bind, the cost is that of putting the two least ones together, over and over.
func TestCostWithoutALimit(t *testing.T) {
	c := chance(6)
	for range 300 {
		freq := c.freq(1+c.below(api.MaxSyms), 2+c.below(40), c.below(100))
		l, e := build.Lengths(freq, 15)
		want := unbound(freq)
		if len(itemsOf(freq)) == 1 {
			want = slices.Max(freq)
		}
		if e != api.OK || cost(freq, l) != want {
			t.Fatalf("Lengths(%v, 15) is %v, %d, which costs %d, not %d", freq, l, e, cost(freq, l), want)
		}
		follow(t, freq, 15, l)
	}
	for items := 2; items <= 16; items++ {
		freq := steep(items)
		if l, e := build.Lengths(freq, 15); e != api.OK || cost(freq, l) != unbound(freq) || int(l[0]) != items-1 {
			t.Error(items, l, e)
		}
	}
}

// The chapter's examples.
func TestExamples(t *testing.T) {
	for i, x := range []struct {
		freq []int
		most int
		want []uint8
		e    api.Errno
	}{
		{[]int{5, 9, 12, 13, 16, 45}, 15, []uint8{4, 4, 3, 3, 3, 1}, api.OK},
		{[]int{1, 1, 2, 4, 8}, 3, []uint8{3, 3, 3, 3, 1}, api.OK},
		{[]int{1, 1, 1}, 15, []uint8{2, 2, 1}, api.OK},
		{[]int{0, 7, 0}, 15, []uint8{0, 1, 0}, api.OK},
		{nil, 15, nil, api.OK},
		{[]int{1, 1, 1}, 1, nil, api.ErrMany},
		{[]int{-1}, 15, nil, api.ErrArg},
	} {
		if l, e := build.Lengths(x.freq, x.most); e != x.e || !slices.Equal(l, x.want) {
			t.Error(i, l, e)
		}
	}
}
