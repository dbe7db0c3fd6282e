package reach_test

import (
	"math"
	"slices"
	"testing"

	"bellows/api"
	"bellows/reach"
)

// row is a symbol as the chapter tells it: how many extra bits it has, and its least number and its greatest one.
type row struct {
	sym, bits, from, to int
}

// longs are the symbols of lengths, one by one, so that they share nothing with the package.
var longs = []row{
	{257, 0, 3, 3}, {258, 0, 4, 4}, {259, 0, 5, 5}, {260, 0, 6, 6}, {261, 0, 7, 7}, {262, 0, 8, 8}, {263, 0, 9, 9}, {264, 0, 10, 10},
	{265, 1, 11, 12}, {266, 1, 13, 14}, {267, 1, 15, 16}, {268, 1, 17, 18},
	{269, 2, 19, 22}, {270, 2, 23, 26}, {271, 2, 27, 30}, {272, 2, 31, 34},
	{273, 3, 35, 42}, {274, 3, 43, 50}, {275, 3, 51, 58}, {276, 3, 59, 66},
	{277, 4, 67, 82}, {278, 4, 83, 98}, {279, 4, 99, 114}, {280, 4, 115, 130},
	{281, 5, 131, 162}, {282, 5, 163, 194}, {283, 5, 195, 226}, {284, 5, 227, 257},
	{285, 0, 258, 258},
}

// fars are those of distances.
var fars = []row{
	{0, 0, 1, 1}, {1, 0, 2, 2}, {2, 0, 3, 3}, {3, 0, 4, 4},
	{4, 1, 5, 6}, {5, 1, 7, 8}, {6, 2, 9, 12}, {7, 2, 13, 16},
	{8, 3, 17, 24}, {9, 3, 25, 32}, {10, 4, 33, 48}, {11, 4, 49, 64},
	{12, 5, 65, 96}, {13, 5, 97, 128}, {14, 6, 129, 192}, {15, 6, 193, 256},
	{16, 7, 257, 384}, {17, 7, 385, 512}, {18, 8, 513, 768}, {19, 8, 769, 1024},
	{20, 9, 1025, 1536}, {21, 9, 1537, 2048}, {22, 10, 2049, 3072}, {23, 10, 3073, 4096},
	{24, 11, 4097, 6144}, {25, 11, 6145, 8192}, {26, 12, 8193, 12288}, {27, 12, 12289, 16384},
	{28, 13, 16385, 24576}, {29, 13, 24577, 32768},
}

// kind is lengths or distances: their symbols, and the calls that tell of them.
type kind struct {
	name   string
	rows   []row
	symbol func(int) (int, int, int, api.Errno)
	bits   func(int) (int, api.Errno)
	number func(int, int) (int, api.Errno)
}

// kinds are both.
var kinds = []kind{
	{"lengths", longs, reach.Long, reach.LongBits, reach.LongOf},
	{"distances", fars, reach.Far, reach.FarBits, reach.FarOf},
}

// row is the symbol's, and whether there is one.
func (k kind) row(sym int) (row, bool) {
	i := slices.IndexFunc(k.rows, func(r row) bool { return r.sym == sym })
	if i < 0 {
		return row{}, false
	}
	return k.rows[i], true
}

// least and most are the least number of a kind, and the greatest one.
func (k kind) least() int { return k.rows[0].from }
func (k kind) most() int  { return k.rows[len(k.rows)-1].to }

// tells asks for a number's symbol, and holds all that is answered against what is told.
func (k kind) tells(t *testing.T, n, sym, bits, extra int, e api.Errno) {
	t.Helper()
	if s, b, x, f := k.symbol(n); s != sym || b != bits || x != extra || f != e {
		t.Errorf("%s: %d is %d, %d, %d, error %d, not %d, %d, %d, error %d", k.name, n, s, b, x, f, sym, bits, extra, e)
	}
}

// has asks for a symbol's extra bits, and holds all that is answered against what is told.
func (k kind) has(t *testing.T, sym, bits int, e api.Errno) {
	t.Helper()
	if b, f := k.bits(sym); b != bits || f != e {
		t.Errorf("%s: bits of %d are %d, error %d, not %d, error %d", k.name, sym, b, f, bits, e)
	}
}

// means asks for a symbol's number, and holds all that is answered against what is told.
func (k kind) means(t *testing.T, sym, extra, n int, e api.Errno) {
	t.Helper()
	if m, f := k.number(sym, extra); m != n || f != e {
		t.Errorf("%s: %d with %d is %d, error %d, not %d, error %d", k.name, sym, extra, m, f, n, e)
	}
}

// wild are numbers that are none of a kind, and no symbol's; some of them are so far off that their lowest bits are those of one that is.
var wild = []int{
	math.MinInt, math.MinInt + 1, math.MinInt + 3, math.MinInt + 258, math.MinInt + 265, -1 << 33, -1<<32 + 3, -1<<32 + 265, -1 << 31, -1 << 17, -1<<16 + 3, -32769, -32768,
	-286, -285, -258, -257, -256, -30, -29, -4, -3, -2, -1,
	32769, 32770, 1<<16 - 1, 1 << 16, 1<<16 + 3, 1<<16 + 257, 1 << 17, 1<<31 - 1, 1 << 31, 1 << 32, 1<<32 + 1, 1<<32 + 3, 1<<32 + 257, 1<<32 + 285, 1<<33 + 29,
	1 << 62, 1<<62 + 3, 1<<62 + 257, math.MaxInt - 258, math.MaxInt - 1, math.MaxInt,
}

// The rows themselves: one behind the other, without a gap, and each as wide as its bits tell, but for the last length with five.
func TestRows(t *testing.T) {
	for _, k := range kinds {
		for i, r := range k.rows {
			if i > 0 && (r.sym != k.rows[i-1].sym+1 || r.from != k.rows[i-1].to+1) {
				t.Error(k.name, r)
			}
			if wide := r.to - r.from + 1; wide != 1<<r.bits && (r.sym != 284 || wide != 31) {
				t.Error(k.name, r, wide)
			}
		}
	}
	if len(longs) != 29 || longs[0].sym != 257 || len(fars) != 30 || fars[0].sym != 0 {
		t.Error(len(longs), len(fars))
	}
}

// P9.1: each number there is, lengths and distances, and each one's symbol, bits and extra.
func TestEachNumber(t *testing.T) {
	for _, k := range kinds {
		for _, r := range k.rows {
			for n := r.from; n <= r.to; n++ {
				k.tells(t, n, r.sym, r.bits, n-r.from, api.OK)
			}
		}
	}
}

// P9.1: numbers that may not be, with nothing beside the error: all near by, and some far off.
func TestNoNumber(t *testing.T) {
	for _, k := range kinds {
		for n := -70000; n <= 140000; n++ {
			if n < k.least() || n > k.most() {
				k.tells(t, n, 0, 0, 0, api.ErrArg)
			}
		}
		for _, n := range wild {
			k.tells(t, n, 0, 0, 0, api.ErrArg)
		}
	}
	// The edges, by their numbers.
	for _, n := range []int{2, 1, 0, 259, 260, 285, 32768} {
		kinds[0].tells(t, n, 0, 0, 0, api.ErrArg)
	}
	for _, n := range []int{0, -1, 32769} {
		kinds[1].tells(t, n, 0, 0, 0, api.ErrArg)
	}
}

// P9.2: each symbol's bits; of what is no symbol an error, with nothing beside it.
func TestBits(t *testing.T) {
	for _, k := range kinds {
		for sym := -70000; sym <= 140000; sym++ {
			if r, ok := k.row(sym); ok {
				k.has(t, sym, r.bits, api.OK)
			} else {
				k.has(t, sym, 0, api.ErrSym)
			}
		}
		for _, sym := range wild {
			k.has(t, sym, 0, api.ErrSym)
		}
	}
	// A length's symbol is no distance's, nor the other way round; nor is a byte's, or the end's.
	for sym := range 257 {
		kinds[0].has(t, sym, 0, api.ErrSym)
	}
	for sym := 30; sym <= 286; sym++ {
		kinds[1].has(t, sym, 0, api.ErrSym)
	}
	kinds[0].has(t, 286, 0, api.ErrSym)
	kinds[0].has(t, 287, 0, api.ErrSym)
}

// P9.2: each symbol with each extra that its bits can tell, and many that they can't.
func TestNumber(t *testing.T) {
	for _, k := range kinds {
		for _, r := range k.rows {
			for extra := -40; extra < 1<<r.bits+9000; extra++ {
				if extra < 0 || extra >= 1<<r.bits {
					k.means(t, r.sym, extra, 0, api.ErrArg)
				} else if r.from+extra > r.to {
					k.means(t, r.sym, extra, 0, api.ErrSym)
				} else {
					k.means(t, r.sym, extra, r.from+extra, api.OK)
				}
			}
			for _, extra := range wild {
				k.means(t, r.sym, extra, 0, api.ErrArg)
			}
		}
	}
}

// P9.2: what is no symbol is told ahead of the extra, whatever that is.
func TestNoSymbol(t *testing.T) {
	extras := slices.Concat(wild, []int{0, 1, 2, 30, 31, 32, 33, 8191, 8192, 8193})
	for _, k := range kinds {
		syms := slices.Clone(wild)
		for sym := -300; sym < 700; sym++ {
			if _, ok := k.row(sym); !ok {
				syms = append(syms, sym)
			}
		}
		for _, sym := range syms {
			for _, extra := range extras {
				k.means(t, sym, extra, 0, api.ErrSym)
			}
		}
	}
}

// P9.2: of the symbol that could tell 258, but doesn't, and of the one that does: both errors at their edges.
func TestLast(t *testing.T) {
	k := kinds[0]
	k.means(t, 284, -1, 0, api.ErrArg)
	k.means(t, 284, 0, 227, api.OK)
	k.means(t, 284, 30, 257, api.OK)
	k.means(t, 284, 31, 0, api.ErrSym)
	k.means(t, 284, 32, 0, api.ErrArg)
	k.means(t, 284, 63, 0, api.ErrArg)
	k.means(t, 283, 31, 226, api.OK)
	k.means(t, 285, -1, 0, api.ErrArg)
	k.means(t, 285, 0, 258, api.OK)
	k.means(t, 285, 1, 0, api.ErrArg)
	k.means(t, 285, 31, 0, api.ErrArg)
	// No distance is left out so: neither 258, nor the greatest one.
	kinds[1].means(t, 16, 1, 258, api.OK)
	kinds[1].means(t, 29, 8191, 32768, api.OK)
}

// P9.3: each number comes of its symbol and extra, and of no other ones.
func TestOneSymbolAndExtra(t *testing.T) {
	for _, k := range kinds {
		met := map[int]int{}
		for sym := -2; sym < 300; sym++ {
			bits, _ := k.bits(sym)
			for extra := -2; extra < 2<<bits; extra++ {
				n, e := k.number(sym, extra)
				if e != api.OK {
					continue
				}
				met[n]++
				k.tells(t, n, sym, bits, extra, api.OK)
			}
		}
		for n := k.least(); n <= k.most(); n++ {
			if met[n] != 1 {
				t.Error(k.name, n, "is met", met[n], "times")
			}
			sym, _, extra, _ := k.symbol(n)
			k.means(t, sym, extra, n, api.OK)
		}
		if len(met) != k.most()-k.least()+1 {
			t.Error(k.name, len(met))
		}
	}
}

// P9.1, P9.2: the bits of a number are those of its symbol, and can tell its extra.
func TestSameBits(t *testing.T) {
	for _, k := range kinds {
		for n := k.least(); n <= k.most(); n++ {
			sym, bits, extra, _ := k.symbol(n)
			k.has(t, sym, bits, api.OK)
			if extra < 0 || extra >= 1<<bits {
				t.Error(k.name, n, bits, extra)
			}
		}
	}
}

// P9.3: of two numbers the greater one has no lesser symbol.
func TestOrder(t *testing.T) {
	for _, k := range kinds {
		last := math.MinInt
		for n := k.least(); n <= k.most(); n++ {
			sym, _, _, e := k.symbol(n)
			if e != api.OK || sym < last {
				t.Error(k.name, n, sym, last, e)
			}
			last = sym
		}
	}
}

// P1: whatever is handed in, each call ends, none panics, and an error has nothing beside it.
func TestWhatever(t *testing.T) {
	all := slices.Concat(wild, []int{0, 1, 2, 3, 4, 29, 30, 31, 256, 257, 258, 259, 284, 285, 286, 8191, 32767, 32768})
	for _, k := range kinds {
		for _, a := range all {
			if s, b, x, e := k.symbol(a); e != api.OK && (s != 0 || b != 0 || x != 0 || e != api.ErrArg) {
				t.Error(k.name, a, s, b, x, e)
			}
			if b, e := k.bits(a); e != api.OK && (b != 0 || e != api.ErrSym) {
				t.Error(k.name, a, b, e)
			}
			for _, x := range all {
				if n, e := k.number(a, x); e != api.OK && (n != 0 || e != api.ErrSym && e != api.ErrArg) {
					t.Error(k.name, a, x, n, e)
				}
			}
		}
	}
}

// Nothing is kept from call to call: whatever is asked in between, a call answers the same again.
func TestAgain(t *testing.T) {
	for _, k := range kinds {
		for n := k.least(); n <= k.most(); n += 7 {
			sym, bits, extra, _ := k.symbol(n)
			for _, other := range kinds {
				other.symbol(k.most() - n)
				other.bits(n)
				other.number(extra, sym)
			}
			k.tells(t, n, sym, bits, extra, api.OK)
			k.means(t, sym, extra, n, api.OK)
		}
	}
}

// The chapter's examples.
func TestExamples(t *testing.T) {
	long, far := kinds[0], kinds[1]
	long.tells(t, 3, 257, 0, 0, api.OK)
	long.tells(t, 12, 265, 1, 1, api.OK)
	long.tells(t, 257, 284, 5, 30, api.OK)
	long.tells(t, 258, 285, 0, 0, api.OK)
	far.tells(t, 1, 0, 0, 0, api.OK)
	far.tells(t, 6, 4, 1, 1, api.OK)
	far.tells(t, 32768, 29, 13, 8191, api.OK)
	long.means(t, 265, 1, 12, api.OK)
	long.means(t, 284, 31, 0, api.ErrSym)
	long.means(t, 265, 2, 0, api.ErrArg)
	long.means(t, 256, 0, 0, api.ErrSym)
	far.means(t, 4, 0, 5, api.OK)
	far.means(t, 30, 0, 0, api.ErrSym)
	far.has(t, 29, 13, api.OK)
	long.tells(t, 2, 0, 0, 0, api.ErrArg)
	far.tells(t, 0, 0, 0, 0, api.ErrArg)
}
