package tree_test

import (
	"cmp"
	"fmt"
	"math"
	"slices"
	"strings"
	"testing"

	"bellows/api"
	"bellows/bits"
	"bellows/build"
	"bellows/canon"
	"bellows/tree"
)

// grown is the tree of lengths by the chapter's words alone, so that it shares nothing with the package.
func grown(lengths []uint8) api.Tree {
	var t api.Tree
	for sym, n := range lengths {
		if n > 0 {
			t.Count[n]++
			t.Syms = append(t.Syms, sym)
		}
	}
	slices.SortStableFunc(t.Syms, func(a, b int) int { return cmp.Compare(lengths[a], lengths[b]) })
	return t
}

// text tells a tree, so that trees can be held against each other.
func text(t api.Tree) string {
	return fmt.Sprint(t.Count, len(t.Syms), t.Syms)
}

func zero(t api.Tree) bool {
	return t.Count == [16]int{} && t.Syms == nil
}

// mayBe tells by the chapter's words whether t may be: whether the only lengths that it could be the tree of may be, and it is theirs.
func mayBe(t api.Tree) bool {
	lengths := make([]uint8, api.MaxSyms)
	at := 0
	for n := 1; n <= 15; n++ {
		for k := 0; k < t.Count[n]; k++ {
			if at == len(t.Syms) || t.Syms[at] < 0 || t.Syms[at] >= api.MaxSyms {
				return false
			}
			lengths[t.Syms[at]] = uint8(n)
			at++
		}
	}
	return canon.Check(lengths, 15) == api.OK && text(grown(lengths)) == text(t)
}

// codes are the codes of lengths that may be, as noughts and ones.
func codes(t *testing.T, lengths []uint8) []string {
	t.Helper()
	all, e := canon.Codes(lengths, 15)
	if e != api.OK {
		t.Fatal(lengths, e)
	}
	l := make([]string, len(all))
	for sym, c := range all {
		if c.Long > 0 {
			l[sym] = fmt.Sprintf("%0*b", c.Long, c.Bits)
		}
	}
	return l
}

// row is all bits of b as noughts and ones, the first one of them first.
func row(b []byte) string {
	var s strings.Builder
	for _, x := range b {
		for range 8 {
			s.WriteByte('0' + x%2)
			x /= 2
		}
	}
	return s.String()
}

// pack is the bytes of noughts and ones, filled up with noughts.
func pack(s string) []byte {
	b := make([]byte, (len(s)+7)/8)
	for i := range s {
		b[i/8] |= (s[i] - '0') << (i % 8)
	}
	return b
}

// read is what Next answers of codes and bits that are noughts and ones, for a place from 0 on, by the chapter's words.
func read(all []string, s string, at int) (sym, next int, e api.Errno) {
	for n := 0; ; n++ {
		if at > len(s) || at+n > len(s) {
			// No bits are behind the end; so many were read as there were.
			return 0, 0, api.ErrEnd
		}
		begun := s[at : at+n]
		if sym := slices.Index(all, begun); sym >= 0 && n > 0 {
			return sym, at + n, api.OK
		}
		if !slices.ContainsFunc(all, func(c string) bool { return c != "" && strings.HasPrefix(c, begun) }) {
			return 0, 0, api.ErrCode
		}
	}
}

// ask asks Next for what the chapter's words tell, at a place from 0 on.
func ask(t *testing.T, lengths []uint8, tr api.Tree, all []string, b []byte, at int) {
	t.Helper()
	sym, next, e := tree.Next(tr, b, at)
	wantSym, wantNext, wantE := 0, 0, api.ErrEnd
	switch {
	case len(tr.Syms) == 0:
		wantE = api.ErrCode
	case at <= 8*len(b):
		wantSym, wantNext, wantE = read(all, row(b), at)
	}
	if sym != wantSym || next != wantNext || e != wantE {
		t.Fatalf("Next of %v: %s at %d is %d, %d, %d, not %d, %d, %d", lengths, row(b), at, sym, next, e, wantSym, wantNext, wantE)
	}
}

// chance gives numbers that look like chance and are always the same.
type chance uint64

func (c *chance) below(n int) int {
	*c ^= *c << 13
	*c ^= *c >> 7
	*c ^= *c << 17
	return int(uint64(*c>>16) % uint64(n))
}

func (c *chance) bytes(n int) []byte {
	b := make([]byte, n)
	for i := range b {
		b[i] = byte(c.below(256))
	}
	return b
}

// whole is lengths, each up to most, that are whole if at least two symbols have one: layer 4's, of frequencies that are now and then 0.
func (c *chance) whole(t *testing.T, most int) []uint8 {
	t.Helper()
	freq := make([]int, 2+c.below(min(1<<most, api.MaxSyms)-1))
	for i := range freq {
		freq[i] = 1 << c.below(25) * min(c.below(8), 1)
	}
	lengths, e := build.Lengths(freq, most)
	if e != api.OK {
		t.Fatal(freq, most, e)
	}
	return lengths
}

// times is one length, so many times.
func times(n uint8, many int) []uint8 {
	return slices.Repeat([]uint8{n}, many)
}

// ladder is 1 2 3 .. 15 15, the deepest whole lengths.
func ladder() []uint8 {
	var l []uint8
	for n := range uint8(15) {
		l = append(l, n+1)
	}
	return append(l, 15)
}

// each calls f with all rows of so many numbers, each of them below top.
func each(symbols, top int, f func([]uint8)) {
	rows := 1
	for range symbols {
		rows *= top
	}
	for row := range rows {
		l := make([]uint8, symbols)
		for i := range l {
			l[i] = uint8(row % top)
			row /= top
		}
		f(l)
	}
}

// good are lengths that may be, of many kinds.
func good(t *testing.T) [][]uint8 {
	t.Helper()
	c := chance(88172645463325252)
	l := [][]uint8{
		nil, {}, {0}, {0, 0, 0}, {1}, {0, 1}, {1, 0, 0}, {1, 1}, {2, 1, 3, 3}, {3, 3, 3, 3, 3, 2, 4, 4},
		times(0, 320), append(times(0, 319), 1), append([]uint8{1}, times(0, 319)...),
		append(times(8, 256), times(0, 64)...), append(times(8, 192), times(9, 128)...), append(times(9, 128), times(8, 192)...),
		append(append([]uint8{1}, times(0, 318)...), 1),
		ladder(), append(times(0, 304), ladder()...),
		slices.Concat(times(8, 144), times(9, 112), times(7, 24), times(8, 8)),
	}
	back := ladder()
	slices.Reverse(back)
	l = append(l, back)
	for most := 1; most <= 15; most++ {
		for range 12 {
			l = append(l, c.whole(t, most))
		}
	}
	return l
}

// grow is the tree of lengths that may be, from Grow.
func grow(t *testing.T, lengths []uint8) api.Tree {
	t.Helper()
	tr, e := tree.Grow(lengths, 15)
	if e != api.OK {
		t.Fatal(lengths, e)
	}
	return tr
}

// bad are trees that may not be, each for a reason of its own.
func bad() []api.Tree {
	many := make([]int, 321)
	for i := range many {
		many[i] = i
	}
	return []api.Tree{
		{Syms: []int{0}},
		{Count: [16]int{0: 1}},
		{Count: [16]int{0: 1}, Syms: []int{0}},
		{Count: [16]int{0: -1}},
		{Count: [16]int{0: -1, 1: 1}},
		{Count: [16]int{0: 1, 1: 1}, Syms: []int{0, 1}},
		{Count: [16]int{0: 1, 1: 2}, Syms: []int{0, 1}},
		{Count: [16]int{0: 1, 1: 2}, Syms: []int{0, 1, 2}},
		{Count: [16]int{1: 1}},
		{Count: [16]int{1: 1}, Syms: []int{0, 1}},
		{Count: [16]int{1: 2}, Syms: []int{0}},
		{Count: [16]int{1: 2}, Syms: []int{1, 0}},
		{Count: [16]int{1: 2}, Syms: []int{0, 0}},
		{Count: [16]int{1: 2}, Syms: []int{0, 320}},
		{Count: [16]int{1: 2}, Syms: []int{-1, 0}},
		{Count: [16]int{1: 1}, Syms: []int{-1}},
		{Count: [16]int{1: 1}, Syms: []int{320}},
		{Count: [16]int{1: 1}, Syms: []int{256 + 1<<32}},
		{Count: [16]int{1: 1}, Syms: []int{math.MaxInt}},
		{Count: [16]int{1: 1}, Syms: []int{math.MinInt}},
		{Count: [16]int{1: 1, 2: 1}, Syms: []int{0, 1}},
		{Count: [16]int{2: 1}, Syms: []int{0}},
		{Count: [16]int{15: 1}, Syms: []int{0}},
		{Count: [16]int{2: 2}, Syms: []int{0, 1}},
		{Count: [16]int{2: 3}, Syms: []int{0, 1, 2}},
		{Count: [16]int{1: 3}, Syms: []int{0, 1, 2}},
		{Count: [16]int{1: 2, 2: 1}, Syms: []int{0, 1, 2}},
		{Count: [16]int{1: 2, 15: 1}, Syms: []int{0, 1, 2}},
		{Count: [16]int{1: 1, 2: 2}, Syms: []int{0, 0, 1}},
		{Count: [16]int{1: 1, 2: 2}, Syms: []int{0, 1, 0}},
		{Count: [16]int{1: 1, 2: 2}, Syms: []int{2, 1, 2}},
		{Count: [16]int{1: 1, 2: 2}, Syms: []int{0, 2, 1}},
		{Count: [16]int{1: 1, 2: 2}, Syms: []int{320, 1, 2}},
		{Count: [16]int{1: 1, 2: 2}, Syms: []int{0, 1, 2, 3}},
		{Count: [16]int{1: 1, 2: 2}, Syms: []int{0, 1}},
		{Count: [16]int{1: 1, 2: 2, 15: -1}, Syms: []int{0, 1, 2}},
		{Count: [16]int{1: 1, 2: 3, 3: -1}, Syms: []int{0, 1, 2}},
		{Count: [16]int{1: -1, 2: 1}},
		{Count: [16]int{1: math.MinInt}},
		{Count: [16]int{1: math.MinInt, 2: math.MinInt}},
		{Count: [16]int{1: math.MaxInt}, Syms: []int{0}},
		{Count: [16]int{1: math.MaxInt, 2: math.MaxInt, 3: 2}},
		{Count: [16]int{1: math.MaxInt, 2: math.MaxInt, 3: 4}, Syms: []int{0, 1}},
		{Count: [16]int{1: 1 << 32, 2: 1}, Syms: []int{0}},
		{Count: [16]int{1: 1<<32 + 1}, Syms: []int{0}},
		{Count: [16]int{1: 257}, Syms: []int{0}},
		{Count: [16]int{8: 191, 9: 130}, Syms: many},
		{Count: [16]int{9: 321}, Syms: many},
		{Count: [16]int{1: 321}, Syms: many},
		{Count: [16]int{8: 256}, Syms: many[65:]},
		{Count: [16]int{8: 256}, Syms: many[:255]},
		{Count: [16]int{1: 1 << 20}, Syms: make([]int, 1<<20)},
		{Syms: make([]int, 1<<20)},
	}
}

// P5.1: Grow of each row of up to 6 lengths, each from 0 to 4, of several bits at most; and Check of what it answers.
func TestGrowEachShortRow(t *testing.T) {
	for symbols := range 7 {
		each(symbols, 5, func(lengths []uint8) {
			for _, most := range []int{2, 3, 4, 15} {
				tr, e := tree.Grow(lengths, most)
				want := canon.Check(lengths, most)
				if e != want || e != api.OK && !zero(tr) || e == api.OK && text(tr) != text(grown(lengths)) {
					t.Fatalf("Grow(%v, %d) is %v, %d, not error %d", lengths, most, tr, e, want)
				}
				if f := tree.Check(tr); f != api.OK {
					t.Fatal(lengths, most, f)
				}
			}
		})
	}
}

// P5.1: Grow of lengths that are whole, up to 320 symbols and 15 bits, and of those of which one is another one.
func TestGrowOfManyLengths(t *testing.T) {
	c := chance(9)
	for _, lengths := range good(t) {
		tr := grow(t, lengths)
		if text(tr) != text(grown(lengths)) || tree.Check(tr) != api.OK {
			t.Fatal(lengths, tr)
		}
		for range 30 {
			if len(lengths) == 0 {
				continue
			}
			other, most := slices.Clone(lengths), 1+c.below(15)
			other[c.below(len(other))] = uint8(c.below(17))
			tr, e := tree.Grow(other, most)
			if want := canon.Check(other, most); e != want || e != api.OK && !zero(tr) || e == api.OK && text(tr) != text(grown(other)) {
				t.Fatal(other, most, tr, e)
			}
		}
	}
}

// P5.1: Grow's errors, the first one told of several, and nothing beside them.
func TestGrowErrors(t *testing.T) {
	for i, x := range []struct {
		lengths []uint8
		most    int
		e       api.Errno
	}{
		{[]uint8{1, 1}, 0, api.ErrArg},
		{[]uint8{1, 1}, -1, api.ErrArg},
		{[]uint8{1, 1}, 16, api.ErrArg},
		{[]uint8{1, 1}, math.MaxInt, api.ErrArg},
		{[]uint8{1, 1}, math.MinInt, api.ErrArg},
		{nil, 0, api.ErrArg},
		{times(1, 321), 16, api.ErrArg},
		{times(0, 321), 15, api.ErrMany},
		{times(255, 321), 15, api.ErrMany},
		{append(times(8, 256), times(0, 65)...), 15, api.ErrMany},
		{[]uint8{1, 16}, 15, api.ErrArg},
		{[]uint8{1, 1, 1, 255}, 15, api.ErrArg},
		{[]uint8{2, 1, 3, 3}, 2, api.ErrArg},
		{[]uint8{1, 1, 1}, 15, api.ErrOver},
		{times(8, 257), 15, api.ErrOver},
		{[]uint8{2, 2}, 15, api.ErrUnder},
		{[]uint8{2}, 15, api.ErrUnder},
		{[]uint8{15}, 15, api.ErrUnder},
		{times(8, 255), 15, api.ErrUnder},
		{[]uint8{2, 1, 3, 3}, 3, api.OK},
		{[]uint8{1, 1}, 1, api.OK},
		{nil, 1, api.OK},
		{times(8, 256), 8, api.OK},
		{ladder(), 15, api.OK},
		{ladder(), 14, api.ErrArg},
	} {
		tr, e := tree.Grow(x.lengths, x.most)
		if e != x.e || e != api.OK && !zero(tr) || e == api.OK && text(tr) != text(grown(x.lengths)) {
			t.Error(i, tr, e)
		}
	}
}

// P5.1: Check of trees that may not be.
func TestCheckOfBadTrees(t *testing.T) {
	for i, tr := range bad() {
		if e := tree.Check(tr); e != api.ErrBad {
			t.Error(i, e)
		}
	}
}

// P5.1: of all small trees just those may be that are the tree of some lengths that may be.
func TestCheckOfEachSmallTree(t *testing.T) {
	known := map[string]bool{}
	for symbols := range 6 {
		each(symbols, 5, func(lengths []uint8) {
			if canon.Check(lengths, 15) == api.OK {
				known[text(grown(lengths))] = true
			}
		})
	}
	seen := map[string]bool{}
	for listed := range 6 {
		each(listed, 5, func(syms []uint8) {
			tr := api.Tree{}
			for _, sym := range syms {
				tr.Syms = append(tr.Syms, int(sym))
			}
			each(5, 5, func(count []uint8) {
				sum := 0
				for n, many := range count {
					tr.Count[n] = int(many)
					sum += int(many)
				}
				// Of others, a few do: their counts are not those of the list.
				if sum != listed && count[1] != 2 {
					return
				}
				want := api.ErrBad
				if sum == listed {
					if s := text(tr); known[s] {
						want, seen[s] = api.OK, true
					}
				}
				if e := tree.Check(tr); e != want {
					t.Fatal(tr, e)
				}
			})
		})
	}
	if len(seen) != len(known) {
		t.Fatal("of", len(known), "trees that may be", len(seen), "were asked")
	}
}

// P5.1: Check of trees that may be, one number of which is another one, or one more, or one less.
func TestCheckOfNearlyGoodTrees(t *testing.T) {
	c := chance(4)
	numbers := []int{0, 1, 2, 7, -1, 318, 319, 320, 321, 256, math.MaxInt, math.MinInt, 1 << 32}
	okay := 0
	for _, lengths := range good(t) {
		whole := grow(t, lengths)
		for range 300 {
			tr := api.Tree{Count: whole.Count, Syms: slices.Clone(whole.Syms)}
			for range 1 + c.below(2) {
				turn(&c, &tr, numbers)
			}
			want := api.ErrBad
			if mayBe(tr) {
				want = api.OK
				okay++
			}
			if e := tree.Check(tr); e != want {
				t.Fatal(tr, e)
			}
		}
	}
	if okay < 1000 {
		t.Fatal(okay)
	}
}

// turn changes one thing of a tree.
func turn(c *chance, tr *api.Tree, numbers []int) {
	n := len(tr.Syms)
	switch kind := c.below(8); {
	case kind == 0:
		tr.Count[c.below(16)] = numbers[c.below(len(numbers))]
	case kind == 1:
		tr.Count[c.below(16)] += c.below(3) - 1
	case kind == 2:
		a, b := c.below(16), c.below(16)
		tr.Count[a], tr.Count[b] = tr.Count[b], tr.Count[a]
	case kind == 3:
		tr.Syms = append(tr.Syms, numbers[c.below(len(numbers))])
	case n == 0:
	case kind == 4:
		tr.Syms = tr.Syms[:n-1]
	case kind == 5:
		tr.Syms[c.below(n)] += c.below(3) - 1
	case kind == 6:
		tr.Syms[c.below(n)] = numbers[c.below(len(numbers))]
	default:
		a, b := c.below(n), c.below(n)
		tr.Syms[a], tr.Syms[b] = tr.Syms[b], tr.Syms[a]
	}
}

// P5.1: Same, of trees that may be and of others.
func TestSame(t *testing.T) {
	all := append(bad(), api.Tree{}, api.Tree{Syms: []int{}}, api.Tree{Count: [16]int{15: 1}})
	for _, lengths := range good(t) {
		all = append(all, grow(t, lengths))
	}
	tells := make([]string, len(all))
	for i, tr := range all {
		if len(tr.Syms) > 1000 {
			all[i].Syms = tr.Syms[:1000]
		}
		tells[i] = text(all[i])
	}
	for i, a := range all {
		for k, b := range all {
			if tree.Same(a, b) != (tells[i] == tells[k]) {
				t.Fatal(a, b)
			}
		}
	}
	for n := range 16 {
		for _, by := range []int{1, -1, 1 << 32, math.MinInt} {
			a := grow(t, []uint8{2, 1, 3, 3})
			b := a
			b.Count[n] += by
			if tree.Same(a, b) || tree.Same(b, a) || !tree.Same(b, b) {
				t.Error(n, by)
			}
		}
	}
	long := grow(t, times(8, 256))
	for at := range long.Syms {
		other := api.Tree{Count: long.Count, Syms: slices.Clone(long.Syms)}
		if !tree.Same(long, other) {
			t.Error(at)
		}
		other.Syms[at] += 1 << 32
		if tree.Same(long, other) || tree.Same(other, long) {
			t.Error(at)
		}
	}
	short := api.Tree{Count: long.Count, Syms: long.Syms[:255]}
	if tree.Same(long, short) || tree.Same(short, long) {
		t.Error("of two lists that are not of one length")
	}
}

// P5.2: each tree of up to 5 symbols, each of which has up to 4 bits: each byte, at each place.
func TestNextOfEachSmallTree(t *testing.T) {
	for symbols := range 6 {
		each(symbols, 5, func(lengths []uint8) {
			tr, e := tree.Grow(lengths, 15)
			if e != api.OK {
				return
			}
			all := codes(t, lengths)
			for b := range 256 {
				for at := range 10 {
					ask(t, lengths, tr, all, []byte{byte(b)}, at)
				}
			}
			for at := range 10 {
				ask(t, lengths, tr, all, nil, at)
			}
		})
	}
}

// P5.2: trees of many symbols and of long codes, at each place of some bytes, up to their end and behind it.
func TestNextOfGreatTrees(t *testing.T) {
	c := chance(6)
	for _, lengths := range good(t) {
		tr, all := grow(t, lengths), codes(t, lengths)
		for _, b := range [][]byte{nil, c.bytes(6), c.bytes(3), {255, 255}, {255, 127}, {255, 63}, {0, 0, 0}} {
			for at := range 8*len(b) + 3 {
				ask(t, lengths, tr, all, b, at)
			}
			for _, at := range []int{8*len(b) + 64, 1 << 32, 1<<32 + 3, math.MaxInt - 1, math.MaxInt} {
				ask(t, lengths, tr, all, b, at)
			}
		}
	}
}

// P5.2: each code of some trees stands at each place of a byte; bits are lacking, from the last one to all of them.
func TestNextOfCodesThatEnd(t *testing.T) {
	for _, lengths := range [][]uint8{{1, 1}, {2, 1, 3, 3}, ladder(), append(times(8, 192), times(9, 128)...)} {
		tr := grow(t, lengths)
		for sym, c := range codes(t, lengths) {
			for end := range len(c) + 1 {
				// So much stands ahead that the bytes end behind these bits of the code.
				at := (16 - end) % 8
				got, next, e := tree.Next(tr, pack(strings.Repeat("1", at)+c[:end]), at)
				switch {
				case end == len(c):
					if got != sym || next != at+end || e != api.OK {
						t.Fatal(lengths, sym, got, next, e)
					}
				case got != 0 || next != 0 || e != api.ErrEnd:
					t.Fatal(lengths, sym, end, got, next, e)
				}
			}
		}
	}
}

// P5.2: ErrBad ahead of a place that may not be, that ahead of a code that is none, and that ahead of the end.
func TestNextErrors(t *testing.T) {
	four, one, none := grow(t, []uint8{2, 1, 3, 3}), grow(t, []uint8{0, 1}), grow(t, times(0, 30))
	for i, x := range []struct {
		t  api.Tree
		b  []byte
		at int
		e  api.Errno
	}{
		{four, []byte{0}, -1, api.ErrArg},
		{four, []byte{0}, math.MinInt, api.ErrArg},
		{four, nil, -1, api.ErrArg},
		{one, []byte{255}, -1, api.ErrArg},
		{none, []byte{0}, -1, api.ErrArg},
		{none, nil, -8, api.ErrArg},
		{none, nil, 0, api.ErrCode},
		{none, []byte{0}, 0, api.ErrCode},
		{none, []byte{0}, 8, api.ErrCode},
		{none, []byte{0}, math.MaxInt, api.ErrCode},
		{api.Tree{}, nil, 7, api.ErrCode},
		{api.Tree{Syms: []int{}}, []byte{1}, 0, api.ErrCode},
		{one, []byte{1}, 0, api.ErrCode},
		{one, []byte{128}, 7, api.ErrCode},
		{one, []byte{0}, 8, api.ErrEnd},
		{one, nil, 0, api.ErrEnd},
		{one, []byte{255}, math.MaxInt, api.ErrEnd},
		{four, []byte{255}, 6, api.ErrEnd},
		{four, []byte{255}, 7, api.ErrEnd},
		{four, []byte{255}, 8, api.ErrEnd},
		{four, []byte{0}, math.MaxInt, api.ErrEnd},
		{four, nil, 0, api.ErrEnd},
	} {
		if sym, next, e := tree.Next(x.t, x.b, x.at); sym != 0 || next != 0 || e != x.e {
			t.Error(i, sym, next, e)
		}
	}
	for i, tr := range bad() {
		for _, at := range []int{0, 1, 8, 99, -1, math.MinInt, math.MaxInt} {
			for _, b := range [][]byte{nil, {0}, {255}} {
				if sym, next, e := tree.Next(tr, b, at); sym != 0 || next != 0 || e != api.ErrBad {
					t.Error(i, at, b, sym, next, e)
				}
			}
		}
	}
}

// P5.3: neither lengths, nor a tree's symbols, nor bytes, nor the memory behind them are written to; a second call answers the same.
func TestReadingChangesNothing(t *testing.T) {
	c := chance(2)
	for _, lengths := range append(good(t), []uint8{1, 1, 1}, []uint8{2, 2}, []uint8{16}, times(3, 321)) {
		memory := append(slices.Clone(lengths), times(7, 30)...)
		before := slices.Clone(memory)
		tr, e := tree.Grow(memory[:len(lengths)], 15)
		again, f := tree.Grow(memory[:len(lengths)], 15)
		if e != f || text(tr) != text(again) || !slices.Equal(memory, before) {
			t.Fatal(lengths, "Grow changes its lengths, or answers otherwise")
		}
		reads(t, &c, tr)
	}
	for _, tr := range bad() {
		reads(t, &c, tr)
	}
}

// reads asks Check, Next and Same of a tree over and over, and looks whether its memory, and that of bytes, stays as it is.
func reads(t *testing.T, c *chance, tr api.Tree) {
	t.Helper()
	memory := append(slices.Clone(tr.Syms), 5, 5, 5, 5)
	syms := slices.Clone(memory)
	handed := api.Tree{Count: tr.Count, Syms: memory[:len(tr.Syms)]}
	b := c.bytes(9)
	bytes := slices.Clone(b)
	check := tree.Check(handed)
	sym, next, e := tree.Next(handed, b[:4], 3)
	for range 3 {
		againSym, againNext, f := tree.Next(handed, b[:4], 3)
		if againSym != sym || againNext != next || f != e || tree.Check(handed) != check || !tree.Same(handed, tr) {
			t.Fatal(tr, "a second call answers otherwise")
		}
	}
	if !slices.Equal(memory, syms) || !slices.Equal(b, bytes) || handed.Count != tr.Count {
		t.Fatal(tr, "what was handed in is not as it was")
	}
}

// P5.3: a tree that was answered is its caller's: what becomes of it shows in no other one, nor what becomes of the lengths.
func TestTreesAreApart(t *testing.T) {
	for _, lengths := range good(t) {
		handed := slices.Clone(lengths)
		kept := grow(t, handed)
		first := grow(t, handed)
		before := text(kept)
		for i := range handed {
			handed[i] = 9
		}
		for n := range first.Count {
			first.Count[n] = 9
		}
		first.Syms = first.Syms[:cap(first.Syms)]
		for i := range first.Syms {
			first.Syms[i] = 99
		}
		if text(kept) != before || text(grow(t, lengths)) != before {
			t.Fatal(lengths, "memory is shared")
		}
	}
}

// write is a pen of some symbols' codes, the highest bit of each one first.
func write(t *testing.T, all []api.Code, syms []int) api.Pen {
	t.Helper()
	var p api.Pen
	for _, sym := range syms {
		v, e := bits.Turn(all[sym].Bits, int(all[sym].Long))
		if e != api.OK {
			t.Fatal(e)
		}
		if p, e = bits.Put(p, v, int(all[sym].Long)); e != api.OK {
			t.Fatal(e)
		}
	}
	return p
}

// P5.4: what is written by a code, symbol by symbol, is read again.
func TestWhatIsWrittenIsRead(t *testing.T) {
	c := chance(3)
	for _, lengths := range good(t) {
		tr := grow(t, lengths)
		if len(tr.Syms) == 0 {
			continue
		}
		all, e := canon.Codes(lengths, 15)
		if e != api.OK {
			t.Fatal(e)
		}
		syms := slices.Clone(tr.Syms)
		for range 100 {
			syms = append(syms, tr.Syms[c.below(len(tr.Syms))])
		}
		p := write(t, all, syms)
		at := 0
		for i, want := range syms {
			sym, next, e := tree.Next(tr, p.Bytes, at)
			if sym != want || next != at+int(lengths[want]) || e != api.OK {
				t.Fatal(lengths, i, want, sym, next, e)
			}
			at = next
		}
		if at != p.Bits {
			t.Fatal(lengths, at, p.Bits)
		}
	}
}

// P5.4: where a tree is whole, each row of 15 bits begins with a symbol's code.
func TestFifteenBitsAreEnough(t *testing.T) {
	for _, lengths := range [][]uint8{{1, 1}, {2, 1, 3, 3}, ladder(), append(times(8, 192), times(9, 128)...)} {
		tr, all := grow(t, lengths), codes(t, lengths)
		for v := range 1 << 15 {
			b := []byte{byte(v << 1), byte(v >> 7)}
			sym, next, e := tree.Next(tr, b, 1)
			if e != api.OK || next != 1+int(lengths[sym]) || row(b)[1:next] != all[sym] {
				t.Fatal(lengths, row(b), sym, next, e)
			}
		}
	}
	c := chance(5)
	for _, lengths := range good(t) {
		tr := grow(t, lengths)
		if len(tr.Syms) < 2 {
			continue
		}
		for range 100 {
			b, at := c.bytes(3), c.below(10)
			if _, _, e := tree.Next(tr, b, at); e != api.OK {
				t.Fatal(lengths, b, at, e)
			}
		}
	}
}

// P1: of whatever trees, bytes and places each call ends, and none panics.
func TestWhateverIsHandedIn(t *testing.T) {
	c := chance(8)
	numbers := []int{0, 1, 2, 3, 4, 5, -1, 319, 320, math.MaxInt, math.MinInt, math.MaxInt / 2, 1 << 32}
	for range 20000 {
		var tr api.Tree
		for range c.below(5) {
			tr.Count[c.below(16)] = numbers[c.below(len(numbers))]
		}
		for range c.below(6) {
			tr.Syms = append(tr.Syms, numbers[c.below(len(numbers))])
		}
		want := api.ErrBad
		if mayBe(tr) {
			want = api.OK
		}
		if e := tree.Check(tr); e != want {
			t.Fatal(tr, e)
		}
		at := numbers[c.below(len(numbers))]
		if _, _, e := tree.Next(tr, c.bytes(c.below(3)), at); want == api.ErrBad && e != want {
			t.Fatal(tr, at, e)
		}
		other := api.Tree{Count: tr.Count, Syms: tr.Syms[c.below(len(tr.Syms)+1):]}
		if tree.Same(tr, other) != (text(tr) == text(other)) {
			t.Fatal(tr, other)
		}
	}
}

// The chapter's examples.
func TestExamples(t *testing.T) {
	four := grow(t, []uint8{2, 1, 3, 3})
	if four.Count != [16]int{1: 1, 2: 1, 3: 2} || !slices.Equal(four.Syms, []int{1, 0, 2, 3}) {
		t.Error(four)
	}
	one, none := grow(t, []uint8{0, 1}), grow(t, nil)
	for i, x := range []struct {
		t         api.Tree
		b         byte
		at        int
		sym, next int
		e         api.Errno
	}{
		{four, 13, 0, 0, 2, api.OK},
		{four, 13, 1, 1, 2, api.OK},
		{four, 13, 7, 1, 8, api.OK},
		{four, 13, 8, 0, 0, api.ErrEnd},
		{one, 254, 0, 1, 1, api.OK},
		{one, 254, 1, 0, 0, api.ErrCode},
		{none, 254, 0, 0, 0, api.ErrCode},
	} {
		if sym, next, e := tree.Next(x.t, []byte{x.b}, x.at); sym != x.sym || next != x.next || e != x.e {
			t.Error(i, sym, next, e)
		}
	}
}
