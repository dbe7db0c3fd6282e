package canon_test

import (
	"cmp"
	"math"
	"slices"
	"strings"
	"testing"

	"bellows/api"
	"bellows/canon"
)

// judge is what the chapter asks of lengths, by its words alone, so that it shares nothing with the package.
func judge(lengths []uint8, most int) api.Errno {
	if most < 1 || most > 15 {
		return api.ErrArg
	}
	if len(lengths) > 320 {
		return api.ErrMany
	}
	parts, symbols, ones := 0, 0, 0
	for _, n := range lengths {
		if int(n) > most {
			return api.ErrArg
		}
		if n > 0 {
			parts += 32768 >> n
			symbols++
		}
		if n == 1 {
			ones++
		}
	}
	if parts > 32768 {
		return api.ErrOver
	}
	if parts == 32768 || symbols == 0 || symbols == 1 && ones == 1 {
		return api.OK
	}
	return api.ErrUnder
}

// texts are the codes of lengths that may be, as noughts and ones: in their order each is the one ahead of it, counted up by 1, with noughts behind it.
func texts(lengths []uint8) []string {
	var order []int
	for sym, n := range lengths {
		if n > 0 {
			order = append(order, sym)
		}
	}
	slices.SortStableFunc(order, func(a, b int) int { return cmp.Compare(lengths[a], lengths[b]) })
	all := make([]string, len(lengths))
	last := ""
	for i, sym := range order {
		if i > 0 {
			last = up(last)
		}
		last += strings.Repeat("0", int(lengths[sym])-len(last))
		all[sym] = last
	}
	return all
}

// up is the row of bits behind a row, which is not all ones.
func up(row string) string {
	at := strings.LastIndexByte(row, '0')
	return row[:at] + "1" + strings.Repeat("0", len(row)-at-1)
}

// text is a code as noughts and ones.
func text(c api.Code) string {
	var row strings.Builder
	for i := int(c.Long) - 1; i >= 0; i-- {
		row.WriteByte('0' + byte(c.Bits>>i&1))
	}
	return row.String()
}

// texted are codes as noughts and ones.
func texted(codes []api.Code) []string {
	l := make([]string, len(codes))
	for i, c := range codes {
		l[i] = text(c)
	}
	return l
}

// read makes codes of a text of noughts and ones, parted by blanks; a stroke is none.
func read(row string) []api.Code {
	var l []api.Code
	for word := range strings.FieldsSeq(row) {
		var c api.Code
		for _, one := range strings.Trim(word, "-") {
			c.Bits, c.Long = 2*c.Bits+uint32(one-'0'), c.Long+1
		}
		l = append(l, c)
	}
	return l
}

// ask asks Check and Codes of lengths for what the chapter's words tell.
func ask(t *testing.T, lengths []uint8, most int) {
	t.Helper()
	want := judge(lengths, most)
	if e := canon.Check(lengths, most); e != want {
		t.Fatalf("Check(%v, %d) is %d, not %d", lengths, most, e, want)
	}
	codes, e := canon.Codes(lengths, most)
	if e != want || e != api.OK && codes != nil {
		t.Fatalf("Codes(%v, %d) is %v, %d, not error %d", lengths, most, codes, e, want)
	}
	if e != api.OK {
		return
	}
	if len(codes) != len(lengths) {
		t.Fatalf("Codes(%v, %d) are %d", lengths, most, len(codes))
	}
	rows := texts(lengths)
	for i, c := range codes {
		if c.Long != lengths[i] || text(c) != rows[i] || c.Bits>>c.Long != 0 {
			t.Fatalf("Codes(%v, %d): that of %d is %d in %d, not %s", lengths, most, i, c.Bits, c.Long, rows[i])
		}
	}
}

// chance gives numbers that look like chance and are always the same.
type chance uint64

func (c *chance) below(n int) int {
	*c ^= *c << 13
	*c ^= *c >> 7
	*c ^= *c << 17
	return int(uint64(*c>>16) % uint64(n))
}

// whole is lengths, each up to most, that are whole: a length is parted into two of one more, over and over; some symbols have none.
func (c *chance) whole(most, parts, none int) []uint8 {
	lengths := []uint8{1, 1}
	for range parts {
		at := c.below(len(lengths))
		if int(lengths[at]) < most && len(lengths) < api.MaxSyms-none {
			lengths[at]++
			lengths = append(lengths, lengths[at])
		}
	}
	lengths = append(lengths, make([]uint8, none)...)
	for i := range lengths {
		k := i + c.below(len(lengths)-i)
		lengths[i], lengths[k] = lengths[k], lengths[i]
	}
	return lengths
}

// times is one length, so many times.
func times(n uint8, many int) []uint8 {
	return slices.Repeat([]uint8{n}, many)
}

// ladder is 1 2 3 .. up to most, which lacks just one of length most.
func ladder(most int) []uint8 {
	var l []uint8
	for n := range most {
		l = append(l, uint8(n+1))
	}
	return l
}

// P3.1: each row of up to 6 lengths, each from 0 to 4, of 3 bits at most and of 4.
func TestEachShortRow(t *testing.T) {
	for symbols := range 7 {
		rows := 1
		for range symbols {
			rows *= 5
		}
		for row := range rows {
			lengths := make([]uint8, symbols)
			for i := range lengths {
				lengths[i] = uint8(row % 5)
				row /= 5
			}
			ask(t, lengths, 3)
			ask(t, lengths, 4)
		}
	}
}

// P3.1: lengths that are whole, and those of which one is another one.
func TestWholeLengthsAndNearlyWholeOnes(t *testing.T) {
	c := chance(88172645463325252)
	for most := 1; most <= 15; most++ {
		for range 60 {
			lengths := c.whole(most, c.below(400), c.below(20))
			if judge(lengths, most) != api.OK {
				t.Fatal(lengths, most)
			}
			ask(t, lengths, most)
			ask(t, lengths, int(slices.Max(lengths)))
			ask(t, lengths, int(slices.Max(lengths))-1)
			for range 20 {
				other := slices.Clone(lengths)
				other[c.below(len(other))] = uint8(c.below(most + 1))
				ask(t, other, most)
			}
		}
	}
}

// P3.1: lengths up to most may be, none above it, whatever else is wrong with them.
func TestMost(t *testing.T) {
	for most := 1; most <= 15; most++ {
		steps := ladder(most)
		deep := append(steps, uint8(most))
		ask(t, deep, most)
		ask(t, steps, most)
		for high := most + 1; high < 256; high++ {
			for _, lengths := range [][]uint8{
				{uint8(high)}, append(slices.Clone(deep), uint8(high)), append([]uint8{uint8(high)}, times(1, 300)...), append(times(0, 319), uint8(high)),
			} {
				if e := canon.Check(lengths, most); e != api.ErrArg {
					t.Fatal(lengths, most, e)
				}
				if l, e := canon.Codes(lengths, most); l != nil || e != api.ErrArg {
					t.Fatal(lengths, most, l, e)
				}
			}
		}
	}
}

// P3.1: a most that may not be, ahead of all that is wrong with lengths.
func TestWrongMost(t *testing.T) {
	for _, most := range []int{0, -1, -15, 16, 17, 255, 256, 257, 1 << 32, 1<<32 + 1, math.MaxInt, math.MinInt, math.MinInt + 1} {
		for _, lengths := range [][]uint8{nil, {}, {0}, {1}, {1, 1}, {1, 1, 1}, {2}, {16}, {255}, times(1, 320), times(0, 321), times(255, 400)} {
			if e := canon.Check(lengths, most); e != api.ErrArg {
				t.Error(lengths, most, e)
			}
			if l, e := canon.Codes(lengths, most); l != nil || e != api.ErrArg {
				t.Error(lengths, most, l, e)
			}
		}
	}
}

// P3.1: as many symbols as may be, and one more, which is told ahead of lengths that may not be.
func TestHowMany(t *testing.T) {
	for i, x := range []struct {
		lengths []uint8
		e       api.Errno
	}{
		{times(0, 320), api.OK},
		{append(times(8, 256), times(0, 64)...), api.OK},
		{append(times(8, 192), times(9, 128)...), api.OK},
		{append(times(0, 319), 1), api.OK},
		{append(times(0, 319), 2), api.ErrUnder},
		{append(times(0, 319), 16), api.ErrArg},
		{times(1, 320), api.ErrOver},
		{times(8, 320), api.ErrOver},
		{times(9, 320), api.ErrUnder},
		{times(15, 320), api.ErrUnder},
		{times(0, 321), api.ErrMany},
		{times(1, 321), api.ErrMany},
		{times(15, 321), api.ErrMany},
		{times(16, 321), api.ErrMany},
		{times(255, 321), api.ErrMany},
		{append(times(8, 256), times(0, 65)...), api.ErrMany},
		{append(times(0, 320), 16), api.ErrMany},
		{times(0, 1<<20), api.ErrMany},
		{times(15, 32768), api.ErrMany},
		{times(255, 1<<20), api.ErrMany},
	} {
		if e := canon.Check(x.lengths, 15); e != x.e {
			t.Error(i, e)
		}
		if l, e := canon.Codes(x.lengths, 15); e != x.e || e != api.OK && l != nil {
			t.Error(i, len(l), e)
		}
		if len(x.lengths) <= api.MaxSyms {
			ask(t, x.lengths, 15)
		}
	}
}

// P3.1: one code of MaxLong bits too few, and too many, in each place.
func TestOneCodeAmiss(t *testing.T) {
	steps := ladder(15)
	for at := range len(steps) + 1 {
		whole := slices.Insert(slices.Clone(steps), at, 15)
		over := slices.Insert(slices.Clone(whole), at, 15)
		for _, x := range []struct {
			lengths []uint8
			e       api.Errno
		}{{steps, api.ErrUnder}, {whole, api.OK}, {over, api.ErrOver}} {
			if e := canon.Check(x.lengths, 15); e != x.e {
				t.Error(at, x, e)
			}
			ask(t, x.lengths, 15)
		}
	}
}

// P3.1: no symbol, or one; that has length 1, and no other length, wherever it stands.
func TestNoSymbolOrOne(t *testing.T) {
	for symbols := range 321 {
		lengths := times(0, symbols)
		for most := 1; most <= 15; most++ {
			ask(t, lengths, most)
		}
		for n := uint8(1); n <= 15 && symbols > 0; n++ {
			for _, at := range []int{0, symbols / 2, symbols - 1} {
				lengths[at] = n
				ask(t, lengths, 15)
				ask(t, lengths, int(n))
				lengths[at] = 0
			}
		}
	}
	for _, lengths := range [][]uint8{nil, {}} {
		if l, e := canon.Codes(lengths, 1); len(l) != 0 || e != api.OK {
			t.Error(l, e)
		}
	}
}

// P3.1: two symbols, of each length: no row that isn't whole may be, though one of them has length 1, or they are half of the whole together.
func TestTwoSymbols(t *testing.T) {
	for a := uint8(1); a <= 15; a++ {
		for b := uint8(1); b <= 15; b++ {
			want := api.ErrUnder
			if a == 1 && b == 1 {
				want = api.OK
			}
			if e := canon.Check([]uint8{a, 0, b}, 15); e != want {
				t.Error(a, b, e)
			}
			ask(t, []uint8{0, a, b}, 15)
		}
	}
}

// P3.1: the code that RFC 1951 gives for its fixed blocks (3.2.6).
func TestFixedCode(t *testing.T) {
	lengths := slices.Concat(times(8, 144), times(9, 112), times(7, 24), times(8, 8))
	codes, e := canon.Codes(lengths, 15)
	if e != api.OK || len(codes) != 288 {
		t.Fatal(len(codes), e)
	}
	for _, x := range []struct {
		from, to int
		first    uint32
		long     uint8
	}{{0, 143, 0b00110000, 8}, {144, 255, 0b110010000, 9}, {256, 279, 0, 7}, {280, 287, 0b11000000, 8}} {
		for sym := x.from; sym <= x.to; sym++ {
			if want := (api.Code{Bits: x.first + uint32(sym-x.from), Long: x.long}); codes[sym] != want {
				t.Error(sym, codes[sym], want)
			}
		}
	}
}

// P3.2: neither lengths nor the memory behind them are written to, and a second call answers the same.
func TestReadingChangesNothing(t *testing.T) {
	c := chance(2)
	for _, lengths := range [][]uint8{c.whole(15, 200, 9), c.whole(4, 20, 3), {1}, {0, 0}, {1, 1, 1}, {2, 2}, {3, 16}, times(3, 321)} {
		memory := append(slices.Clone(lengths), times(7, 30)...)
		before := slices.Clone(memory)
		handed := memory[:len(lengths)]
		check := canon.Check(handed, 15)
		codes, e := canon.Codes(handed, 15)
		for range 3 {
			again, f := canon.Codes(handed, 15)
			if f != e || !slices.Equal(again, codes) || canon.Check(handed, 15) != check {
				t.Error(lengths, "a second call answers otherwise")
			}
		}
		if !slices.Equal(memory, before) {
			t.Error(lengths, "what was handed in is not as it was")
		}
	}
}

// P3.2: codes that were answered are their caller's: what becomes of them shows in no others.
func TestCodesAreApart(t *testing.T) {
	lengths := []uint8{3, 3, 3, 3, 3, 2, 4, 4}
	kept, _ := canon.Codes(lengths, 15)
	first, _ := canon.Codes(lengths, 15)
	before := slices.Clone(kept)
	first = first[:cap(first)]
	for i := range first {
		first[i] = api.Code{Bits: 9, Long: 9}
	}
	lengths[0] = 4
	again, _ := canon.Codes([]uint8{3, 3, 3, 3, 3, 2, 4, 4}, 15)
	if !slices.Equal(kept, before) || !slices.Equal(again, before) {
		t.Error("memory is shared")
	}
}

// P3.3: no code begins another one, and of whole lengths each row of 15 bits begins with just one.
func TestEachRowBeginsWithOneCode(t *testing.T) {
	c := chance(3)
	all := [][]uint8{{1, 1}, append(ladder(15), 15), times(8, 256), append(times(8, 192), times(9, 128)...)}
	for most := 1; most <= 15; most++ {
		for range 12 {
			all = append(all, c.whole(most, c.below(500), c.below(30)))
		}
	}
	for _, lengths := range all {
		codes, e := canon.Codes(lengths, 15)
		if e != api.OK {
			t.Fatal(lengths, e)
		}
		begins := make([]int, 1<<15)
		for _, x := range codes {
			for row := range 1 << 15 {
				if x.Long > 0 && row>>(15-x.Long) == int(x.Bits) {
					begins[row]++
				}
			}
		}
		for row, many := range begins {
			if many != 1 {
				t.Fatalf("%v: %d codes begin the row %015b", lengths, many, row)
			}
		}
		rows := texted(codes)
		for a, x := range rows {
			for b, y := range rows {
				if a != b && x != "" && y != "" && strings.HasPrefix(y, x) {
					t.Fatalf("%v: the code %s of %d begins that of %d, %s", lengths, x, a, b, y)
				}
			}
		}
	}
}

// The chapter's examples.
func TestExamples(t *testing.T) {
	for i, x := range []struct {
		lengths []uint8
		codes   string
		e       api.Errno
	}{
		{[]uint8{3, 3, 3, 3, 3, 2, 4, 4}, "010 011 100 101 110 00 1110 1111", api.OK},
		{[]uint8{0, 1, 0}, "- 0 -", api.OK},
		{[]uint8{0, 0}, "- -", api.OK},
		{[]uint8{1, 1}, "0 1", api.OK},
		{[]uint8{1, 1, 1}, "", api.ErrOver},
		{[]uint8{2, 2}, "", api.ErrUnder},
		{[]uint8{2}, "", api.ErrUnder},
		{[]uint8{16}, "", api.ErrArg},
	} {
		if e := canon.Check(x.lengths, 15); e != x.e {
			t.Error(i, e)
		}
		if l, e := canon.Codes(x.lengths, 15); e != x.e || !slices.Equal(l, read(x.codes)) {
			t.Error(i, l, e)
		}
	}
}
