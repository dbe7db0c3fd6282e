package runs_test

import (
	"math"
	"slices"
	"strings"
	"testing"

	"bellows/api"
	"bellows/runs"
)

// extras are each symbol's extra bits, one by one, so that they share nothing with the package.
var extras = []int{0, 0, 0, 0, 0, 0, 0, 0, 0, 0, 0, 0, 0, 0, 0, 0, 2, 3, 7}

// wild are numbers that are no symbol, no extra and no number of lengths; the lowest bits of some are those of one that is.
var wild = []int{
	math.MinInt, math.MinInt + 1, math.MinInt + 16, math.MinInt + 18, -1 << 33, -1<<32 + 5, -1<<32 + 16, -1 << 31, -1<<16 + 17, -320, -256, -240, -238, -19, -18, -17, -16, -3, -2, -1,
	321, 322, 1<<16 + 16, 1 << 17, 1<<31 - 1, 1 << 31, 1 << 32, 1<<32 + 1, 1<<32 + 3, 1<<32 + 16, 1<<32 + 17, 1<<32 + 18, 1 << 62, math.MaxInt - 138, math.MaxInt - 11, math.MaxInt - 10, math.MaxInt - 3, math.MaxInt - 2, math.MaxInt - 1, math.MaxInt,
}

// squeezed are the runs of lengths up to 15, by the chapter's words: as a text of letters, whose beginning is looked at.
func squeezed(lengths []uint8) []api.Run {
	var text strings.Builder
	for _, n := range lengths {
		text.WriteByte('a' + n)
	}
	var l []api.Run
	ahead, rest := "", text.String()
	for rest != "" {
		own := rest[:1]
		r, times := api.Run{Sym: int(own[0] - 'a')}, 1
		switch same := len(rest) - len(strings.TrimLeft(rest, own)); {
		case own == "a" && same >= 138:
			r, times = api.Run{Sym: 18, Extra: 127}, 138
		case own == "a" && same >= 11:
			r, times = api.Run{Sym: 18, Extra: same - 11}, same
		case own == "a" && same >= 3:
			r, times = api.Run{Sym: 17, Extra: same - 3}, same
		case own != "a" && own == ahead && same >= 6:
			r, times = api.Run{Sym: 16, Extra: 3}, 6
		case own != "a" && own == ahead && same >= 3:
			r, times = api.Run{Sym: 16, Extra: same - 3}, same
		}
		l = append(l, r)
		ahead, rest = own, rest[times:]
	}
	return l
}

// made is how many lengths a run makes that may be.
func made(r api.Run) int {
	switch r.Sym {
	case 16, 17:
		return 3 + r.Extra
	case 18:
		return 11 + r.Extra
	}
	return 1
}

// stretched is what the chapter's words tell of runs.
func stretched(l []api.Run, n int) ([]uint8, api.Errno) {
	if n < 0 || n > 320 {
		return nil, api.ErrArg
	}
	var lengths []uint8
	for _, r := range l {
		if r.Sym < 0 || r.Sym > 18 || r.Extra < 0 || r.Extra > 1<<extras[r.Sym]-1 {
			return nil, api.ErrBad
		}
		if r.Sym == 16 && len(lengths) == 0 {
			return nil, api.ErrRun
		}
		long := uint8(0)
		if r.Sym <= 15 {
			long = uint8(r.Sym)
		} else if r.Sym == 16 {
			long = lengths[len(lengths)-1]
		}
		lengths = append(lengths, times(long, made(r))...)
		if len(lengths) > n {
			return nil, api.ErrRun
		}
	}
	if len(lengths) < n {
		return nil, api.ErrRun
	}
	return lengths, api.OK
}

// times is one length, so many times.
func times(n uint8, many int) []uint8 {
	return slices.Repeat([]uint8{n}, many)
}

// chance gives numbers that look like chance and are always the same.
type chance uint64

func (c *chance) below(n int) int {
	*c ^= *c << 13
	*c ^= *c >> 7
	*c ^= *c << 17
	return int(uint64(*c>>16) % uint64(n))
}

// row is lengths of several runs, 320 at most.
func (c *chance) row() []uint8 {
	var lengths []uint8
	for range c.below(12) {
		many := []int{1, 2, 3, 4, 5, 6, 7, 8, 10, 11, 12, 13, 137, 138, 139, 141}[c.below(16)]
		lengths = append(lengths, times(uint8(c.below(2)*c.below(16)), min(many, 320-len(lengths)))...)
	}
	return lengths
}

// runs are some, each of which may be.
func (c *chance) runs() []api.Run {
	var l []api.Run
	for range c.below(8) {
		sym := []int{0, 1, 8, 14, 15, 16, 16, 16, 17, 17, 18}[c.below(11)]
		l = append(l, api.Run{Sym: sym, Extra: c.below(1 << extras[sym])})
	}
	return l
}

// squeeze asks for the runs of lengths that may be, holds them against what the chapter's words tell, and makes the lengths again.
func squeeze(t *testing.T, lengths []uint8) {
	t.Helper()
	l, e := runs.Squeeze(lengths)
	if want := squeezed(lengths); e != api.OK || !slices.Equal(l, want) {
		t.Fatalf("Squeeze(%v) is %v, error %d, not %v", lengths, l, e, want)
	}
	if len(l) > len(lengths) {
		t.Fatalf("Squeeze(%v) is %d runs", lengths, len(l))
	}
	if b, e := runs.Stretch(l, len(lengths)); e != api.OK || !slices.Equal(b, lengths) {
		t.Fatalf("Stretch(%v, %d) is %v, error %d, not %v", l, len(lengths), b, e, lengths)
	}
}

// stretch asks for the lengths that runs make, and holds all that is answered against what the chapter's words tell.
func stretch(t *testing.T, l []api.Run, n int) {
	t.Helper()
	want, f := stretched(l, n)
	if b, e := runs.Stretch(l, n); e != f || !slices.Equal(b, want) || e != api.OK && b != nil {
		t.Fatalf("Stretch(%v, %d) is %v, error %d, not %v, error %d", l, n, b, e, want, f)
	}
}

// fails asks for the lengths that runs make, and holds what is answered against an error.
func fails(t *testing.T, l []api.Run, n int, want api.Errno) {
	t.Helper()
	if b, e := runs.Stretch(l, n); b != nil || e != want {
		t.Errorf("Stretch(%v, %d) is %v, error %d, not error %d", l, n, b, e, want)
	}
}

// P10.1: each symbol's extra bits; of what is no symbol an error, with nothing beside it.
func TestBits(t *testing.T) {
	for sym := -70000; sym <= 140000; sym++ {
		want, f := 0, api.ErrArg
		if sym >= 0 && sym <= 18 {
			want, f = extras[sym], api.OK
		}
		if n, e := runs.Bits(sym); n != want || e != f {
			t.Error(sym, n, e)
		}
	}
	for _, sym := range wild {
		if n, e := runs.Bits(sym); n != 0 || e != api.ErrArg {
			t.Error(sym, n, e)
		}
	}
}

// P10.1: each length there is, so many times, from none to 320.
func TestSqueezeOneLength(t *testing.T) {
	for n := uint8(0); n <= 15; n++ {
		for many := range 321 {
			squeeze(t, times(n, many))
		}
	}
}

// P10.1: a length so many times, behind another one and ahead of a third.
func TestSqueezeBetween(t *testing.T) {
	for many := range 160 {
		for _, own := range []uint8{0, 1, 9, 15} {
			for _, ahead := range []uint8{0, 1, 15} {
				for _, behind := range []uint8{0, 1, 9} {
					squeeze(t, slices.Concat([]uint8{ahead}, times(own, many), []uint8{behind}))
					squeeze(t, slices.Concat(times(ahead, 4), times(own, many), times(behind, 4)))
				}
			}
		}
	}
}

// P10.1, P10.4: each row of up to 8 lengths, of three, one of which is 0.
func TestSqueezeEachShortRow(t *testing.T) {
	for symbols := range 9 {
		rows := 1
		for range symbols {
			rows *= 3
		}
		for row := range rows {
			lengths := make([]uint8, symbols)
			for i := range lengths {
				lengths[i] = uint8(row%3) * 5
				row /= 3
			}
			squeeze(t, lengths)
		}
	}
}

// P10.1, P10.4: rows of several runs, and rows where each length is any one.
func TestSqueezeRows(t *testing.T) {
	c := chance(101)
	for range 20000 {
		squeeze(t, c.row())
	}
	for range 2000 {
		lengths := make([]uint8, c.below(321))
		most := 1 + c.below(16)
		for i := range lengths {
			lengths[i] = uint8(c.below(most))
		}
		squeeze(t, lengths)
	}
}

// P10.1: the runs by their numbers, at the edges that the chapter names.
func TestSqueezeEdges(t *testing.T) {
	for i, x := range []struct {
		lengths []uint8
		want    []api.Run
	}{
		{nil, nil},
		{[]uint8{}, nil},
		{times(0, 2), []api.Run{{}, {}}},
		{times(0, 3), []api.Run{{Sym: 17}}},
		{times(0, 10), []api.Run{{Sym: 17, Extra: 7}}},
		{times(0, 11), []api.Run{{Sym: 18}}},
		{times(0, 138), []api.Run{{Sym: 18, Extra: 127}}},
		{times(0, 140), []api.Run{{Sym: 18, Extra: 127}, {}, {}}},
		{times(0, 148), []api.Run{{Sym: 18, Extra: 127}, {Sym: 17, Extra: 7}}},
		{times(0, 149), []api.Run{{Sym: 18, Extra: 127}, {Sym: 18}}},
		{times(0, 320), []api.Run{{Sym: 18, Extra: 127}, {Sym: 18, Extra: 127}, {Sym: 18, Extra: 33}}},
		{times(9, 3), []api.Run{{Sym: 9}, {Sym: 9}, {Sym: 9}}},
		{times(9, 4), []api.Run{{Sym: 9}, {Sym: 16}}},
		{times(9, 7), []api.Run{{Sym: 9}, {Sym: 16, Extra: 3}}},
		// The length behind six is known still, and needs no symbol of its own.
		{times(9, 10), []api.Run{{Sym: 9}, {Sym: 16, Extra: 3}, {Sym: 16}}},
		{times(9, 9), []api.Run{{Sym: 9}, {Sym: 16, Extra: 3}, {Sym: 9}, {Sym: 9}}},
		{append(times(1, 4), times(2, 4)...), []api.Run{{Sym: 1}, {Sym: 16}, {Sym: 2}, {Sym: 16}}},
		{append(times(0, 4), times(15, 4)...), []api.Run{{Sym: 17, Extra: 1}, {Sym: 15}, {Sym: 16}}},
		// A length 0 is known here, too, but is none of those that 16 is for.
		{slices.Concat([]uint8{4}, times(0, 139), []uint8{4}), []api.Run{{Sym: 4}, {Sym: 18, Extra: 127}, {}, {Sym: 4}}},
	} {
		if l, e := runs.Squeeze(x.lengths); e != api.OK || !slices.Equal(l, x.want) {
			t.Error(i, l, e)
		}
		squeeze(t, x.lengths)
	}
}

// P10.1: lengths that may not be, wherever they stand, and as many as may be, and more; too many are told ahead of a wrong one.
func TestSqueezeWrong(t *testing.T) {
	for n := 16; n < 256; n++ {
		for _, lengths := range [][]uint8{
			{uint8(n)}, times(uint8(n), 4), {1, uint8(n), 1}, append(times(3, 319), uint8(n)), append([]uint8{uint8(n)}, times(0, 319)...),
		} {
			if l, e := runs.Squeeze(lengths); l != nil || e != api.ErrArg {
				t.Error(lengths, l, e)
			}
		}
		if l, e := runs.Squeeze(append(times(3, 320), uint8(n))); l != nil || e != api.ErrMany {
			t.Error(n, l, e)
		}
	}
	for _, many := range []int{321, 322, 400, 1 << 16, 1<<16 + 1, 1 << 20} {
		for _, n := range []uint8{0, 15, 16, 255} {
			if l, e := runs.Squeeze(times(n, many)); l != nil || e != api.ErrMany {
				t.Error(many, n, len(l), e)
			}
		}
	}
}

// P10.2: each run that may be, behind nothing and behind a length, and each number of lengths near to what it makes.
func TestStretchEachRun(t *testing.T) {
	for sym, bits := range extras {
		for extra := range 1 << bits {
			r := api.Run{Sym: sym, Extra: extra}
			for n := range 145 {
				stretch(t, []api.Run{r}, n)
				stretch(t, []api.Run{{Sym: 7}, r}, n)
			}
		}
	}
}

// P10.2: a 16 is the length ahead, whatever told that.
func TestStretchAhead(t *testing.T) {
	for i, x := range []struct {
		l    []api.Run
		want []uint8
	}{
		{[]api.Run{{Sym: 5}, {Sym: 16}}, times(5, 4)},
		{[]api.Run{{Sym: 15}, {Sym: 16, Extra: 3}}, times(15, 7)},
		{[]api.Run{{}, {Sym: 16, Extra: 2}}, times(0, 6)},
		{[]api.Run{{Sym: 17}, {Sym: 16}}, times(0, 6)},
		{[]api.Run{{Sym: 8}, {Sym: 18}, {Sym: 16}}, append([]uint8{8}, times(0, 14)...)},
		{[]api.Run{{Sym: 6}, {Sym: 16}, {Sym: 16, Extra: 3}}, times(6, 10)},
		{[]api.Run{{Sym: 6}, {Sym: 3}, {Sym: 16}}, []uint8{6, 3, 3, 3, 3}},
		{[]api.Run{{Sym: 6}, {Sym: 3}, {Sym: 17}, {Sym: 2}, {Sym: 16}}, []uint8{6, 3, 0, 0, 0, 2, 2, 2, 2}},
		{nil, nil},
		{[]api.Run{}, nil},
	} {
		for n := range 40 {
			if n != len(x.want) {
				fails(t, x.l, n, api.ErrRun)
			}
		}
		if b, e := runs.Stretch(x.l, len(x.want)); e != api.OK || !slices.Equal(b, x.want) {
			t.Error(i, b, e)
		}
	}
}

// P10.2: some runs that may be, with the number of lengths that they make, and with others; one of them is then made another one.
func TestStretchRows(t *testing.T) {
	c := chance(102)
	for range 20000 {
		l := c.runs()
		if len(l) > 0 && c.below(3) > 0 && l[0].Sym == 16 {
			l[0] = api.Run{Sym: 4}
		}
		all := 0
		for _, r := range l {
			all += made(r)
		}
		for _, n := range []int{all - 1, all, all + 1, c.below(322), 320} {
			stretch(t, l, n)
		}
		if len(l) > 0 {
			l[c.below(len(l))] = api.Run{Sym: c.below(22) - 1, Extra: c.below(12) - 1}
			stretch(t, l, all)
			stretch(t, l, 320)
		}
	}
}

// P10.2: from none to 320 lengths, of a symbol each, or of the greatest runs; no more of them.
func TestStretchHowMany(t *testing.T) {
	for n := range 321 {
		stretch(t, slices.Repeat([]api.Run{{Sym: 3}}, n), n)
		stretch(t, slices.Repeat([]api.Run{{Sym: 3}}, n), n+1)
		stretch(t, slices.Repeat([]api.Run{{Sym: 3}}, n+1), n)
	}
	whole := []api.Run{{Sym: 18, Extra: 127}, {Sym: 18, Extra: 127}, {Sym: 18, Extra: 33}}
	if b, e := runs.Stretch(whole, 320); e != api.OK || !slices.Equal(b, times(0, 320)) {
		t.Error(b, e)
	}
	fails(t, whole, 319, api.ErrRun)
	fails(t, append(whole, api.Run{Sym: 1}), 320, api.ErrRun)
	fails(t, slices.Repeat([]api.Run{{Sym: 18, Extra: 127}}, 1<<16), 320, api.ErrRun)
	fails(t, slices.Repeat([]api.Run{{Sym: 2}}, 1<<20), 320, api.ErrRun)
}

// P10.2: a number of lengths that may not be, ahead of all that is wrong with runs.
func TestStretchWrongNumber(t *testing.T) {
	for _, n := range wild {
		for _, l := range [][]api.Run{nil, {}, {{Sym: 1}}, {{Sym: 16}}, {{Sym: 19}}, {{Sym: 1, Extra: 1}}, {{Sym: 17}, {Sym: 18, Extra: 127}}, slices.Repeat([]api.Run{{Sym: 2}}, 321)} {
			fails(t, l, n, api.ErrArg)
		}
	}
}

// P10.2: runs that may not be, alone and behind one that may.
func TestStretchWrongRun(t *testing.T) {
	bad := func(r api.Run) {
		for n := range 12 {
			fails(t, []api.Run{r}, n, api.ErrBad)
			fails(t, []api.Run{r, {Sym: 16}}, n, api.ErrBad)
			if n > 0 {
				fails(t, []api.Run{{Sym: 4}, r}, n, api.ErrBad)
			}
		}
		fails(t, []api.Run{r}, 320, api.ErrBad)
		fails(t, []api.Run{{Sym: 4}, {Sym: 16}, r}, 320, api.ErrBad)
	}
	for _, sym := range slices.Concat(wild, []int{-1, 19, 20, 31, 32, 255, 256, 256 + 5, 256 + 16, 256 + 18, 272}) {
		for _, extra := range []int{math.MinInt, -1, 0, 1, 127, math.MaxInt} {
			bad(api.Run{Sym: sym, Extra: extra})
		}
	}
	for sym, bits := range extras {
		for _, extra := range slices.Concat(wild, []int{-1, 1 << bits, 1<<bits + 1, 2 << bits, 128, 256, 1<<8 + 1}) {
			if extra < 0 || extra >= 1<<bits {
				bad(api.Run{Sym: sym, Extra: extra})
			}
		}
		for extra := 1 << bits; extra < 300; extra++ {
			fails(t, []api.Run{{Sym: 4}, {Sym: sym, Extra: extra}}, 320, api.ErrBad)
		}
	}
}

// P10.2: what is wrong is told run by run, and of one run in the chapter's order.
func TestStretchWhichError(t *testing.T) {
	for i, x := range []struct {
		l []api.Run
		n int
		e api.Errno
	}{
		// Of one run: what it is, ahead of what stands ahead of it, and of how many it makes.
		{[]api.Run{{Sym: 16, Extra: 4}}, 7, api.ErrBad},
		{[]api.Run{{Sym: 16, Extra: -1}}, 0, api.ErrBad},
		{[]api.Run{{Sym: 16, Extra: 3}}, 320, api.ErrRun},
		{[]api.Run{{Sym: 16}}, 0, api.ErrRun},
		{[]api.Run{{Sym: 18, Extra: 128}}, 5, api.ErrBad},
		{[]api.Run{{Sym: 18, Extra: 127}}, 5, api.ErrRun},
		// Of several: the first one that is wrong.
		{[]api.Run{{Sym: 16}, {Sym: 19}}, 5, api.ErrRun},
		{[]api.Run{{Sym: 19}, {Sym: 16}}, 5, api.ErrBad},
		{[]api.Run{{Sym: 17, Extra: 7}, {Sym: 19}}, 5, api.ErrRun},
		{[]api.Run{{Sym: 17}, {Sym: 19}, {Sym: 18}}, 5, api.ErrBad},
		{[]api.Run{{Sym: 1}, {Sym: 1}, {Sym: 1, Extra: 1}}, 1, api.ErrRun},
		{[]api.Run{{Sym: 1}, {Sym: 1, Extra: 1}}, 1, api.ErrBad},
		// Too few are told behind all runs alone.
		{[]api.Run{{Sym: 1}, {Sym: 19}}, 300, api.ErrBad},
		{[]api.Run{{Sym: 1}, {Sym: 17}}, 5, api.ErrRun},
		{nil, 1, api.ErrRun},
		{nil, 320, api.ErrRun},
	} {
		if b, e := runs.Stretch(x.l, x.n); b != nil || e != x.e {
			t.Error(i, b, e)
		}
	}
}

// P10.3: neither what is handed in nor the memory behind it is written to, and a second call answers the same.
func TestReadingChangesNothing(t *testing.T) {
	c := chance(103)
	for range 300 {
		lengths := c.row()
		memory := append(slices.Clone(lengths), times(0, 30)...)
		l, e := runs.Squeeze(memory[:len(lengths)])
		if again, f := runs.Squeeze(memory[:len(lengths)]); f != e || !slices.Equal(again, l) {
			t.Error(lengths, "a second call answers otherwise")
		}
		if !slices.Equal(memory, append(slices.Clone(lengths), times(0, 30)...)) {
			t.Error(lengths, "is not as it was")
		}
		behind := slices.Repeat([]api.Run{{Sym: 9}}, 30)
		handed := append(slices.Clone(l), behind...)
		for range 2 {
			if b, e := runs.Stretch(handed[:len(l)], len(lengths)); e != api.OK || !slices.Equal(b, lengths) {
				t.Error(l, b, e)
			}
			runs.Stretch(handed[:len(l)], 3)
		}
		if !slices.Equal(handed, append(slices.Clone(l), behind...)) {
			t.Error(l, "is not as it was")
		}
	}
}

// P10.3: what was answered is its caller's: what becomes of it shows in nothing else.
func TestAnswersAreApart(t *testing.T) {
	lengths := slices.Concat(times(0, 150), times(7, 12), []uint8{1, 2, 3})
	kept, _ := runs.Squeeze(lengths)
	first, _ := runs.Squeeze(lengths)
	before := slices.Clone(kept)
	first = first[:cap(first)]
	for i := range first {
		first[i] = api.Run{Sym: 9, Extra: 9}
	}
	if again, _ := runs.Squeeze(lengths); !slices.Equal(kept, before) || !slices.Equal(again, before) {
		t.Error("runs are shared")
	}
	mine, _ := runs.Stretch(kept, len(lengths))
	other, _ := runs.Stretch(kept, len(lengths))
	other = other[:cap(other)]
	for i := range other {
		other[i] = 99
	}
	if again, _ := runs.Stretch(kept, len(lengths)); !slices.Equal(mine, lengths) || !slices.Equal(again, lengths) {
		t.Error("lengths are shared")
	}
}

// P1: whatever is handed in, each call ends, none panics, and an error has nothing beside it.
func TestWhatever(t *testing.T) {
	all := slices.Concat(wild, []int{0, 1, 2, 3, 4, 7, 8, 10, 11, 15, 16, 17, 18, 19, 127, 128, 138, 319, 320})
	for _, sym := range all {
		for _, extra := range all {
			for _, n := range all {
				stretch(t, []api.Run{{Sym: sym, Extra: extra}}, n)
				stretch(t, []api.Run{{Sym: 2}, {Sym: sym, Extra: extra}, {Sym: 16}}, n)
			}
		}
	}
}

// The chapter's examples.
func TestExamples(t *testing.T) {
	for i, x := range []struct {
		lengths []uint8
		want    []api.Run
	}{
		{[]uint8{5, 5, 5, 5, 0, 0, 0, 7}, []api.Run{{Sym: 5}, {Sym: 16}, {Sym: 17}, {Sym: 7}}},
		{times(0, 12), []api.Run{{Sym: 18, Extra: 1}}},
		{times(0, 139), []api.Run{{Sym: 18, Extra: 127}, {}}},
	} {
		if l, e := runs.Squeeze(x.lengths); e != api.OK || !slices.Equal(l, x.want) {
			t.Error(i, l, e)
		}
	}
	if b, e := runs.Stretch([]api.Run{{Sym: 5}, {Sym: 16}}, 4); e != api.OK || !slices.Equal(b, times(5, 4)) {
		t.Error(b, e)
	}
	fails(t, []api.Run{{Sym: 5}, {Sym: 16}}, 5, api.ErrRun)
	fails(t, []api.Run{{Sym: 16}}, 3, api.ErrRun)
	fails(t, []api.Run{{Sym: 19}}, 3, api.ErrBad)
	if n, e := runs.Bits(18); n != 7 || e != api.OK {
		t.Error(n, e)
	}
	if l, e := runs.Squeeze([]uint8{16}); l != nil || e != api.ErrArg {
		t.Error(l, e)
	}
}
