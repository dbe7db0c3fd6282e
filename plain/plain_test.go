package plain_test

import (
	"bytes"
	"compress/flate"
	"io"
	"math"
	"slices"
	"strings"
	"testing"

	"bellows/api"
	"bellows/plain"
	"bellows/press"
)

// sameTree and sameBlock tell whether two are the same, field by field.
func sameTree(a, b api.Tree) bool {
	return a.Count == b.Count && slices.Equal(a.Syms, b.Syms)
}

func sameBlock(a, b api.Block) bool {
	return a.Kind == b.Kind && a.Last == b.Last && a.Left == b.Left && sameTree(a.Longs, b.Longs) && sameTree(a.Fars, b.Fars)
}

// holdHead holds Head against the words, and tells what the words told.
func holdHead(t *testing.T, b []byte, at int) (open, int, api.Errno) {
	t.Helper()
	want, wantNext, wantErr := headOf(text(b), at)
	k, next, e := plain.Head(b, at)
	if e != wantErr || next != wantNext || !sameBlock(k, want.block()) {
		t.Fatalf("Head(%x, %d): %v, %d, error %d, not %v, %d, error %d", b, at, k, next, e, want.block(), wantNext, wantErr)
	}
	if e == api.OK && plain.Check(k) != api.OK {
		t.Fatalf("Head(%x, %d): %v may not be", b, at, k)
	}
	return want, next, e
}

// holdStep holds Step against the words, and tells what both told.
func holdStep(t *testing.T, k open, b []byte, at int) (api.Token, bool, int, api.Errno) {
	t.Helper()
	want, wantEnd, wantNext, wantErr := stepOf(k, text(b), at)
	tok, end, next, e := plain.Step(k.block(), b, at)
	if tok != want || end != wantEnd || next != wantNext || e != wantErr {
		t.Fatalf("Step(%v, %x, %d): %v, %t, %d, error %d, not %v, %t, %d, error %d", k.block(), b, at, tok, end, next, e, want, wantEnd, wantNext, wantErr)
	}
	return tok, end, next, e
}

// holdTell holds Inflate, and from 0 on Prefix, against the words, and tells what the words told.
func holdTell(t *testing.T, b []byte, at, most int) ([]byte, int, api.Errno) {
	t.Helper()
	want, wantNext, wantErr := tellOf(text(b), at, most)
	told, next, e := plain.Inflate(b, at, most)
	if e != wantErr || next != wantNext || e == api.OK && !bytes.Equal(told, want) || e != api.OK && told != nil {
		t.Fatalf("Inflate(%x, %d, %d): %x, %d, error %d, not %x, %d, error %d", b, at, most, told, next, e, want, wantNext, wantErr)
	}
	if at == 0 {
		holdPrefix(t, b, most, want, wantErr)
	}
	return want, wantNext, wantErr
}

// holdPrefix holds Prefix against what was told up to an error.
func holdPrefix(t *testing.T, b []byte, most int, want []byte, wantErr api.Errno) {
	t.Helper()
	if wantErr == api.ErrEnd {
		wantErr = api.OK
	}
	told, e := plain.Prefix(b, most)
	if e != wantErr || e == api.OK && !bytes.Equal(told, want) || e != api.OK && told != nil {
		t.Fatalf("Prefix(%x, %d): %x, error %d, not %x, error %d", b, most, told, e, want, wantErr)
	}
}

// P13.1: blocks that may be, at the edges.
func TestCheck(t *testing.T) {
	trees := mayTrees()
	for _, last := range []bool{false, true} {
		for _, left := range []int{0, 1, 8, 65534, 65535} {
			k := api.Block{Kind: 0, Last: last, Left: left}
			if e := plain.Check(k); e != api.OK {
				t.Error(k, e)
			}
			// Empty lists and nil are the same.
			k.Longs.Syms, k.Fars.Syms = []int{}, []int{}
			if e := plain.Check(k); e != api.OK {
				t.Error(k, e)
			}
		}
		for kind := uint8(1); kind <= 2; kind++ {
			for _, longs := range trees {
				for _, fars := range trees {
					k := api.Block{Kind: kind, Last: last, Longs: longs, Fars: fars}
					if e := plain.Check(k); e != api.OK {
						t.Error(k, e)
					}
				}
			}
		}
	}
}

// mayTrees are trees that may be: some that no head tells, too.
func mayTrees() []api.Tree {
	longs, fars := fixed()
	c := chance(130)
	return []api.Tree{{}, {Syms: []int{}}, grown(longs), grown(fars), grown([]uint8{1}), grown([]uint8{0, 1}), grown([]uint8{1, 1}), grown(c.lengths(320, c.pick(320, 320), 15)), grown(c.lengths(320, c.pick(99, 320), 15)), grown(append(make([]uint8, 319), 1))}
}

// wrongTrees are trees that may not be.
func wrongTrees() []api.Tree {
	longs, _ := fixed()
	odd := grown(longs)
	odd.Syms[0], odd.Syms[1] = odd.Syms[1], odd.Syms[0]
	more := grown(longs)
	more.Count[0] = 1
	return []api.Tree{odd, more, grown([]uint8{2}), grown([]uint8{1, 1, 1}), grown([]uint8{2, 2, 2}), {Syms: []int{0}}, {Count: [16]int{1: 1}}, {Count: [16]int{1: 2}, Syms: []int{0, 0}}, {Count: [16]int{1: 1}, Syms: []int{320}}, {Count: [16]int{1: 1}, Syms: []int{-1}}, {Count: [16]int{1: math.MaxInt}, Syms: []int{1}}, {Count: [16]int{5: -1}}}
}

// wrongs are blocks that may not be, by one thing each.
func wrongs() []api.Block {
	var l []api.Block
	for _, kind := range []uint8{3, 4, 128, 255} {
		l = append(l, api.Block{Kind: kind}, api.Block{Kind: kind, Left: 1}, fixedBlockAs(kind))
	}
	for _, left := range append(wild, 65536) {
		l = append(l, api.Block{Left: left}, api.Block{Left: left, Last: true})
	}
	for _, x := range append(wild, 1, 65535) {
		for kind := uint8(1); kind <= 2; kind++ {
			k := fixedBlockAs(kind)
			k.Left = x
			l = append(l, k, api.Block{Kind: kind, Left: x})
		}
	}
	for _, x := range mayTrees()[2:] {
		l = append(l, api.Block{Longs: x}, api.Block{Fars: x}, api.Block{Left: 9, Longs: x, Fars: x})
	}
	for _, x := range wrongTrees() {
		l = append(l, api.Block{Longs: x}, api.Block{Fars: x})
		for kind := uint8(1); kind <= 2; kind++ {
			k, f := fixedBlockAs(kind), fixedBlockAs(kind)
			k.Longs, f.Fars = x, x
			l = append(l, k, f, api.Block{Kind: kind, Longs: x}, api.Block{Kind: kind, Fars: x})
		}
	}
	return l
}

// fixedBlockAs is a block of a kind with the trees of a fixed one.
func fixedBlockAs(kind uint8) api.Block {
	k := fixedBlock.block()
	k.Kind = kind
	return k
}

// P13.1, P13.2: blocks that may not be, to Check and to Step.
func TestWrongBlocks(t *testing.T) {
	for _, k := range wrongs() {
		if e := plain.Check(k); e != api.ErrBad {
			t.Error(k, e)
		}
		for _, b := range [][]byte{nil, {0}, make([]byte, 9)} {
			for _, at := range []int{0, 8 * len(b)} {
				if tok, end, next, e := plain.Step(k, b, at); e != api.ErrBad || tok != (api.Token{}) || end || next != 0 {
					t.Error(k, b, at, tok, end, next, e)
				}
			}
		}
	}
}

// only tells of each call its error, and that there is nothing beside it.
func only(t *testing.T, k api.Block, b []byte, at, most int) (head, step, inflate, prefix api.Errno) {
	t.Helper()
	x, next, head := plain.Head(b, at)
	if head != api.OK && (!sameBlock(x, api.Block{}) || next != 0) {
		t.Error("Head", len(b), at, x, next, head)
	}
	tok, end, next, step := plain.Step(k, b, at)
	if step != api.OK && (tok != api.Token{} || end || next != 0) {
		t.Error("Step", len(b), at, tok, end, next, step)
	}
	told, next, inflate := plain.Inflate(b, at, most)
	if inflate != api.OK && (told != nil || next != 0) {
		t.Error("Inflate", len(b), at, most, len(told), next, inflate)
	}
	told, prefix = plain.Prefix(b, most)
	if prefix != api.OK && told != nil {
		t.Error("Prefix", len(b), most, len(told), prefix)
	}
	return head, step, inflate, prefix
}

// P13.1, P13.3: what is handed in is too much, or a number that may not be; the error that is named first is told.
func TestArguments(t *testing.T) {
	good, bad := fixedBlock.block(), api.Block{Kind: 3}
	full := append([]byte{3, 0}, make([]byte, 1<<17-2)...)
	more := append(full, 0)
	for _, at := range append(wild, 0, 1, 8<<17, 8<<17+1, 8<<17+8, 8<<17+9) {
		for _, most := range append(wild, 0, 1<<17, 1<<17+1) {
			for _, k := range []api.Block{good, bad} {
				if h, s, i, p := only(t, k, more, at, most); h != api.ErrMany || s != api.ErrMany || i != api.ErrMany || p != api.ErrMany {
					t.Error(at, most, h, s, i, p)
				}
			}
		}
	}
	for _, b := range [][]byte{nil, {}, {3}, {3, 0}, {3, 0, 9}, full} {
		for _, at := range append(wild, -2, 8*len(b)+1, 8*len(b)+2, 8*len(b)+8, 8*len(b)+9) {
			for _, k := range []api.Block{good, bad} {
				if h, s, i, _ := only(t, k, b, at, 9); h != api.ErrArg || s != api.ErrArg || i != api.ErrArg {
					t.Error(len(b), at, h, s, i)
				}
			}
		}
		for _, most := range append(wild, -2, 1<<17+1, 1<<17+2) {
			for _, at := range []int{0, 8 * len(b)} {
				if _, _, i, p := only(t, good, b, at, most); i != api.ErrArg || p != api.ErrArg {
					t.Error(len(b), at, most, i, p)
				}
			}
		}
	}
	for _, most := range []int{0, 1, 1 << 17} {
		if h, s, i, p := only(t, good, full, 0, most); h != api.OK || s != api.OK || i != api.OK || p != api.OK {
			t.Error(h, s, i, p)
		}
		holdTell(t, []byte{3, 0}, 16, most)
		holdTell(t, []byte{3, 0}, 0, most)
	}
	stored := api.Block{}
	if _, end, next, e := plain.Step(stored, full, 8<<17); !end || next != 8<<17 || e != api.OK {
		t.Error(end, next, e)
	}
	if _, _, e := plain.Head(full, 8<<17); e != api.ErrEnd {
		t.Error(e)
	}
	if _, _, e := plain.Inflate(full, 8<<17, 0); e != api.ErrEnd {
		t.Error(e)
	}
}

// P13.2, P13.3: all there is of two bytes, from each place on.
func TestAllOfTwoBytes(t *testing.T) {
	for i := range 1 << 16 {
		b := []byte{byte(i), byte(i >> 8)}
		at := i % 17
		holdHead(t, b, at)
		holdTell(t, b, at, 300)
		if i < 256 {
			for at := range 9 {
				holdHead(t, b[:1], at)
				holdTell(t, b[:1], at, 300)
			}
		}
	}
}

// around hands on what some bits make behind as many others, from none to some more than a byte's, and with others behind them.
func around(bits string, do func(b []byte, at int)) {
	c := chance(131)
	for at := range 19 {
		ahead := text(c.bytes(3, 256))[:at]
		do(packed(ahead+bits), at)
		do(packed(ahead+bits+text(c.bytes(2, 256))), at)
	}
}

// P13.2: a stored block's head, at each place of a byte; and each beginning of it.
func TestStoredHead(t *testing.T) {
	for _, n := range []int{0, 1, 2, 255, 256, 257, 4660, 32767, 32768, 65279, 65534, 65535} {
		for at := range 17 {
			for _, last := range []bool{false, true} {
				ahead := strings.Repeat("1", at)
				bits := ahead + head(last, 0)
				bits += strings.Repeat("1", -len(bits)&7)
				good := packed(bits + low(n, 16) + low(65535-n, 16))
				k, next, e := plain.Head(good, at)
				if e != api.OK || next != 8*len(good) || !sameBlock(k, api.Block{Kind: 0, Last: last, Left: n}) {
					t.Fatal(n, at, k, next, e)
				}
				for i := range good {
					if _, _, e := holdHead(t, good[:i], min(at, 8*i)); e != api.ErrEnd {
						t.Fatal(n, at, i, e)
					}
				}
				for i := range 32 {
					b := slices.Clone(good)
					b[len(b)-4+i/8] ^= 1 << (i % 8)
					if _, _, e := holdHead(t, b, at); e != api.ErrStored {
						t.Fatal(n, at, i, e)
					}
				}
			}
		}
	}
}

// P13.2: a fixed block's head, and that of a kind that there is not.
func TestFixedHead(t *testing.T) {
	for _, last := range []bool{false, true} {
		around(head(last, 1), func(b []byte, at int) {
			k, next, e := plain.Head(b, at)
			want := fixedBlock.block()
			want.Last = last
			if e != api.OK || next != at+3 || !sameBlock(k, want) {
				t.Fatal(at, k, next, e)
			}
		})
		around(head(last, 3), func(b []byte, at int) {
			if _, _, e := holdHead(t, b, at); e != api.ErrKind {
				t.Fatal(at, e)
			}
		})
	}
	for at, e := range []api.Errno{6: api.ErrEnd, 7: api.ErrEnd, 8: api.ErrEnd} {
		if _, _, got := holdHead(t, []byte{0xff}, at); e != api.OK && got != e {
			t.Error(at, got)
		}
	}
}

// ends are lengths of n symbols, of which just End has one, of a bit.
func ends(n int) []uint8 {
	l := make([]uint8, n)
	l[256] = 1
	return l
}

// with is lengths in which some symbols have other ones: a symbol and its length, and so on.
func with(l []uint8, pairs ...int) []uint8 {
	l = slices.Clone(l)
	for i := 0; i < len(pairs); i += 2 {
		l[pairs[i]] = uint8(pairs[i+1])
	}
	return l
}

// shortsOf are lengths of the code for lengths: a symbol and its length, and so on.
func shortsOf(pairs ...int) []uint8 {
	return with(make([]uint8, 19), pairs...)
}

// single are the runs that are a length each.
func single(l []uint8) []api.Run {
	var out []api.Run
	for _, n := range l {
		out = append(out, api.Run{Sym: int(n)})
	}
	return out
}

// allShorts is a code for lengths in which each symbol has one.
var allShorts = []uint8{4, 4, 4, 4, 4, 4, 4, 4, 4, 4, 4, 4, 4, 5, 5, 5, 5, 5, 5}

// holdTable holds the head of a dynamic block with that table against the words, and that it ends behind the table, and tells its error.
func holdTable(t *testing.T, table string) api.Errno {
	t.Helper()
	var e api.Errno
	around(head(true, 2)+table, func(b []byte, at int) {
		var next int
		if _, next, e = holdHead(t, b, at); e == api.OK && next != at+3+len(table) {
			t.Fatal(at, next, len(table))
		}
	})
	return e
}

// P13.2: how many lengths are told.
func TestHowManyLengths(t *testing.T) {
	for l := 257; l <= 288; l++ {
		for f := 1; f <= 32; f++ {
			lengths := slices.Concat(ends(l), make([]uint8, f))
			table := told(l, f, allShorts, 19, single(lengths))
			b := packed(head(false, 2) + table)
			_, _, e := holdHead(t, b, 0)
			if want := l <= 286 && f <= 30; want != (e == api.OK) || !want && e != api.ErrTable {
				t.Fatal(l, f, e)
			}
			// Three numbers are read, and then asked: the last one of them may be missing.
			for at := range 8 {
				cut := packed(strings.Repeat("0", at) + head(false, 2) + table)[:2]
				_, _, e := holdHead(t, cut, at)
				if at > 0 && e != api.ErrEnd {
					t.Fatal(l, f, at, e)
				}
			}
		}
	}
	for l := 257; l <= 286; l++ {
		for f := 1; f <= 30; f++ {
			c := chance(1000*l + f)
			fars := c.lengths(f, c.pick(c.below(f+1), f), 15)
			if e := holdTable(t, c.table(ends(l), fars)); e != api.OK {
				t.Fatal(l, f, e)
			}
		}
	}
}

// P13.2: which lengths the code for lengths may have.
func TestCodeForLengths(t *testing.T) {
	lengths := slices.Concat(ends(257), []uint8{0})
	zeros := api.Run{Sym: 18, Extra: 127}
	l := []api.Run{zeros, {Sym: 18, Extra: 256 - 138 - 11}, {Sym: 1}, {Sym: 0}}
	for i, x := range []struct {
		shorts []uint8
		l      []api.Run
		e      api.Errno
	}{
		{allShorts, single(lengths), api.OK},
		{shortsOf(0, 1, 1, 1), single(lengths), api.OK},
		{shortsOf(18, 1, 1, 2, 0, 2), l, api.OK},
		{shortsOf(18, 2, 1, 1, 0, 2), l, api.OK},
		{shortsOf(18, 1, 1, 2, 0, 3, 9, 4, 17, 5, 2, 6, 3, 7, 4, 7), l, api.OK},
		{shortsOf(), nil, api.ErrTable},
		{shortsOf(0, 1), single(lengths[:9]), api.ErrTable},
		{shortsOf(16, 1), nil, api.ErrTable},
		{shortsOf(15, 1), []api.Run{{Sym: 15}}, api.ErrTable},
		{shortsOf(0, 1, 1, 1, 2, 1), nil, api.ErrTable},
		{shortsOf(0, 1, 1, 1, 2, 7), nil, api.ErrTable},
		{shortsOf(0, 1, 1, 2), nil, api.ErrTable},
		{shortsOf(0, 2), nil, api.ErrTable},
		{shortsOf(0, 7, 1, 7), nil, api.ErrTable},
		{shortsOf(18, 1, 1, 2, 0, 3, 9, 4, 17, 5, 2, 6, 3, 7), nil, api.ErrTable},
	} {
		if e := holdTable(t, told(257, 1, x.shorts, 19, x.l)); e != x.e {
			t.Error(i, e)
		}
		if e := holdTable(t, told(257, 1, x.shorts, 0, x.l)); e != x.e {
			t.Error(i, e)
		}
	}
}

// P13.2: each pair of symbols of the code for lengths, told by as few lengths as need be: each stands at its place in the order.
func TestOrder(t *testing.T) {
	for a := range 19 {
		for b := range a {
			shorts := shortsOf(a, 1, b, 1)
			for _, first := range []int{a, b} {
				bits := head(false, 2) + told(257, 1, shorts, 0, []api.Run{{Sym: first, Extra: 1}})
				holdHead(t, packed(bits+strings.Repeat("01", 300)), 0)
				holdHead(t, packed(bits+strings.Repeat("0", 600)), 0)
			}
		}
	}
	c := chance(132)
	for range 300 {
		longs := c.code([]int{256, c.below(256), 257 + c.below(29)}, 257, 286, 15)
		if e := holdTable(t, c.table(longs, make([]uint8, 1+c.below(30)))); e != api.OK {
			t.Fatal(e)
		}
	}
}

// P13.2: runs that make as many lengths as were told, or not.
func TestRuns(t *testing.T) {
	// 250 lengths of 0, by one each.
	most := slices.Repeat([]api.Run{{Sym: 0}}, 250)
	six := func(l ...api.Run) []api.Run { return slices.Concat(most, slices.Repeat([]api.Run{{Sym: 0}}, 6), l) }
	for i, x := range []struct {
		l, f int
		runs []api.Run
		e    api.Errno
	}{
		{257, 1, six(api.Run{Sym: 1}, api.Run{Sym: 0}), api.OK},
		{257, 1, six(api.Run{Sym: 1}, api.Run{Sym: 1}), api.OK},
		// A run goes on from the first ones into the second ones.
		{258, 2, six(api.Run{Sym: 1}, api.Run{Sym: 16}), api.OK},
		{257, 3, six(api.Run{Sym: 1}, api.Run{Sym: 16}), api.ErrTable},
		{258, 1, six(api.Run{Sym: 1}, api.Run{Sym: 1}, api.Run{Sym: 0}), api.OK},
		{258, 2, slices.Concat(most, []api.Run{{Sym: 0}, {Sym: 0}, {Sym: 0}, {Sym: 2}, {Sym: 16, Extra: 1}, {Sym: 0}, {Sym: 0}}), api.ErrTable},
		{259, 2, slices.Concat(most, six()[:5], []api.Run{{Sym: 2}, {Sym: 16, Extra: 0}, {Sym: 1}, {Sym: 1}}), api.OK},
		{259, 5, slices.Concat(most, six()[:4], []api.Run{{Sym: 0}, {Sym: 2}, {Sym: 16, Extra: 0}, {Sym: 2}, {Sym: 16, Extra: 0}, {Sym: 0}}), api.OK},
		{257, 4, slices.Concat(most, six()[:4], []api.Run{{Sym: 1}, {Sym: 0}, {Sym: 1}, {Sym: 16, Extra: 1}}), api.ErrTable},
		{257, 4, six(api.Run{Sym: 1}, api.Run{Sym: 17, Extra: 0}, api.Run{Sym: 0}), api.OK},
		{258, 10, six(api.Run{Sym: 1}, api.Run{Sym: 18, Extra: 0}), api.OK},
		{258, 9, six(api.Run{Sym: 1}, api.Run{Sym: 17, Extra: 7}), api.OK},
		{259, 2, slices.Concat(most, []api.Run{{Sym: 16, Extra: 3}, {Sym: 1}, {Sym: 16, Extra: 1}}), api.ErrTable},
		{257, 1, slices.Concat(most, []api.Run{{Sym: 16, Extra: 3}, {Sym: 1}, {Sym: 0}}), api.OK},
		// One too many, by each symbol.
		{257, 3, six(api.Run{Sym: 1}, api.Run{Sym: 16, Extra: 1}), api.ErrTable},
		{257, 2, six(api.Run{Sym: 1}, api.Run{Sym: 17, Extra: 0}), api.ErrTable},
		{257, 3, six(api.Run{Sym: 1}, api.Run{Sym: 17, Extra: 0}), api.OK},
		{257, 3, six(api.Run{Sym: 1}, api.Run{Sym: 17, Extra: 1}), api.ErrTable},
		{257, 11, six(api.Run{Sym: 1}, api.Run{Sym: 18, Extra: 0}), api.OK},
		{257, 10, six(api.Run{Sym: 1}, api.Run{Sym: 18, Extra: 0}), api.ErrTable},
		{257, 11, six(api.Run{Sym: 1}, api.Run{Sym: 18, Extra: 1}), api.ErrTable},
		{257, 1, []api.Run{{Sym: 18, Extra: 127}, {Sym: 18, Extra: 127}}, api.ErrTable},
		{286, 30, []api.Run{{Sym: 18, Extra: 127}, {Sym: 18, Extra: 107}, {Sym: 1}, {Sym: 18, Extra: 48}}, api.OK},
		{286, 30, []api.Run{{Sym: 18, Extra: 127}, {Sym: 18, Extra: 107}, {Sym: 1}, {Sym: 18, Extra: 49}}, api.ErrTable},
		// No length ahead of a 16, whatever its extra.
		{257, 1, []api.Run{{Sym: 16}}, api.ErrTable},
		{257, 1, []api.Run{{Sym: 16, Extra: 3}}, api.ErrTable},
		{257, 1, slices.Concat([]api.Run{{Sym: 16, Extra: 3}}, most, []api.Run{{Sym: 1}, {Sym: 0}}), api.ErrTable},
	} {
		if e := holdTable(t, told(x.l, x.f, allShorts, 0, x.runs)); e != x.e {
			t.Error(i, e)
		}
	}
	// Behind a first 16 nothing more is read, so it doesn't matter whether there is more.
	for at := range 8 {
		table := strings.Repeat("0", at) + head(true, 2) + told(257, 1, allShorts, 0, []api.Run{{Sym: 16, Extra: 2}})
		b := packed(table)
		if _, _, e := holdHead(t, b, at); e != api.ErrTable {
			t.Error(at, e)
		}
		if _, _, e := holdHead(t, b[:len(b)-1], at); e != api.ErrEnd {
			t.Error(at, e)
		}
	}
}

// P13.2: which first and second lengths may be.
func TestLengths(t *testing.T) {
	none := make([]uint8, 286)
	for i, x := range []struct {
		longs, fars []uint8
		e           api.Errno
	}{
		{ends(257), []uint8{0}, api.OK},
		{ends(257), []uint8{1}, api.OK},
		{ends(286), make([]uint8, 30), api.OK},
		{ends(257), []uint8{1, 1}, api.OK},
		{ends(257), []uint8{0, 1}, api.OK},
		{ends(257), []uint8{0, 0, 1, 0}, api.OK},
		{ends(257), append(make([]uint8, 29), 1), api.OK},
		{ends(257), []uint8{2}, api.ErrTable},
		{ends(257), []uint8{15}, api.ErrTable},
		{ends(257), []uint8{2, 2}, api.ErrTable},
		{ends(257), []uint8{1, 2}, api.ErrTable},
		{ends(257), []uint8{1, 1, 1}, api.ErrTable},
		{ends(257), []uint8{1, 1, 15}, api.ErrTable},
		{ends(257), []uint8{1, 2, 2}, api.OK},
		{ends(257), []uint8{1, 2, 3, 4, 5, 6, 7, 8, 9, 10, 11, 12, 13, 14, 15, 15}, api.OK},
		{ends(257), []uint8{1, 2, 3, 4, 5, 6, 7, 8, 9, 10, 11, 12, 13, 14, 15}, api.ErrTable},
		{with(none[:257], 256, 2), []uint8{1}, api.ErrTable},
		{with(none[:257], 256, 15), []uint8{1}, api.ErrTable},
		{none[:257], []uint8{1}, api.ErrTable},
		{none, []uint8{0}, api.ErrTable},
		{with(none, 0, 1), []uint8{1}, api.ErrTable},
		{with(none, 255, 1, 257, 1), []uint8{1}, api.ErrTable},
		{with(none, 0, 1, 285, 1), []uint8{1}, api.ErrTable},
		{with(none, 0, 1, 256, 1), []uint8{1}, api.OK},
		{with(none, 256, 1, 285, 1), []uint8{1}, api.OK},
		{with(none, 0, 1, 256, 1, 285, 1), []uint8{1}, api.ErrTable},
		{with(none, 0, 1, 256, 2), []uint8{1}, api.ErrTable},
		{with(none, 0, 1, 256, 2, 257, 2), []uint8{1}, api.OK},
		{with(none, 9, 1, 256, 15), []uint8{1}, api.ErrTable},
	} {
		for _, l := range [][]api.Run{single(slices.Concat(x.longs, x.fars)), new(chance(i + 133)).runs(slices.Concat(x.longs, x.fars))} {
			if e := holdTable(t, told(len(x.longs), len(x.fars), allShorts, 0, l)); e != x.e {
				t.Error(i, e)
			}
		}
	}
}

// P13.2: of heads with one fault, and of those that are well, each beginning tells what the words tell.
func TestBeginningsOfHeads(t *testing.T) {
	c := chance(134)
	for range 120 {
		s := &stream{}
		s.bits.WriteString(text(c.bytes(1, 256))[:c.below(8)])
		at := s.bits.Len()
		s.dynamic(&c, true, 3)
		bits := s.bits.String()
		if c.below(2) == 0 {
			bits = bits[:at] + c.spoil(bits[at:])
		}
		b := packed(bits)
		for i := range b {
			holdHead(t, b[:i], min(at, 8*i))
		}
		holdHead(t, b, at)
	}
}

// dyn is a dynamic block that is open, of lengths that no head may tell, too.
func dyn(longs, fars []uint8) open {
	return opened(open{kind: 2, longs: longs, fars: fars})
}

// P13.2: each symbol there is, with each extra, and each beginning of it.
func TestStepOfEachSymbol(t *testing.T) {
	long, far := codes(fixedBlock.longs), codes(fixedBlock.fars)
	hold := func(bits string, want api.Token, end bool, e api.Errno) {
		t.Helper()
		around(bits, func(b []byte, at int) {
			tok, isEnd, next, got := holdStep(t, fixedBlock, b, at)
			if tok != want || isEnd != end || got != e || e == api.OK && next != at+len(bits) {
				t.Fatal(bits, at, tok, isEnd, next, got)
			}
		})
	}
	for sym := range 256 {
		hold(long[sym], api.Token{Lit: byte(sym)}, false, api.OK)
	}
	hold(long[256], api.Token{}, true, api.OK)
	for i := range longLeast {
		for extra := range 1 << longExtra[i] {
			bits := long[257+i] + low(extra, longExtra[i])
			if i == 27 && extra == 31 {
				// Nothing is read behind it.
				hold(bits, api.Token{}, false, api.ErrSym)
				continue
			}
			hold(bits+far[2], api.Token{Long: longLeast[i] + extra, Dist: 3}, false, api.OK)
			hold(bits+far[30], api.Token{}, false, api.ErrSym)
			hold(bits+far[31], api.Token{}, false, api.ErrSym)
		}
	}
	hold(long[286], api.Token{}, false, api.ErrSym)
	hold(long[287], api.Token{}, false, api.ErrSym)
	for i := range farLeast {
		for _, extra := range []int{0, 1, 1<<farExtra[i] - 2, 1<<farExtra[i] - 1} {
			if extra >= 0 && extra < 1<<farExtra[i] {
				hold(long[285]+far[i]+low(extra, farExtra[i]), api.Token{Long: 258, Dist: farLeast[i] + extra}, false, api.OK)
			}
		}
	}
}

// P13.2: steps whose bits end, at each bit: ErrEnd, unless something else is wrong ahead of that.
func TestStepsThatEnd(t *testing.T) {
	long, far := codes(fixedBlock.longs), codes(fixedBlock.fars)
	for _, bits := range []string{long[0], long[200], long[256], long[257] + far[0], long[284] + "01011" + far[29] + low(1234, 13), long[269] + "10" + far[4] + "1"} {
		for n := range len(bits) {
			b := packed(strings.Repeat("1", -n&7) + bits[:n])
			if _, _, _, e := holdStep(t, fixedBlock, b, -n&7); e != api.ErrEnd {
				t.Fatal(bits, n, e)
			}
		}
	}
	for _, bits := range []string{long[286], long[284] + "11111", long[284] + "11110" + far[30]} {
		b := packed(strings.Repeat("1", -len(bits)&7) + bits)
		if _, _, _, e := holdStep(t, fixedBlock, b, -len(bits)&7); e != api.ErrSym {
			t.Fatal(bits, e)
		}
	}
}

// P13.2: steps of trees that no head tells, but that may be.
func TestStepOfAnyTrees(t *testing.T) {
	none, one := []uint8{}, []uint8{1}
	c := chance(135)
	wide := c.lengths(320, c.pick(320, 320), 15)
	for _, x := range []struct {
		k    open
		bits string
		tok  api.Token
		end  bool
		e    api.Errno
	}{
		{dyn(none, none), "", api.Token{}, false, api.ErrCode},
		{dyn(none, one), "0000", api.Token{}, false, api.ErrCode},
		{dyn(one, none), "0", api.Token{Lit: 0}, false, api.OK},
		{dyn(one, none), "1", api.Token{}, false, api.ErrCode},
		{dyn(one, none), "", api.Token{}, false, api.ErrEnd},
		{dyn(ends(257), none), "0", api.Token{}, true, api.OK},
		{dyn(ends(257), none), "1", api.Token{}, false, api.ErrCode},
		{dyn(with(make([]uint8, 258), 257, 1), none), "0", api.Token{}, false, api.ErrCode},
		{dyn(with(make([]uint8, 258), 257, 1), one), "0", api.Token{}, false, api.ErrEnd},
		{dyn(with(make([]uint8, 258), 257, 1), one), "00", api.Token{Long: 3, Dist: 1}, false, api.OK},
		{dyn(with(make([]uint8, 258), 257, 1), one), "01", api.Token{}, false, api.ErrCode},
		{dyn(with(make([]uint8, 266), 265, 1), one), "010", api.Token{Long: 12, Dist: 1}, false, api.OK},
		{dyn(with(make([]uint8, 320), 319, 1), one), "0", api.Token{}, false, api.ErrSym},
		{dyn(with(make([]uint8, 288), 286, 1), one), "0", api.Token{}, false, api.ErrSym},
		{dyn(with(make([]uint8, 288), 257, 1), with(make([]uint8, 32), 30, 1)), "00", api.Token{}, false, api.ErrSym},
		{dyn(with(make([]uint8, 288), 257, 1), with(make([]uint8, 320), 319, 1)), "00", api.Token{}, false, api.ErrSym},
		{dyn(with(make([]uint8, 288), 285, 1), with(make([]uint8, 320), 29, 1)), "001111111111111", api.Token{Long: 258, Dist: 32768}, false, api.OK},
	} {
		for _, kind := range []int{1, 2} {
			x.k.kind = kind
			at := -len(x.bits) & 7
			b := packed(strings.Repeat("1", at) + x.bits)
			tok, end, next, e := holdStep(t, x.k, b, at)
			if tok != x.tok || end != x.end || e != x.e || e == api.OK && next != 8*len(b) {
				t.Error(x.k.block(), x.bits, tok, end, next, e)
			}
		}
	}
	for _, k := range []open{dyn(wide, wide), dyn(wide, fixedBlock.fars), dyn(fixedBlock.longs, wide)} {
		for range 3000 {
			holdStep(t, k, c.bytes(c.below(12), 256), 0)
		}
	}
}

// P13.2: steps of stored blocks: a byte at whatever place, and the end without one.
func TestStepOfStored(t *testing.T) {
	c := chance(136)
	for _, left := range []int{0, 1, 2, 65534, 65535} {
		k := open{kind: 0, left: left, last: left%2 == 0}
		for n := range 5 {
			b := c.bytes(n, 256)
			for at := range 8*n + 1 {
				tok, end, next, e := holdStep(t, k, b, at)
				switch {
				case left == 0:
					if tok != (api.Token{}) || !end || next != at || e != api.OK {
						t.Fatal(left, n, at, tok, end, next, e)
					}
				case at+8 > 8*n:
					if e != api.ErrEnd {
						t.Fatal(left, n, at, e)
					}
				default:
					if end || next != at+8 || e != api.OK || text([]byte{tok.Lit}) != text(b)[at:at+8] {
						t.Fatal(left, n, at, tok, end, next, e)
					}
				}
			}
		}
	}
}

// walk goes through bytes by Head and Step, each held against the words, and tells what they told, and where it ended.
func walk(t *testing.T, b []byte, at int) (told []byte, next int) {
	t.Helper()
	s := &stream{}
	for {
		k, next, e := holdHead(t, b, at)
		if e != api.OK {
			t.Fatal(e)
		}
		at = next
		for {
			tok, end, next, e := holdStep(t, k, b, at)
			if e != api.OK {
				t.Fatal(e)
			}
			at = next
			if end {
				break
			}
			s.play(tok)
			if k.kind == 0 {
				k.left--
			}
		}
		if k.last {
			return s.tell, at
		}
	}
}

// P13.2: streams of all kinds of blocks, step by step.
func TestWalk(t *testing.T) {
	c := chance(137)
	for range 60 {
		s := c.stream()
		b := append(packed(s.bits.String()), c.bytes(2, 256)...)
		told, next := walk(t, b, 0)
		if !bytes.Equal(told, s.tell) || next != s.bits.Len() {
			t.Fatal(len(told), len(s.tell), next, s.bits.Len())
		}
	}
}

// P13.3, P13.5: streams tell just what they were made of, from wherever they begin, whatever stands behind them, within each limit that is enough, and within no other one.
func TestStreams(t *testing.T) {
	c := chance(138)
	for range 700 {
		s := &stream{}
		s.bits.WriteString(text(c.bytes(4, 256))[:c.below(20)])
		at := s.bits.Len()
		s.some(&c, 1+c.below(5), 1+c.below(80))
		b := packed(s.bits.String() + text(c.bytes(c.below(3), 256)))
		for _, most := range []int{len(s.tell), len(s.tell) + 1, 1 << 17} {
			told, next, e := holdTell(t, b, at, most)
			if e != api.OK || next != s.bits.Len() || !bytes.Equal(told, s.tell) {
				t.Fatal(len(told), len(s.tell), next, s.bits.Len(), e)
			}
		}
		for _, most := range []int{0, len(s.tell) / 2, len(s.tell) - 1} {
			if most >= 0 && most < len(s.tell) {
				if _, _, e := holdTell(t, b, at, most); e != api.ErrLimit {
					t.Fatal(most, e)
				}
			}
		}
	}
}

// P13.3: streams with faults, from each kind of place on, and what has no form at all.
func TestSpoiled(t *testing.T) {
	c := chance(139)
	seen := map[api.Errno]int{}
	for range 6000 {
		b := packed(c.spoil(c.stream().bits.String()))
		switch c.below(9) {
		case 0:
			b = c.bytes(c.below(200), 256)
		case 1:
			b = packed(c.loose())
		}
		most := []int{0, 20, 100, 1 << 17}[c.below(4)]
		_, _, e := holdTell(t, b, 0, most)
		seen[e]++
		holdTell(t, b, c.below(min(8*len(b), 30)+1), most)
	}
	for _, e := range []api.Errno{api.OK, api.ErrEnd, api.ErrCode, api.ErrDist, api.ErrSym, api.ErrKind, api.ErrStored, api.ErrTable, api.ErrLimit} {
		if seen[e] < 30 {
			t.Error("error", e, "was met", seen[e], "times")
		}
	}
}

// P13.3: copies at the edges of what was told, and of the limit; what is farther is told ahead of what is more.
func TestFarAndMore(t *testing.T) {
	long, far := codes(fixedBlock.longs), codes(fixedBlock.fars)
	copied := func(n, dist int) string {
		bits, _ := coded(api.Token{Long: n, Dist: dist}, long, far)
		return bits
	}
	for _, n := range []int{0, 1, 2, 3, 4, 258, 259, 32767, 32768, 32769} {
		ahead := stored(0, false, bytes.Repeat([]byte("abcdefg"), n/7+1)[:n]) + head(true, 1)
		for _, dist := range []int{1, 2, 3, 4, 258, 32768} {
			for _, more := range []int{3, 258} {
				b := packed(ahead + copied(more, dist) + long[256])
				for _, most := range []int{n, n + more - 1, n + more, n + more + 1} {
					_, _, e := holdTell(t, b, 0, most)
					want := api.OK
					if dist > n {
						want = api.ErrDist
					} else if n+more > most {
						want = api.ErrLimit
					}
					if e != want {
						t.Fatal(n, dist, more, most, e)
					}
				}
			}
		}
	}
	// Nothing is read behind either of them.
	for _, x := range []struct {
		bits string
		most int
		e    api.Errno
	}{
		{head(true, 1) + copied(3, 1), 9, api.ErrDist},
		{head(true, 1) + long['a'] + copied(3, 2), 9, api.ErrDist},
		{head(true, 1) + long['a'] + copied(3, 2), 2, api.ErrDist},
		{head(true, 1) + long['a'] + copied(3, 1), 3, api.ErrLimit},
		{head(true, 1) + long['a'] + copied(3, 1), 4, api.ErrEnd},
		{head(true, 1) + long['a'], 0, api.ErrLimit},
		{head(true, 1) + long['a'] + long[286], 1, api.ErrSym},
		{head(true, 1) + long['a'] + long['a'] + long[286], 1, api.ErrLimit},
		{stored(0, true, []byte("abc")), 2, api.ErrLimit},
		{stored(0, true, []byte("abc"))[:8*7], 2, api.ErrEnd},
		{stored(0, false, []byte("abc")) + head(true, 3), 3, api.ErrKind},
		{stored(0, false, []byte("abc")) + head(true, 3), 2, api.ErrLimit},
	} {
		at := -len(x.bits) & 7
		if x.bits[1:3] == "00" {
			at = 0
		}
		if _, _, e := holdTell(t, packed(strings.Repeat("1", at)+x.bits), at, x.most); e != x.e {
			t.Error(x.bits, x.most, e)
		}
	}
}

// P13.3: as much as may be told, and as much as may be handed in.
func TestMost(t *testing.T) {
	long, far := codes(fixedBlock.longs), codes(fixedBlock.fars)
	copied, _ := coded(api.Token{Long: 258, Dist: 1}, long, far)
	n := (1<<17 - 1) / 258
	rest := 1<<17 - 1 - n*258
	bits := head(true, 1) + long['x'] + strings.Repeat(copied, n) + strings.Repeat(long['y'], rest)
	want := strings.Repeat("x", 1+n*258) + strings.Repeat("y", rest)
	b := packed(bits + long[256])
	if told, next, e := plain.Inflate(b, 0, 1<<17); e != api.OK || string(told) != want || next != len(bits)+7 {
		t.Error(len(told), next, e)
	}
	if told, e := plain.Prefix(b, 1<<17); e != api.OK || string(told) != want {
		t.Error(len(told), e)
	}
	if _, _, e := plain.Inflate(b, 0, 1<<17-1); e != api.ErrLimit {
		t.Error(e)
	}
	for _, more := range []string{long['z'], copied} {
		b := packed(bits + more + long[256])
		if told, next, e := plain.Inflate(b, 0, 1<<17); e != api.ErrLimit || told != nil || next != 0 {
			t.Error(len(told), next, e)
		}
		if told, e := plain.Prefix(b, 1<<17); e != api.ErrLimit || told != nil {
			t.Error(len(told), e)
		}
	}
	// Blocks that tell nothing, up to the last byte.
	empty := strings.Repeat(head(false, 1)+long[256], (1<<20-10)/10) + head(true, 1) + long[256]
	b = packed(empty + strings.Repeat("1", 1<<20-len(empty)))
	if told, next, e := plain.Inflate(b, 0, 0); len(b) != 1<<17 || e != api.OK || len(told) > 0 || next != len(empty) {
		t.Error(len(b), len(told), next, e)
	}
	if told, e := plain.Prefix(b[:len(b)-2], 0); e != api.OK || len(told) > 0 {
		t.Error(len(told), e)
	}
}

// P13.3, P13.5: each beginning of a stream's bytes tells a beginning of what it tells, and a longer one no less; each whole step that it has is told.
func TestBeginnings(t *testing.T) {
	c := chance(140)
	for range 100 {
		s := c.stream()
		b := append(packed(s.bits.String()), c.bytes(1+c.below(2), 256)...)
		before := 0
		for i := range len(b) + 1 {
			told, e := plain.Prefix(b[:i], len(s.tell))
			if e != api.OK || len(told) < before || !bytes.HasPrefix(s.tell, told) {
				t.Fatal(i, len(told), before, e)
			}
			before = len(told)
			_, _, e = plain.Inflate(b[:i], 0, len(s.tell))
			if whole := 8*i >= s.bits.Len(); whole != (e == api.OK) || !whole && e != api.ErrEnd || whole && before != len(s.tell) {
				t.Fatal(i, len(b), s.bits.Len(), e)
			}
			if i%7 == 0 {
				holdTell(t, b[:i], 0, len(s.tell))
			}
		}
	}
}

// P13.5: of bytes that tell nothing for a fault, each beginning tells a beginning of what stands ahead of the fault, or the same fault.
func TestBeginningsOfFaults(t *testing.T) {
	c := chance(141)
	for range 150 {
		b := packed(c.spoil(c.stream().bits.String()))
		told, _, e := tellOf(text(b), 0, 1<<17)
		for i := range b {
			part, partErr := plain.Prefix(b[:i], 1<<17)
			if partErr != api.OK && partErr != e || !bytes.HasPrefix(told, part) {
				t.Fatal(i, len(part), len(told), partErr, e)
			}
		}
	}
}

// sorts are bytes of all sorts.
func sorts() [][]byte {
	c := chance(142)
	all := [][]byte{nil, {0}, {255}, []byte("abcabcabcabc"), make([]byte, 300), bytes.Repeat([]byte("hello, "), 900), c.bytes(400, 256), c.bytes(3000, 4), c.bytes(3000, 256)}
	for range 40 {
		all = append(all, c.bytes(c.below(300), 1+c.below(256)), c.stream().tell)
	}
	return all
}

// styles are styles of all sorts.
func styles() []api.Style {
	return []api.Style{{Size: 1, Chain: 0, Most: 1}, {Size: 32, Chain: 1, Most: 20}, {Size: 300, Chain: 9, Most: 100, Lazy: true}, {Size: 1 << 15, Chain: 256, Most: 65535, Lazy: true}, {Size: 1 << 15, Chain: 8, Most: 700}}
}

// P13.5, V1: what goes out of bytes that are pressed tells just these, and ends where it ends.
func TestPressed(t *testing.T) {
	c := chance(143)
	for _, want := range sorts() {
		for _, s := range styles() {
			b, e := press.All(s, want)
			if e != api.OK {
				t.Fatal(e)
			}
			for _, behind := range [][]byte{nil, {0}, c.bytes(3, 256)} {
				told, next, e := plain.Inflate(slices.Concat(b, behind), 0, len(want))
				if e != api.OK || !bytes.Equal(told, want) || (next+7)/8 != len(b) {
					t.Fatal(s, len(want), len(told), next, len(b), e)
				}
				if strings.Contains(text(b)[next:], "1") {
					t.Fatal("something stands behind the end")
				}
				told, e = plain.Prefix(slices.Concat(b, behind), len(want))
				if e != api.OK || !bytes.Equal(told, want) {
					t.Fatal(len(told), e)
				}
			}
			if len(want) > 0 {
				if _, _, e := plain.Inflate(b, 0, len(want)-1); e != api.ErrLimit {
					t.Fatal(e)
				}
			}
		}
	}
	// At most as many bytes as may be handed in go out of these, in a style that stores little.
	want := bytes.Repeat([]byte("hello, hello, "), 1<<17/14)
	b, e := press.All(api.Style{Size: 4096, Chain: 9, Most: 65535}, want)
	if e != api.OK {
		t.Fatal(e)
	}
	if told, _, e := plain.Inflate(b, 0, 1<<17); e != api.OK || !bytes.Equal(told, want) {
		t.Error(len(told), e)
	}
}

// P13.5: behind a flush, all that was written is told.
func TestFlushed(t *testing.T) {
	c := chance(144)
	for range 120 {
		p, _ := press.New(styles()[c.below(5)])
		var out, all []byte
		for range 1 + c.below(6) {
			b := c.bytes(c.below(200), 1+c.below(256))
			next, gone, _ := press.Write(p, b)
			next, more, e := press.Flush(next)
			if e != api.OK {
				t.Fatal(e)
			}
			p, out, all = next, slices.Concat(out, gone, more), append(all, b...)
			told, e := plain.Prefix(out, 1<<17)
			if e != api.OK || !bytes.Equal(told, all) {
				t.Fatal(len(told), len(all), e)
			}
			if _, _, e := plain.Inflate(out, 0, 1<<17); e != api.ErrEnd {
				t.Fatal(e)
			}
		}
		_, gone, _ := press.Finish(p)
		told, next, e := plain.Inflate(append(out, gone...), 0, len(all))
		if e != api.OK || !bytes.Equal(told, all) || (next+7)/8 != len(out)+len(gone) {
			t.Fatal(len(told), len(all), e)
		}
	}
}

// P13.5: what another one writes is read, and what is told is told by another reader, too.
func TestOthers(t *testing.T) {
	for _, want := range sorts() {
		for level := flate.HuffmanOnly; level <= flate.BestCompression; level++ {
			var out bytes.Buffer
			w, _ := flate.NewWriter(&out, level)
			w.Write(want[:len(want)/2])
			w.Flush()
			w.Write(want[len(want)/2:])
			w.Close()
			told, next, e := plain.Inflate(out.Bytes(), 0, len(want))
			if e != api.OK || !bytes.Equal(told, want) || (next+7)/8 != out.Len() {
				t.Fatal(level, len(want), len(told), next, e)
			}
		}
	}
	c := chance(145)
	for range 3000 {
		bits := c.stream().bits.String()
		if c.below(2) == 0 {
			bits = c.spoil(bits)
		}
		told, next, e := plain.Inflate(packed(bits), 0, 1<<17)
		if e != api.OK {
			continue
		}
		in := bytes.NewReader(packed(bits))
		other, err := io.ReadAll(flate.NewReader(in))
		if err != nil || !bytes.Equal(told, other) || len(packed(bits))-in.Len() != (next+7)/8 {
			t.Fatal(bits, len(told), len(other), next, err)
		}
	}
}

// keep is all that the calls answer of bytes, told in one text each, and the memory of the answers.
func keep(k api.Block, b []byte, at, most int) (answers []string, lists [][]byte, syms [][]int) {
	name := func(numbers ...int) string {
		var t strings.Builder
		for _, n := range numbers {
			t.WriteString(low(n, 64))
		}
		return t.String()
	}
	x, next, e := plain.Head(b, at)
	last := 0
	if x.Last {
		last = 1
	}
	answers = append(answers, name(int(x.Kind), last, x.Left, next, int(e))+name(x.Longs.Count[:]...)+name(x.Longs.Syms...)+name(x.Fars.Count[:]...)+name(x.Fars.Syms...))
	tok, end, next, e := plain.Step(k, b, at)
	if end {
		last += 2
	}
	answers = append(answers, name(int(tok.Lit), tok.Long, tok.Dist, last, next, int(e)))
	told, next, e := plain.Inflate(b, at, most)
	answers = append(answers, name(next, int(e))+text(told))
	begin, e := plain.Prefix(b, most)
	answers = append(answers, name(int(e))+text(begin))
	return answers, [][]byte{told, begin}, [][]int{x.Longs.Syms, x.Fars.Syms}
}

// P13.4: neither what is handed in nor the memory behind it is written to; what was answered is its caller's: what becomes of it shows nowhere.
func TestMemory(t *testing.T) {
	c := chance(146)
	kinds := []open{fixedBlock, {kind: 0, left: 9}, dyn(c.lengths(286, append(c.pick(99, 250), 256, 270), 15), c.lengths(30, c.pick(9, 30), 15))}
	for i := range 300 {
		bits := packed(c.stream().bits.String())
		row := slices.Concat(bits, c.bytes(40, 256))
		b := row[:len(bits)]
		k := kinds[i%3].block()
		before, rows := slices.Clone(row), [][]int{slices.Clone(k.Longs.Syms), slices.Clone(k.Fars.Syms)}
		answers, lists, syms := keep(k, b, 0, 1<<17)
		for j, list := range lists {
			list = list[:cap(list)]
			for n := range list {
				list[n] = byte(100 + j)
			}
		}
		for j, list := range syms {
			for n := range list[:cap(list)] {
				list[:cap(list)][n] = 100 + j
			}
		}
		for j, list := range syms {
			if slices.ContainsFunc(list, func(n int) bool { return n != 100+j }) {
				t.Fatal("two lists of an answer share memory")
			}
		}
		plain.Check(k)
		again, _, _ := keep(k, b, 0, 1<<17)
		if !slices.Equal(answers, again) {
			t.Fatal("a second call answers otherwise")
		}
		if !bytes.Equal(row, before) || !slices.Equal(k.Longs.Syms, rows[0]) || !slices.Equal(k.Fars.Syms, rows[1]) {
			t.Fatal("what was handed in is not as it was")
		}
	}
}

// P13.4: what becomes of bytes that were handed in shows in no answer.
func TestAnswersAreTheirOwn(t *testing.T) {
	b := packed(stored(0, true, []byte("abcdef")))
	told, _, e := plain.Inflate(b, 0, 9)
	begin, f := plain.Prefix(b, 9)
	for i := range b {
		b[i] = 77
	}
	if e != api.OK || f != api.OK || string(told) != "abcdef" || string(begin) != "abcdef" {
		t.Error(string(told), string(begin), e, f)
	}
	told[0] = 'x'
	if string(begin) != "abcdef" {
		t.Error("two answers share memory")
	}
}

// P1: whatever is handed in, each call ends, none panics, and an error has nothing beside it.
func TestWhatever(t *testing.T) {
	c := chance(147)
	trees := slices.Concat(mayTrees(), wrongTrees())
	numbers := append(wild, 0, 1, 2, 3, 7, 8, 9, 40, 65535, 65536, 1<<17, 1<<17+1)
	pick := func() int { return numbers[c.below(len(numbers))] }
	for range 30000 {
		k := api.Block{Kind: uint8(c.below(5)), Last: c.below(2) == 0, Longs: trees[c.below(len(trees))], Fars: trees[c.below(len(trees))]}
		if c.below(2) == 0 {
			k.Left = pick()
		}
		b := c.bytes(c.below(40), 256)
		if e := plain.Check(k); e != api.OK && e != api.ErrBad {
			t.Fatal(k, e)
		}
		at, most := pick(), pick()
		_, step, _, _ := only(t, k, b, at, most)
		if e := plain.Check(k); at >= 0 && at <= 8*len(b) && (e == api.ErrBad) != (step == api.ErrBad) {
			t.Fatal(k, at, step)
		}
	}
}

// The chapter's examples.
func TestExamples(t *testing.T) {
	for i, x := range []struct {
		b    string
		most int
		told string
		next int
		e    api.Errno
	}{
		{"\x4b\x04\x00", 9, "a", 18, api.OK}, {"\x03\x00", 0, "", 10, api.OK},
		{"\x01\x03\x00\xfc\xffabc", 3, "abc", 64, api.OK}, {"\x01\x03\x00\xfc\xffabc", 2, "", 0, api.ErrLimit},
		{"\x4b\x04", 9, "", 0, api.ErrEnd}, {"\x07", 9, "", 0, api.ErrKind}, {"\x01\x03\x00\xfc\xfeabc", 9, "", 0, api.ErrStored}, {"\x05\xff\xff", 9, "", 0, api.ErrTable},
		{"\x03\x02\x00", 9, "", 0, api.ErrDist},
	} {
		told, next, e := plain.Inflate([]byte(x.b), 0, x.most)
		if string(told) != x.told || next != x.next || e != x.e {
			t.Error(i, string(told), next, e)
		}
	}
	if told, e := plain.Prefix([]byte("\x4b\x04"), 9); string(told) != "a" || e != api.OK {
		t.Error(string(told), e)
	}
}
