package swell_test

import (
	"bytes"
	"compress/flate"
	"io"
	"slices"
	"strings"
	"testing"

	"bellows/api"
	"bellows/block"
	"bellows/plain"
	"bellows/press"
	"bellows/swell"
)

// The chapter's examples.
func TestExamples(t *testing.T) {
	s, e := swell.New(9)
	if e != api.OK {
		t.Fatal(e)
	}
	over, told, used, e := swell.Feed(s, []byte("\x4b\x04\x00"))
	if e != api.OK || string(told) != "a" || used != 3 || !over.Over {
		t.Error(brief(over), told, used, e)
	}
	half, told, used, e := swell.Feed(s, []byte("\x4b\x04"))
	if e != api.OK || string(told) != "a" || used != 2 || half.Over || !bytes.Equal(half.In, []byte{4}) || half.At != 3 {
		t.Error(brief(half), told, used, e)
	}
	whole, told, used, e := swell.Feed(half, []byte("\x00\xff"))
	if e != api.OK || len(told) != 0 || used != 1 || !whole.Over || !swell.Same(whole, over) {
		t.Error(brief(whole), told, used, e)
	}
	none, e := swell.New(0)
	if e != api.OK {
		t.Fatal(e)
	}
	for i, x := range []struct {
		s api.Swell
		b string
		e api.Errno
	}{{none, "\x4b\x04\x00", api.ErrLimit}, {s, "\x07", api.ErrKind}, {over, "", api.ErrNone}, {over, "\x4b", api.ErrNone}} {
		if next, told, used, e := swell.Feed(x.s, []byte(x.b)); e != x.e || told != nil || used != 0 || !same(next, api.Swell{}) {
			t.Error(i, e)
		}
	}
}

// P14.1: New, at the edges.
func TestNew(t *testing.T) {
	for _, most := range []int{0, 1, 9, 32767, 32768, 32769, 1<<17 - 1, 1 << 17} {
		begun(t, most)
	}
	for _, most := range append(wild, 1<<17+1, 1<<17+2) {
		if s, e := swell.New(most); e != api.ErrArg || !same(s, api.Swell{}) {
			t.Error(most, brief(s), e)
		}
	}
}

// made is a stream that told n bytes.
func made(most, n int) api.Swell {
	return api.Swell{Most: most, Made: n, Win: api.Window{Size: 32768, Bytes: make([]byte, min(n, 32768))}}
}

// opens is a stream with an open block.
func opens(s api.Swell, k api.Block) api.Swell {
	s.Open, s.Block = true, k
	return s
}

// waits is a stream with bytes that wait.
func waits(s api.Swell, n, at int) api.Swell {
	s.In, s.At = make([]byte, n), at
	return s
}

// ends is a stream that is over.
func ends(s api.Swell) api.Swell {
	s.Over = true
	return s
}

// empties are trees that have nothing.
func empties() []api.Tree {
	return []api.Tree{{}, {Syms: []int{}}}
}

// mays are streams that may be, at the edges.
func mays() []api.Swell {
	var l []api.Swell
	for _, x := range [][2]int{{0, 0}, {1, 0}, {1, 1}, {9, 3}, {32767, 32767}, {32768, 32768}, {32769, 32769}, {1 << 17, 32769}, {1 << 17, 1<<17 - 1}, {1 << 17, 1 << 17}} {
		l = append(l, made(x[0], x[1]), ends(made(x[0], x[1])))
	}
	for _, n := range []int{1, 2, 599, 600} {
		for at := range 8 {
			l = append(l, waits(made(9, 3), n, at), opens(waits(made(9, 3), n, at), fixed(true)), opens(waits(made(9, 3), n, at), api.Block{Left: 5}))
		}
	}
	for _, left := range []int{0, 1, 65535} {
		l = append(l, opens(made(9, 9), api.Block{Left: left}), opens(made(9, 9), api.Block{Left: left, Last: true}))
	}
	one := grown([]uint8{1})
	for _, longs := range append(empties(), one, fixed(false).Longs) {
		for _, fars := range append(empties(), one) {
			l = append(l, opens(made(9, 9), api.Block{Kind: 1, Longs: longs, Fars: fars}), opens(made(9, 9), api.Block{Kind: 2, Last: true, Longs: longs, Fars: fars}))
		}
	}
	// Lists that are empty, and lists that are nil, are the same.
	for _, x := range empties() {
		s := made(9, 0)
		s.In, s.Win.Bytes, s.Block.Longs, s.Block.Fars = []byte{}, []byte{}, x, x
		l = append(l, s, ends(s))
	}
	return l
}

// wrongs are streams that may not be, by one thing each.
func wrongs() []api.Swell {
	var l []api.Swell
	change := func(s api.Swell, how func(s *api.Swell)) {
		how(&s)
		l = append(l, s)
	}
	for _, x := range append(wild, 1<<17+1, 1<<17+2) {
		change(made(9, 0), func(s *api.Swell) { s.Most = x })
		change(made(1<<17, 40000), func(s *api.Swell) { s.Made = x })
	}
	for _, x := range []int{-1, 8, 9} {
		change(made(9, 9), func(s *api.Swell) { s.Most = x })
	}
	l = l[:len(l)-1]
	for _, x := range []int{-1, 0, 1, 2, 4, 9, 10, 11} {
		change(made(9, 3), func(s *api.Swell) { s.Made = x })
	}
	for _, x := range append(wild, 8, 9, 15, 16) {
		l = append(l, waits(made(9, 3), 1, x), waits(made(9, 3), 600, x), waits(made(9, 3), 0, x), opens(waits(made(9, 3), 5, x), fixed(true)))
	}
	for x := range 7 {
		l = append(l, waits(made(9, 3), 0, x+1), opens(waits(made(9, 3), 0, x+1), fixed(true)), ends(waits(made(9, 3), 0, x+1)))
	}
	for _, n := range []int{601, 602, 1200, 1 << 17} {
		l = append(l, waits(made(9, 3), n, 0), waits(made(9, 3), n, 7), opens(waits(made(9, 3), n, 1), fixed(true)))
	}
	for _, x := range append(wild, 0, 1, 3, 9, 32767, 32769, 65536) {
		change(made(9, 3), func(s *api.Swell) { s.Win.Size = x })
		change(made(9, 0), func(s *api.Swell) { s.Win.Size = x })
	}
	for _, x := range []int{0, 1, 2, 4, 32768, 32769} {
		change(made(9, 3), func(s *api.Swell) { s.Win.Bytes = make([]byte, x) })
	}
	for _, x := range []int{0, 32767, 32769, 32770, 40000} {
		change(made(1<<17, 40000), func(s *api.Swell) { s.Win.Bytes = make([]byte, x) })
		change(made(1<<17, 32770), func(s *api.Swell) { s.Win.Bytes = make([]byte, x) })
	}
	return append(append(l, wrongBlocks()...), wrongEnds()...)
}

// wrongBlocks are streams whose block may not be, or is one though none is open.
func wrongBlocks() []api.Swell {
	var l []api.Swell
	one := grown([]uint8{1})
	odd := fixed(true)
	odd.Longs.Syms[0]++
	for _, k := range []api.Block{{Kind: 3}, {Left: -1}, {Left: 65536}, {Longs: one}, {Fars: one}, {Kind: 1, Left: 1}, {Kind: 2, Left: -1}, {Kind: 255}, odd, {Kind: 2, Longs: api.Tree{Syms: []int{0}}}, {Kind: 2, Fars: api.Tree{Count: [16]int{1: 2}, Syms: []int{0}}}} {
		l = append(l, opens(made(9, 3), k), opens(waits(made(9, 3), 2, 3), k))
	}
	for _, k := range []api.Block{{Kind: 1}, {Kind: 2}, {Kind: 3}, {Last: true}, {Left: 1}, {Left: -1}, {Longs: one}, {Fars: one}, {Longs: api.Tree{Count: [16]int{3: 1}}}, {Fars: api.Tree{Count: [16]int{0: 1}}}, fixed(false), fixed(true)} {
		s := made(9, 3)
		s.Block = k
		l = append(l, s, waits(s, 2, 3), ends(s))
	}
	return l
}

// wrongEnds are streams that are over, but that something is left of.
func wrongEnds() []api.Swell {
	s := ends(made(9, 3))
	return []api.Swell{waits(s, 1, 0), waits(s, 1, 3), waits(s, 600, 0), opens(s, api.Block{}), opens(s, fixed(true)), opens(waits(s, 1, 0), fixed(true))}
}

// P14.1, P14.2: streams that may be, and those that may not.
func TestCheck(t *testing.T) {
	for i, s := range mays() {
		if e := swell.Check(s); e != api.OK {
			t.Error(i, brief(s), e)
		}
		_, _, _, e := swell.Feed(s, nil)
		if e == api.ErrBad || (e == api.ErrNone) != s.Over {
			t.Error(i, brief(s), e)
		}
	}
	more := make([]byte, 1<<17+1)
	for i, s := range wrongs() {
		if e := swell.Check(s); e != api.ErrBad {
			t.Error(i, brief(s), e)
		}
		for _, b := range [][]byte{nil, {}, {7}, more} {
			if next, told, used, e := swell.Feed(s, b); e != api.ErrBad || told != nil || used != 0 || !same(next, api.Swell{}) {
				t.Error(i, brief(s), e)
			}
		}
	}
}

// P14.2: of several errors the one that is named first is told.
func TestOrderOfErrors(t *testing.T) {
	full, more := bytes.Repeat([]byte{7}, 1<<17), bytes.Repeat([]byte{7}, 1<<17+1)
	for _, s := range []api.Swell{ends(made(0, 0)), ends(made(9, 3)), ends(made(1<<17, 1<<17))} {
		for _, b := range [][]byte{nil, {7}, full, more} {
			if _, _, _, e := swell.Feed(s, b); e != api.ErrNone {
				t.Error(len(b), e)
			}
		}
	}
	for _, s := range []api.Swell{made(0, 0), made(9, 3), waits(made(9, 3), 600, 0), opens(made(9, 3), fixed(true)), opens(made(9, 3), api.Block{Left: 9})} {
		if next, told, used, e := swell.Feed(s, more); e != api.ErrMany || told != nil || used != 0 || !same(next, api.Swell{}) {
			t.Error(brief(s), e)
		}
		if _, _, _, e := swell.Feed(s, full); e == api.ErrMany {
			t.Error(brief(s), e)
		}
	}
	// A copy that reaches too far, where there is no room for it, either.
	far, _ := block.Write(api.Pen{}, api.Fixed, nil, []api.Token{{Lit: 'a'}, {Dist: 2, Long: 9}}, true)
	for most := range 12 {
		want := api.ErrDist
		if most == 0 {
			want = api.ErrLimit
		}
		if e := begun(t, most).feed(t, far.Bytes); e != want {
			t.Error(most, e)
		}
	}
}

// P14.2: each error of a step, as soon as its bits have come, and not ahead of that.
func TestErrors(t *testing.T) {
	wrong := api.Pen{}
	wrong, _ = block.Write(wrong, api.Fixed, nil, []api.Token{{Lit: 'a'}}, false)
	ahead := text(wrong.Bytes)[:wrong.Bits]
	for i, x := range []struct {
		bits string
		e    api.Errno
	}{
		{"111", api.ErrKind}, {"011", api.ErrKind},
		{"100" + strings.Repeat("0", -(3+len(ahead))&7) + low(3, 16) + low(65533, 16), api.ErrStored},
		{"101" + "01111" + "00000" + "0000", api.ErrTable},
		{"110" + "1100011" + "0", api.ErrSym},
		{"110" + "11000111" + "", api.ErrSym},
		{"110" + "0000001" + "11110", api.ErrSym},
		{"110" + "0000001" + "00001", api.ErrDist},
		// End alone has a code, a nought.
		{"101" + low(0, 5) + low(0, 5) + low(14, 4) + strings.Repeat("000", 2) + low(1, 3) + strings.Repeat("000", 14) + low(1, 3) + "1" + low(127, 7) + "1" + low(107, 7) + "0" + "0" + "1", api.ErrCode},
	} {
		b := packed(ahead + x.bits)
		for _, pieces := range [][][]byte{{b}, single(b), {b[:len(b)-1], b[len(b)-1:]}} {
			p := begun(t, 9)
			if e := p.feedAll(t, pieces[:len(pieces)-1]); e != api.OK && len(pieces) > 1 {
				t.Error(i, len(pieces), e)
			}
			if e := p.feed(t, pieces[len(pieces)-1]); e != x.e {
				t.Error(i, len(pieces), e)
			}
		}
	}
}

// P14.2: all there is of two bytes, at once, byte by byte, and behind one another.
func TestAllOfTwoBytes(t *testing.T) {
	for i := range 1 << 16 {
		b := []byte{byte(i), byte(i >> 8)}
		if i%4 == 0 {
			begun(t, i%7).feed(t, b)
		}
		begun(t, i%7).feedAll(t, single(b))
	}
}

// P14.2, P14.4: short streams, cut at each two places.
func TestAllCuts(t *testing.T) {
	c := chance(148)
	for range 12 {
		s := c.blocks(1+c.below(3), 12, 0)
		b := append(s.p.Bytes, c.bytes(2, 256)...)
		for i := range len(b) + 1 {
			for j := i; j <= len(b); j += 1 + len(b)/30 {
				p := begun(t, len(s.told))
				if e := p.feedAll(t, [][]byte{b[:i], b[i:j], b[j:]}); e != api.OK || !bytes.Equal(p.told, s.told) || p.used != len(s.p.Bytes) || !p.s.Over {
					t.Fatal(i, j, brief(p.s), p.used, e)
				}
			}
		}
	}
}

// P14.2, P14.4: streams in pieces.
func TestPieces(t *testing.T) {
	c := chance(149)
	for range 500 {
		s := c.blocks(1+c.below(5), 1+c.below(80), 0)
		b := append(s.p.Bytes, c.bytes(c.below(3), 256)...)
		p := begun(t, len(s.told)+c.below(3))
		if e := p.feedAll(t, c.cut(b, 1+c.below(60))); e != api.OK || !p.s.Over || p.used != len(s.p.Bytes) || !bytes.Equal(p.told, s.told) {
			t.Fatal(brief(p.s), p.used, len(b), e)
		}
	}
}

// related holds what pieces tell against the relation.
func related(t *testing.T, b []byte, most int, pieces [][]byte) {
	t.Helper()
	p := begun(t, most)
	e := p.feedAll(t, pieces)
	want, next, wantErr := plain.Inflate(b, 0, most)
	if wantErr == api.ErrEnd {
		begin, beginErr := plain.Prefix(b, most)
		if e != beginErr || p.s.Over || !bytes.Equal(p.told, begin) || p.used != len(b) {
			t.Fatalf("%x: %q, error %d, not %q, error %d", b, p.told, e, begin, beginErr)
		}
		return
	}
	if e != wantErr || e == api.OK && (!p.s.Over || p.used != (next+7)/8 || !bytes.Equal(p.told, want)) {
		t.Fatalf("%x: %q, error %d, not %q, error %d", b, p.told, e, want, wantErr)
	}
}

// P14.4, V3: streams, with faults and without, and beginnings of them, in whatever pieces, tell what the relation tells.
func TestRelation(t *testing.T) {
	c := chance(150)
	for range 1500 {
		s := c.blocks(1+c.below(4), 1+c.below(40), 9*c.below(2))
		b, most := s.p.Bytes, len(s.told)+c.below(2)
		switch c.below(4) {
		case 0:
			b = b[:c.below(len(b))]
		case 1:
			most = c.below(most + 1)
		case 2:
			b = c.spoil(b)
		}
		related(t, b, most, c.cut(b, 1+c.below(50)))
		related(t, b, most, [][]byte{b})
		if len(b) < 150 {
			related(t, b, most, single(b))
		}
	}
}

// P14.2: each limit: up to it all is told; then the error comes with the piece in which there would be more.
func TestLimits(t *testing.T) {
	c := chance(151)
	for range 15 {
		s := c.blocks(1+c.below(3), 20, 0)
		for most := range len(s.told) + 2 {
			p := begun(t, most)
			e := p.feedAll(t, single(s.p.Bytes))
			if most < len(s.told) && e != api.ErrLimit || most >= len(s.told) && (e != api.OK || !p.s.Over) {
				t.Fatal(most, len(s.told), e)
			}
			if len(p.told) > most {
				t.Fatal(most, len(p.told))
			}
			if _, _, _, e := swell.Feed(begun(t, most).s, s.p.Bytes); (e == api.ErrLimit) != (most < len(s.told)) {
				t.Fatal(most, e)
			}
		}
	}
}

// P14.2: how many bytes were read, at the end: at whatever bit it stands, and whatever is behind it.
func TestBehindTheEnd(t *testing.T) {
	for n := range 24 {
		// Literals of 8 and of 9 bits bring the end to each bit.
		var l []api.Token
		for i := range n {
			l = append(l, api.Token{Lit: byte(140 + i)})
		}
		pen, e := block.Write(api.Pen{}, api.Fixed, nil, l, true)
		if e != api.OK {
			t.Fatal(e)
		}
		for _, behind := range [][]byte{nil, {0}, {255}, {3, 0}, make([]byte, 1000)} {
			b := slices.Concat(pen.Bytes, behind)
			for i := range pen.Bytes {
				p := begun(t, n)
				if e := p.feedAll(t, [][]byte{b[:i], b[i:]}); e != api.OK || p.used != len(pen.Bytes) || !p.s.Over || len(p.s.In) > 0 || p.s.At != 0 || p.s.Made != n {
					t.Fatal(n, i, brief(p.s), p.used, e)
				}
			}
		}
	}
	// The end of a stored block needs no bit of its own.
	for n := range 5 {
		stored, _ := block.Write(api.Pen{}, api.Stored, make([]byte, n), nil, true)
		p := begun(t, n)
		if e := p.feedAll(t, single(append(stored.Bytes, 9))); e != api.OK || p.used != len(stored.Bytes) || !p.s.Over {
			t.Fatal(n, p.used, e)
		}
	}
}

// P14.2: a last block that ends in what waited: none of the bytes behind that were read.
func TestEndInWhatWaited(t *testing.T) {
	b := []byte("\x4b\x04\x00")
	for _, wait := range [][]byte{b, append(b, 0), append(b, bytes.Repeat([]byte{255}, 597)...)} {
		for _, more := range [][]byte{nil, {0}, {7, 7}, make([]byte, 1<<17)} {
			s := made(9, 0)
			s.In = wait
			p := &pair{s: s, w: wordsOf(s)}
			if e := p.feed(t, more); e != api.OK || string(p.told) != "a" || p.used != 0 || !p.s.Over {
				t.Error(brief(p.s), string(p.told), p.used, e)
			}
		}
	}
	// An open stored block that has no bytes left ends at once, also amid a byte.
	for at := range 8 {
		for n := range 3 {
			s := opens(waits(made(9, 3), 1, at), api.Block{Last: true})
			if n == 0 {
				s = opens(made(9, 3), api.Block{Last: true})
			}
			p := &pair{s: s, w: wordsOf(s)}
			if e := p.feed(t, make([]byte, n)); e != api.OK || p.used != 0 || !p.s.Over {
				t.Error(brief(p.s), p.used, e)
			}
		}
	}
}

// P14.2, P14.4: a head that is as long as can be waits till it is whole; what waits is never more than 600 bytes.
func TestLongestHead(t *testing.T) {
	head, a, end := longest()
	for ahead := range 8 {
		// Blocks of 10 bits bring the head to each bit but the odd ones, a byte of 9 bits to these.
		bits := strings.Repeat("010"+"0000000", ahead/2)
		if ahead%2 == 1 {
			bits += "010" + "110010000" + "0000000"
		}
		from := len(bits) / 8
		b := packed(bits + head + a + end)
		p := begun(t, 9)
		most := 0
		for _, piece := range single(b) {
			if e := p.feed(t, piece); e != api.OK {
				t.Fatal(ahead, e)
			}
			most = max(most, len(p.s.In))
		}
		if !p.s.Over || p.told[len(p.told)-1] != 'a' || most != (len(bits+head)-1)/8-from {
			t.Error(ahead, brief(p.s), most)
		}
		for i := range b {
			p := begun(t, 9)
			if e := p.feedAll(t, [][]byte{b[:i], b[i:]}); e != api.OK || !p.s.Over || p.used != len(b) {
				t.Fatal(ahead, i, e)
			}
		}
	}
}

// P14.2: streams that may be, but that no beginning leads to: whole steps wait, and trees and places are whatever may be.
func TestWhatMayBe(t *testing.T) {
	c := chance(152)
	ks := []api.Block{{}, {Last: true}, {Left: 1}, {Left: 700}, {Left: 65535, Last: true}, fixed(false), fixed(true)}
	one, two := grown([]uint8{1}), grown([]uint8{1, 1})
	for _, longs := range append(empties(), one, two, grown(append(make([]uint8, 256), 1, 1)), grown(append(make([]uint8, 257), 1, 1))) {
		for _, fars := range append(empties(), one, two, grown(append(make([]uint8, 20), 1, 1))) {
			ks = append(ks, api.Block{Kind: 1, Longs: longs, Fars: fars}, api.Block{Kind: 2, Last: true, Longs: longs, Fars: fars})
		}
	}
	for range 6000 {
		n := c.below(50) * c.below(20)
		s := made(n+c.below(300), n)
		s.Win.Bytes = c.bytes(len(s.Win.Bytes), 256)
		if c.below(8) > 0 {
			s = opens(s, ks[c.below(len(ks))])
		}
		if c.below(4) > 0 {
			s.In, s.At = c.bytes(1+c.below(1+c.below(600)), 256), c.below(8)
		}
		p := &pair{s: s, w: wordsOf(s)}
		b := c.blocks(1+c.below(2), 20, 9).p.Bytes
		if c.below(2) == 0 {
			b = c.bytes(c.below(60), 256)
		}
		p.feedAll(t, c.cut(b, 1+c.below(40)))
	}
}

// P14.2: as much as may wait, and as much as may come, at once.
func TestAsMuchAsMayCome(t *testing.T) {
	// Empty stored blocks are 5 bytes each.
	b := bytes.Repeat([]byte{0, 0, 0, 255, 255}, 1<<17/5+200)
	s := made(9, 0)
	s.In = b[:600]
	next, told, used, e := swell.Feed(s, b[600:600+1<<17])
	if e != api.OK || len(told) != 0 || used != 1<<17 || !bytes.Equal(next.In, b[:(600+1<<17)%5]) || next.At != 0 || next.Open {
		t.Error(brief(next), used, e)
	}
	// Stored blocks, two bytes longer than what comes.
	var out []byte
	for _, n := range []int{65535, 65000} {
		out = append(append(out, 0, byte(n), byte(n>>8), ^byte(n), ^byte(n>>8)), make([]byte, n)...)
	}
	s = made(1<<17, 0)
	s.In = out[:600]
	next, told, used, e = swell.Feed(s, out[600:])
	if e != api.OK || !bytes.Equal(told, make([]byte, 65535+65000)) || used != len(out)-600 || next.Made != 65535+65000 || next.Open || len(next.In) != 0 {
		t.Error(brief(next), len(told), used, e)
	}
	if next, _, _, e := swell.Feed(next, make([]byte, 1<<17)); e != api.ErrStored || !same(next, api.Swell{}) {
		t.Error(brief(next), e)
	}
}

// P14.2, P14.4: more than the window, with copies that reach as far as it does.
func TestGreat(t *testing.T) {
	c := chance(153)
	s := &stream{}
	s.put(api.Stored, c.bytes(32760, 256), nil, false)
	for i := range 6 {
		var l []api.Token
		for range 60 {
			l = append(l, api.Token{Lit: byte(c.below(256))}, api.Token{Dist: min(len(s.told), 32768), Long: 258}, api.Token{Dist: 32700, Long: 3 + c.below(256)}, api.Token{Dist: 1 + c.below(300), Long: 3})
		}
		s.put(1+uint8(i%2), nil, l[:len(l)/6], false)
		s.put(api.Stored, c.bytes(1+c.below(9), 256), nil, i == 5)
	}
	for _, most := range []int{100, 5000, 1 << 17} {
		p := begun(t, len(s.told))
		if e := p.feedAll(t, c.cut(s.p.Bytes, most)); e != api.OK || !bytes.Equal(p.told, s.told) || !p.s.Over || p.used != len(s.p.Bytes) {
			t.Fatal(most, brief(p.s), e)
		}
	}
	if len(s.told) <= 40000 {
		t.Fatal(len(s.told))
	}
	// Byte by byte, while the window fills, and runs over.
	short := &stream{}
	short.put(api.Stored, c.bytes(32750, 256), nil, false)
	at := len(short.p.Bytes)
	var l []api.Token
	for range 30 {
		l = append(l, api.Token{Lit: 'x'}, api.Token{Dist: 32749, Long: 3})
	}
	short.put(api.Fixed, nil, l, true)
	p := begun(t, 1<<17)
	if e := p.feedAll(t, append([][]byte{short.p.Bytes[:at]}, single(short.p.Bytes[at:])...)); e != api.OK || !bytes.Equal(p.told, short.told) {
		t.Fatal(e)
	}
}

// P14.4: what the program presses, and what another one does, is told in pieces; behind a flush all that was written.
func TestPressed(t *testing.T) {
	c := chance(154)
	for i, want := range [][]byte{nil, {0}, []byte("abcabcabcabc"), make([]byte, 3000), bytes.Repeat([]byte("hello, "), 900), c.bytes(3000, 4), c.bytes(3000, 256), bytes.Repeat(c.bytes(33000, 256), 2)} {
		b, e := press.All(api.Style{Size: 1 << 15, Chain: 3, Most: 5000, Lazy: true}, want)
		if e != api.OK {
			t.Fatal(e)
		}
		var out bytes.Buffer
		w, _ := flate.NewWriter(&out, i%10)
		w.Write(want[:len(want)/2])
		w.Flush()
		half := out.Len()
		w.Write(want[len(want)/2:])
		w.Close()
		for _, most := range []int{20, 1 << 17} {
			p := begun(t, len(want))
			if e := p.feedAll(t, c.cut(b, most)); e != api.OK || !bytes.Equal(p.told, want) || !p.s.Over || p.used != len(b) {
				t.Fatal(i, most, brief(p.s), e)
			}
			p = begun(t, len(want))
			if e := p.feedAll(t, c.cut(out.Bytes()[:half], most)); e != api.OK || !bytes.Equal(p.told, want[:len(want)/2]) || p.s.Over || len(p.s.In) > 0 {
				t.Fatal(i, most, brief(p.s), e)
			}
			if e := p.feedAll(t, c.cut(out.Bytes()[half:], most)); e != api.OK || !bytes.Equal(p.told, want) || !p.s.Over || p.used != out.Len() {
				t.Fatal(i, most, brief(p.s), e)
			}
		}
	}
}

// P14.4: what is told is what another reader tells.
func TestOthers(t *testing.T) {
	c := chance(155)
	for range 600 {
		b := c.blocks(1+c.below(4), 1+c.below(60), 0).p.Bytes
		if c.below(2) == 0 {
			b = c.spoil(b)
		}
		p := begun(t, 1<<17)
		if e := p.feedAll(t, c.cut(b, 1+c.below(90))); e != api.OK || !p.s.Over {
			continue
		}
		in := bytes.NewReader(b)
		other, err := io.ReadAll(flate.NewReader(in))
		if err != nil || !bytes.Equal(p.told, other) || len(b)-in.Len() != p.used {
			t.Fatalf("%x: %q, not %q, %v", b, p.told, other, err)
		}
	}
}

// fill fills a list, and the memory behind it, with a number.
func fill(l []byte, x byte) {
	for i := range l[:cap(l)] {
		l[:cap(l)][i] = x
	}
}

// fillInts does the same.
func fillInts(l []int, x int) {
	for i := range l[:cap(l)] {
		l[:cap(l)][i] = x
	}
}

// room is s whose lists have room behind them.
func room(s api.Swell) api.Swell {
	wide := func(b []byte) []byte { return append(make([]byte, 0, len(b)+700), b...) }
	wider := func(l []int) []int { return append(make([]int, 0, len(l)+700), l...) }
	s.In, s.Win.Bytes = wide(s.In), wide(s.Win.Bytes)
	s.Block.Longs.Syms, s.Block.Fars.Syms = wider(s.Block.Longs.Syms), wider(s.Block.Fars.Syms)
	return s
}

// P14.3: neither what is handed in nor the memory behind it is written to; what was answered is its caller's: what becomes of it shows nowhere.
func TestMemory(t *testing.T) {
	c := chance(156)
	for range 400 {
		s := begun(t, 1<<17).s
		b := c.blocks(1+c.below(3), 1+c.below(60), 0).p.Bytes
		for _, piece := range c.cut(b, 1+c.below(40)) {
			if s.Over {
				break
			}
			wide := room(s)
			before := room(s)
			handed := append(make([]byte, 0, len(piece)+700), piece...)
			next, told, used, e := swell.Feed(wide, handed)
			if e != api.OK {
				t.Fatal(e)
			}
			keep, keepTold := copyOf(next), slices.Clone(told)
			// Each list of the answer is another one.
			for i, l := range [][]byte{next.In, next.Win.Bytes, told} {
				fill(l, byte(100+i))
			}
			for i, l := range [][]byte{next.In, next.Win.Bytes, told} {
				if bytes.Count(l, []byte{byte(100 + i)}) != len(l) {
					t.Fatal("two lists of an answer share memory")
				}
			}
			fillInts(next.Block.Longs.Syms, 5)
			fillInts(next.Block.Fars.Syms, 6)
			if slices.Contains(next.Block.Longs.Syms, 6) {
				t.Fatal("two trees of an answer share memory")
			}
			// Nor does what was handed in hang on it.
			sameRoom := func(a, b []byte) bool { return bytes.Equal(a[:cap(a)], b[:cap(b)]) }
			sameInts := func(a, b []int) bool { return slices.Equal(a[:cap(a)], b[:cap(b)]) }
			if !same(wide, before) || !bytes.Equal(handed, piece) || !sameRoom(wide.In, before.In) || !sameRoom(wide.Win.Bytes, before.Win.Bytes) ||
				!sameInts(wide.Block.Longs.Syms, before.Block.Longs.Syms) || !sameInts(wide.Block.Fars.Syms, before.Block.Fars.Syms) || slices.Max(append(handed[len(handed):cap(handed)], 0)) != 0 {
				t.Fatal("what was handed in is not as it was")
			}
			again, againTold, againUsed, _ := swell.Feed(wide, handed)
			if !same(again, keep) || !bytes.Equal(againTold, keepTold) || used != againUsed {
				t.Fatal("a second call answers otherwise")
			}
			// What becomes of what was handed in shows in no answer.
			fill(wide.In, 77)
			fill(wide.Win.Bytes, 78)
			fill(handed, 79)
			fillInts(wide.Block.Longs.Syms, 80)
			fillInts(wide.Block.Fars.Syms, 81)
			if !same(again, keep) || !bytes.Equal(againTold, keepTold) {
				t.Fatal("an answer shares memory with what was handed in")
			}
			s = again
		}
	}
}

// P14.4: of a stream under way no more is kept than a window, and a step that is not whole.
func TestKept(t *testing.T) {
	b := make([]byte, 1<<17)
	b[0], b[1], b[2], b[3], b[4] = 0, 255, 255, 0, 0
	s := begun(t, 1<<17).s
	next, _, _, e := swell.Feed(s, b[:1000])
	if e != api.OK || cap(next.In) > 600 || cap(next.Win.Bytes) > 32768 {
		t.Error(cap(next.In), cap(next.Win.Bytes), e)
	}
	next, _, _, e = swell.Feed(next, b[1000:65540])
	if e != api.OK || cap(next.In) > 600 || cap(next.Win.Bytes) > 32768 {
		t.Error(cap(next.In), cap(next.Win.Bytes), e)
	}
}

// others is s, changed in one thing each time.
func others(s api.Swell) []api.Swell {
	var l []api.Swell
	for _, how := range []func(x *api.Swell){
		func(x *api.Swell) { x.Most++ }, func(x *api.Swell) { x.Made-- }, func(x *api.Swell) { x.In = append(x.In, 0) },
		func(x *api.Swell) { x.At++ }, func(x *api.Swell) { x.Block.Kind ^= 1 }, func(x *api.Swell) { x.Block.Last = !x.Block.Last },
		func(x *api.Swell) { x.Block.Left++ }, func(x *api.Swell) { x.Open = !x.Open }, func(x *api.Swell) { x.Win.Size-- },
		func(x *api.Swell) { x.Win.Bytes = append(x.Win.Bytes, 0) }, func(x *api.Swell) { x.Over = !x.Over },
		func(x *api.Swell) { x.Block.Longs.Count[15]++ }, func(x *api.Swell) { x.Block.Fars.Count[0]++ },
		func(x *api.Swell) { x.Block.Longs.Syms = append(x.Block.Longs.Syms, 0) },
		func(x *api.Swell) { x.Block.Fars.Syms = append(x.Block.Fars.Syms, 0) },
	} {
		x := copyOf(s)
		how(&x)
		l = append(l, x)
	}
	for _, how := range []func(x *api.Swell){
		func(x *api.Swell) { x.In[len(x.In)-1]++ }, func(x *api.Swell) { x.Win.Bytes[0]++ },
		func(x *api.Swell) { x.Block.Longs.Syms[0]++ }, func(x *api.Swell) { x.Block.Fars.Syms[1]++ },
	} {
		if len(s.In) > 0 {
			x := copyOf(s)
			how(&x)
			l = append(l, x)
		}
	}
	return l
}

// P14.1: Same, of any ones.
func TestSame(t *testing.T) {
	full := opens(waits(made(9, 3), 2, 3), fixed(true))
	for _, s := range []api.Swell{{}, made(9, 3), full, {Most: -1, Made: 1 << 40, At: -9, Open: true, Over: true}} {
		if !swell.Same(s, s) || !swell.Same(s, copyOf(s)) {
			t.Error(brief(s))
		}
		for i, x := range others(s) {
			if swell.Same(s, x) || swell.Same(x, s) || !swell.Same(x, x) {
				t.Error(i, brief(s))
			}
		}
	}
	empty := api.Swell{In: []byte{}, Block: api.Block{Longs: empties()[1], Fars: empties()[1]}, Win: api.Window{Bytes: []byte{}}}
	if !swell.Same(empty, api.Swell{}) || !swell.Same(api.Swell{}, empty) {
		t.Error("lists that are empty, and lists that are nil, are the same")
	}
	all := slices.Concat(mays(), wrongs())
	for i := range all {
		j := (i*7 + 3) % len(all)
		if swell.Same(all[i], all[j]) != same(all[i], all[j]) {
			t.Error(i, j)
		}
	}
}

// P1: whatever is handed in, each call ends, none panics, and an error has nothing beside it.
func TestWhatever(t *testing.T) {
	c := chance(157)
	all := slices.Concat(mays(), wrongs())
	for range 8000 {
		a, b, k := all[c.below(len(all))], all[c.below(len(all))], all[c.below(len(all))]
		s := api.Swell{Most: a.Most, Made: a.Made, Win: a.Win, In: b.In, At: b.At, Block: k.Block, Open: k.Open, Over: k.Over && c.below(3) == 0}
		piece := c.bytes(c.below(40), 256)
		e := swell.Check(s)
		if e != api.OK && e != api.ErrBad {
			t.Fatal(brief(s), e)
		}
		p := &pair{s: s, w: wordsOf(made(0, 0))}
		if e == api.OK {
			p.w = wordsOf(s)
			p.feed(t, piece)
			continue
		}
		if next, told, used, e := swell.Feed(s, piece); e != api.ErrBad || told != nil || used != 0 || !same(next, api.Swell{}) {
			t.Fatal(brief(s), e)
		}
	}
}
