package block_test

import (
	"bytes"
	"cmp"
	"compress/flate"
	"io"
	"math"
	"slices"
	"strings"
	"testing"

	"bellows/api"
	"bellows/block"
	"bellows/build"
	"bellows/runs"
	"bellows/token"
)

// The least length and the least distance of each symbol, from 257 and from 0 on, and the extra bits of each, one by one, so that they share nothing with the program.
var (
	longLeast = []int{3, 4, 5, 6, 7, 8, 9, 10, 11, 13, 15, 17, 19, 23, 27, 31, 35, 43, 51, 59, 67, 83, 99, 115, 131, 163, 195, 227, 258}
	longExtra = []int{0, 0, 0, 0, 0, 0, 0, 0, 1, 1, 1, 1, 2, 2, 2, 2, 3, 3, 3, 3, 4, 4, 4, 4, 5, 5, 5, 5, 0}
	farLeast  = []int{1, 2, 3, 4, 5, 7, 9, 13, 17, 25, 33, 49, 65, 97, 129, 193, 257, 385, 513, 769, 1025, 1537, 2049, 3073, 4097, 6145, 8193, 12289, 16385, 24577}
	farExtra  = []int{0, 0, 0, 0, 1, 1, 2, 2, 3, 3, 4, 4, 5, 5, 6, 6, 7, 7, 8, 8, 9, 9, 10, 10, 11, 11, 12, 12, 13, 13}
	order     = []int{16, 17, 18, 0, 8, 7, 9, 6, 10, 5, 11, 4, 12, 3, 13, 2, 14, 1, 15}
)

// wild are numbers that may hardly be; the lowest bits of some are those of one that may.
var wild = []int{math.MinInt, math.MinInt + 1, -1 << 32, -1<<32 + 3, -1 << 31, -258, -256, -8, -7, -1, 1 << 16, 1<<16 + 3, 1 << 31, 1 << 32, 1<<32 + 1, 1<<32 + 3, 1<<32 + 258, 1 << 62, math.MaxInt - 7, math.MaxInt}

// low is a number's bits as a text, the lowest one first.
func low(v, n int) string {
	var b strings.Builder
	for range n {
		b.WriteByte('0' + byte(v&1))
		v >>= 1
	}
	return b.String()
}

// codes are the codes of lengths as texts, the highest bit first: counted up by length, then by symbol.
func codes(lengths []uint8) []string {
	texts := make([]string, len(lengths))
	code := 0
	for long := 1; long <= 15; long++ {
		code *= 2
		for sym, n := range lengths {
			if int(n) == long {
				b := []byte(low(code, long))
				slices.Reverse(b)
				texts[sym] = string(b)
				code++
			}
		}
	}
	return texts
}

// symbol is the last symbol whose least number is at most n, and n's extra as bits.
func symbol(n int, least, extra []int) (int, string) {
	for sym := len(least) - 1; ; sym-- {
		if least[sym] <= n {
			return sym, low(n-least[sym], extra[sym])
		}
	}
}

// told is tokens and their end, by codes.
func told(l []api.Token, longs, fars []string) string {
	var b strings.Builder
	for _, t := range l {
		if t.Long == 0 {
			b.WriteString(longs[t.Lit])
			continue
		}
		long, extra := symbol(t.Long, longLeast, longExtra)
		b.WriteString(longs[257+long] + extra)
		far, extra := symbol(t.Dist, farLeast, farExtra)
		b.WriteString(fars[far] + extra)
	}
	return b.String() + longs[256]
}

// least are the lengths of a dynamic block, as many as are told.
func least(l []api.Token) (longs, fars []uint8) {
	often, dists := make([]int, 286), make([]int, 30)
	often[256] = 1
	for _, t := range l {
		if t.Long == 0 {
			often[t.Lit]++
			continue
		}
		long, _ := symbol(t.Long, longLeast, longExtra)
		far, _ := symbol(t.Dist, farLeast, farExtra)
		often[257+long]++
		dists[far]++
	}
	longs, _ = build.Lengths(often, 15)
	fars, _ = build.Lengths(dists, 15)
	trim := func(l []uint8, least int) []uint8 {
		return l[:max(least, len(strings.TrimRight(string(l), "\x00")))]
	}
	return trim(longs, 257), trim(fars, 1)
}

// shortFreq is how often each symbol stands in runs.
func shortFreq(l []api.Run) []int {
	often := make([]int, 19)
	for _, r := range l {
		often[r.Sym]++
	}
	return often
}

// dynamic is what stands behind the kind of a dynamic block.
func dynamic(l []api.Token) string {
	longs, fars := least(l)
	all, _ := runs.Squeeze(slices.Concat(longs, fars))
	shorts, _ := build.Lengths(shortFreq(all), 7)
	many := 4
	for i, sym := range order {
		if shorts[sym] > 0 {
			many = max(many, i+1)
		}
	}
	text := low(len(longs)-257, 5) + low(len(fars)-1, 5) + low(many-4, 4)
	for _, sym := range order[:many] {
		text += low(int(shorts[sym]), 3)
	}
	short := codes(shorts)
	for _, r := range all {
		text += short[r.Sym] + low(r.Extra, []int{0, 0, 0, 0, 0, 0, 0, 0, 0, 0, 0, 0, 0, 0, 0, 0, 2, 3, 7}[r.Sym])
	}
	return text + told(l, codes(longs), codes(fars))
}

// fixed are the fixed lengths, by the chapter's words.
func fixed() (longs, fars []uint8) {
	for sym := range 288 {
		switch {
		case sym <= 143 || sym >= 280:
			longs = append(longs, 8)
		case sym <= 255:
			longs = append(longs, 9)
		default:
			longs = append(longs, 7)
		}
	}
	for range 32 {
		fars = append(fars, 5)
	}
	return longs, fars
}

// written is a block's bits behind at others, by the chapter's words.
func written(at int, kind uint8, raw []byte, l []api.Token, last bool) string {
	head := low(0, 1)
	if last {
		head = low(1, 1)
	}
	head += low(int(kind), 2)
	switch kind {
	case 0:
		var b strings.Builder
		b.WriteString(head)
		for (at+b.Len())%8 != 0 {
			b.WriteByte('0')
		}
		b.WriteString(low(len(raw), 16) + low(65535-len(raw), 16))
		for _, x := range raw {
			b.WriteString(low(int(x), 8))
		}
		return b.String()
	case 1:
		longs, fars := fixed()
		return head + told(l, codes(longs), codes(fars))
	}
	return head + dynamic(l)
}

// pen is a text's bits as a pen.
func pen(text string) api.Pen {
	p := api.Pen{Bytes: make([]byte, (len(text)+7)/8), Bits: len(text)}
	for i := range len(text) {
		p.Bytes[i/8] |= (text[i] - '0') << (i % 8)
	}
	return p
}

// same tells whether two pens are the same.
func same(a, b api.Pen) bool {
	return a.Bits == b.Bits && bytes.Equal(a.Bytes, b.Bytes)
}

// chance gives numbers that look like chance and are always the same.
type chance uint64

func (c *chance) below(n int) int {
	*c ^= *c << 13
	*c ^= *c >> 7
	*c ^= *c << 17
	return int(uint64(*c>>16) % uint64(n))
}

// text is as many bits.
func (c *chance) text(n int) string {
	b := make([]byte, n)
	for i := range b {
		b[i] = '0' + byte(c.below(2))
	}
	return string(b)
}

// bytes are as many, each below most.
func (c *chance) bytes(n, most int) []byte {
	b := make([]byte, n)
	for i := range b {
		b[i] = byte(c.below(most))
	}
	return b
}

// copy is one whose length and distance have few bits, or many.
func (c *chance) copy() api.Token {
	return api.Token{Long: 3 + c.below(256)>>c.below(9), Dist: 1 + c.below(1<<15)>>c.below(16)}
}

// tokens are as many, that may be; bytes are below most, and there is a copy among so many.
func (c *chance) tokens(n, most, copies int) []api.Token {
	l := make([]api.Token, n)
	for i := range l {
		if c.below(copies) == 0 {
			l[i] = c.copy()
		} else {
			l[i].Lit = byte(c.below(most)) >> c.below(3)
		}
	}
	return l
}

// lit is a text's bytes as tokens.
func lit(s string) []api.Token {
	l := make([]api.Token, len(s))
	for i := range l {
		l[i].Lit = s[i]
	}
	return l
}

// often is bytes from first on, each so often.
func often(first byte, many ...int) []api.Token {
	var l []api.Token
	for i, n := range many {
		l = append(l, slices.Repeat([]api.Token{{Lit: first + byte(i)}}, n)...)
	}
	return l
}

// eachLong is a copy of each length's symbol, as far as dist.
func eachLong(dist int) []api.Token {
	var l []api.Token
	for _, long := range longLeast {
		l = append(l, api.Token{Long: long, Dist: dist})
	}
	return l
}

// eachFar is a copy of each distance's symbol.
func eachFar() []api.Token {
	var l []api.Token
	for _, dist := range farLeast {
		l = append(l, api.Token{Long: 3, Dist: dist})
	}
	return l
}

// eachByte is each byte once.
func eachByte() []api.Token {
	return often(0, slices.Repeat([]int{1}, 256)...)
}

// lists are tokens of all sorts.
func lists() [][]api.Token {
	c := chance(111)
	all := [][]api.Token{
		nil, {}, lit("a"), lit("\x00"), lit("\xff"), lit("abc"), lit("aaaaaaaaaa"), lit("ab\xf0\xff"),
		{{Long: 3, Dist: 1}}, {{Long: 258, Dist: 32768}}, {{Long: 257, Dist: 24577}}, {{Long: 3, Dist: 2}, {Long: 4, Dist: 1}},
		eachByte(), eachLong(1), eachLong(32768), eachFar(), slices.Concat(eachByte(), eachLong(9), eachFar()),
		deepLongs(), deepFars(), deepShorts(), crossing(),
	}
	for range 400 {
		all = append(all, c.tokens(c.below(60), 1+c.below(256), 1+c.below(9)))
	}
	for range 60 {
		all = append(all, c.tokens(c.below(3000), 1+c.below(256), 1+c.below(40)))
	}
	return all
}

// rising is numbers, each more than all ahead of the one ahead of it: of symbols that stand so often each one's code would be a bit longer than that of the next one.
func rising() []int {
	return []int{1, 1, 3, 4, 7, 11, 18, 29, 47, 76, 123, 199, 322, 521, 843, 1364, 2207, 3571, 5778}
}

// deepLongs is bytes of which one is so seldom that its code would be more than 15 bits.
func deepLongs() []api.Token {
	return often(100, rising()...)
}

// deepFars is copies of which one has such a distance.
func deepFars() []api.Token {
	var l []api.Token
	for i, many := range rising() {
		l = append(l, slices.Repeat([]api.Token{{Long: 3, Dist: farLeast[i+9]}}, many)...)
	}
	return l
}

// deepShorts is bytes of which so many have each length, from 3 to 8 bits, that in their runs symbols are ever more often, too: the first one's code would be more than 7 bits.
func deepShorts() []api.Token {
	var l []api.Token
	at := 0
	for i, many := range []int{1, 8, 1, 1, 29, 25} {
		for range many {
			// They stand apart, so that there are few runs.
			l = append(l, slices.Repeat([]api.Token{{Lit: byte(37 * at)}}, 32>>i)...)
			at++
		}
	}
	return l
}

// crossing is seven lengths, and eight distances, alike often: all have codes of 3 bits, the end, too, and a run of them goes on from the lengths to the distances.
func crossing() []api.Token {
	var l []api.Token
	for long := 3; long < 10; long++ {
		for _, dist := range farLeast[:8] {
			l = append(l, api.Token{Long: long, Dist: dist})
		}
	}
	return l
}

// write asks for a block behind a pen, and holds it against the chapter's words.
func write(t *testing.T, ahead string, kind uint8, raw []byte, l []api.Token, last bool) api.Pen {
	t.Helper()
	text := written(len(ahead), kind, raw, l, last)
	p, e := block.Write(pen(ahead), kind, raw, l, last)
	if want := pen(ahead + text); e != api.OK || !same(p, want) {
		at := 0
		for at < min(len(p.Bytes), len(want.Bytes)) && p.Bytes[at] == want.Bytes[at] {
			at++
		}
		t.Fatalf("behind %d bits, kind %d, %d bytes, %d tokens, %v: %d bits, error %d, not %d bits, or another byte %d", len(ahead), kind, len(raw), len(l), last, p.Bits, e, want.Bits, at)
	}
	if n, e := block.Long(len(ahead)%8, kind, raw, l); e != api.OK || n != len(text) {
		t.Fatalf("Long at %d, kind %d, %d bytes, %d tokens: %d, error %d, not %d", len(ahead)%8, kind, len(raw), len(l), n, e, len(text))
	}
	return p
}

// read is what the pen's bytes tell behind others.
func read(t *testing.T, p api.Pen, ahead []byte) []byte {
	t.Helper()
	r := flate.NewReaderDict(bytes.NewReader(p.Bytes), ahead)
	b, err := io.ReadAll(r)
	if err != nil {
		t.Fatal(err)
	}
	return b
}

// P11.1: the fixed lengths, symbol by symbol, in new memory.
func TestFixed(t *testing.T) {
	wantLongs, wantFars := fixed()
	for range 2 {
		longs, fars := block.Fixed()
		if !slices.Equal(longs, wantLongs) || !slices.Equal(fars, wantFars) {
			t.Error(longs, fars)
		}
		longs, fars = longs[:cap(longs)], fars[:cap(fars)]
		for i := range longs {
			longs[i] = 99
		}
		for i := range fars {
			fars[i] = 98
		}
		if slices.Contains(longs, 98) {
			t.Error("both are the same memory")
		}
	}
}

// P11.1: the order.
func TestOrder(t *testing.T) {
	if o := block.Order(); !slices.Equal(o[:], order) {
		t.Error(o)
	}
}

// P11.2, P11.5: stored blocks behind from 0 to 20 bits.
func TestWriteStored(t *testing.T) {
	c := chance(112)
	for at := range 21 {
		for _, n := range []int{0, 1, 2, 3, 7, 8, 255, 256, 257, 1000} {
			for _, last := range []bool{false, true} {
				raw := c.bytes(n, 256)
				p := write(t, c.text(at), 0, raw, c.tokens(c.below(4), 256, 2), last)
				if missing := (8 - (at+3)%8) % 8; p.Bits != at+3+missing+32+8*n {
					t.Error(at, n, p.Bits)
				}
			}
		}
	}
	for _, n := range []int{32767, 32768, 65534, 65535} {
		write(t, c.text(n%8), 0, c.bytes(n, 256), nil, true)
	}
}

// P11.2: a fixed block of each byte, each length, and each distance, alone.
func TestWriteFixedEachToken(t *testing.T) {
	for lit := range 256 {
		write(t, "", 1, nil, []api.Token{{Lit: byte(lit)}}, true)
	}
	for long := 3; long <= 258; long++ {
		write(t, "1", 1, nil, []api.Token{{Long: long, Dist: 7}}, false)
	}
	for dist := 1; dist <= 32768; dist += 1 + dist/400 {
		write(t, "10", 1, nil, []api.Token{{Long: 3, Dist: dist}}, true)
	}
	for _, dist := range farLeast {
		write(t, "", 1, nil, []api.Token{{Long: 9, Dist: dist}, {Long: 9, Dist: max(dist-1, 1)}}, true)
	}
}

// P11.2: fixed and dynamic blocks of tokens of all sorts; what the bytes are, counts for nothing.
func TestWriteTokens(t *testing.T) {
	c := chance(113)
	for i, l := range lists() {
		for kind := uint8(1); kind <= 2; kind++ {
			write(t, c.text(c.below(30)), kind, c.bytes(c.below(5), 256), l, i%2 == 0)
			write(t, c.text(i%8), kind, nil, l, i%3 == 0)
		}
	}
}

// P11.2: a dynamic block of each length and each distance alone: one code of each kind, or two.
func TestWriteDynamicEachToken(t *testing.T) {
	for lit := range 256 {
		write(t, "", 2, nil, []api.Token{{Lit: byte(lit)}}, true)
	}
	for long := 3; long <= 258; long++ {
		write(t, "1", 2, nil, []api.Token{{Long: long, Dist: 1 + long*long%32768}}, false)
	}
	for dist := 1; dist <= 32768; dist += 1 + dist/60 {
		write(t, "10", 2, nil, []api.Token{{Long: 3, Dist: dist}, {Long: 5, Dist: 1}}, true)
	}
}

// P11.2: the lists have what they are made for: codes that would be more than 15 bits, or 7, and a run that goes on from one code's lengths to the other's.
func TestListsAreDeep(t *testing.T) {
	first, _ := least(deepLongs())
	_, second := least(deepFars())
	if free := depth(rising()); free <= 15 || slices.Max(first) != 15 || slices.Max(second) != 15 {
		t.Error(free, first, second)
	}
	first, second = least(deepShorts())
	l, _ := runs.Squeeze(slices.Concat(first, second))
	if free := depth(shortFreq(l)); free <= 7 {
		t.Error(free)
	}
	first, second = least(crossing())
	l, _ = runs.Squeeze(slices.Concat(first, second))
	l1, _ := runs.Squeeze(first)
	l2, _ := runs.Squeeze(second)
	if slices.Equal(l, slices.Concat(l1, l2)) {
		t.Error(l)
	}
}

// depth is how many bits the longest code has that costs least: the two that are least often are put together, till there is one.
func depth(often []int) int {
	type tree struct{ often, depth int }
	var l []tree
	for _, n := range often {
		if n > 0 {
			l = append(l, tree{often: n})
		}
	}
	for len(l) > 1 {
		slices.SortFunc(l, func(a, b tree) int { return cmp.Or(a.often-b.often, a.depth-b.depth) })
		l = append(l[2:], tree{l[0].often + l[1].often, max(l[0].depth, l[1].depth) + 1})
	}
	return l[0].depth
}

// P11.2: as many tokens as there may be, and one less.
func TestWriteMany(t *testing.T) {
	c := chance(114)
	for kind := range uint8(3) {
		for _, n := range []int{65534, 65535} {
			write(t, c.text(3), kind, c.bytes(100, 256), c.tokens(n, 256, 2), false)
		}
		write(t, "", kind, nil, slices.Repeat([]api.Token{{Long: 258, Dist: 32768}}, 65535), true)
		write(t, "", kind, nil, slices.Repeat([]api.Token{{Long: 227, Dist: 24577}}, 65535), true)
	}
}

// P11.2: what is written is read by others, block behind block.
func TestWrittenIsRead(t *testing.T) {
	c := chance(115)
	for _, l := range lists() {
		ahead := c.bytes(32768, 256)
		var p api.Pen
		var want []byte
		for i := range 7 {
			kind := uint8(i % 3)
			raw := c.bytes(c.below(40), 256)
			next := raw
			if kind > 0 {
				next, _ = token.Play(slices.Concat(ahead, want), l)
			}
			if len(want)+len(next) > 60000 {
				break
			}
			var e api.Errno
			if p, e = block.Write(p, kind, raw, l, false); e != api.OK {
				t.Fatal(e)
			}
			want = append(want, next...)
		}
		p, e := block.Write(p, uint8(c.below(2)), nil, nil, true)
		if b := read(t, p, ahead); e != api.OK || !bytes.Equal(b, want) {
			t.Fatalf("%d tokens: %d bytes are read, not %d", len(l), len(b), len(want))
		}
	}
}

// P11.2, P11.5: texts, cut and written, are read again; the best kind is at most as long as a stored block.
func TestTextsAreRead(t *testing.T) {
	c := chance(116)
	texts := []string{"", "a", "hello, hello, hello", strings.Repeat("the quick brown fox jumps over the lazy dog. ", 60), strings.Repeat("\x00", 5000), string(c.bytes(3000, 256)), string(c.bytes(3000, 3))}
	for _, text := range texts {
		l, e := token.Cut([]byte(text), 0, api.Style{Size: 4096, Chain: 16, Most: 65535, Lazy: true})
		if e != api.OK {
			t.Fatal(e)
		}
		for kind := range uint8(3) {
			p, e := block.Write(api.Pen{}, kind, []byte(text), l, true)
			if b := read(t, p, nil); e != api.OK || string(b) != text {
				t.Fatalf("kind %d: %d bytes, not these %d", kind, len(b), len(text))
			}
		}
		kind, _ := block.Best(0, []byte(text), l)
		if n, _ := block.Long(0, kind, []byte(text), l); n > 40+8*len(text) {
			t.Error(len(text), kind, n)
		}
	}
}

// bad are pens that may not be.
func bad() []api.Pen {
	return []api.Pen{
		{Bits: 1}, {Bits: -1}, {Bytes: []byte{0}}, {Bytes: []byte{2}, Bits: 1}, {Bytes: []byte{255}, Bits: 7}, {Bytes: []byte{0, 0}, Bits: 8}, {Bytes: []byte{1}, Bits: 9},
		{Bits: math.MinInt}, {Bits: math.MaxInt}, {Bytes: make([]byte, 1<<20+1), Bits: 1<<23 + 1}, {Bytes: make([]byte, 1<<20+1), Bits: 1<<23 + 8},
	}
}

// wrong are tokens that may not be.
func wrong() []api.Token {
	l := []api.Token{{Long: 2, Dist: 1}, {Long: 1, Dist: 1}, {Long: 259, Dist: 1}, {Long: 3}, {Dist: 3}, {Long: 3, Dist: 32769}, {Long: 3, Dist: 1, Lit: 1}, {Lit: 'a', Long: 258, Dist: 32768}, {Lit: 'a', Dist: 1}}
	for _, n := range wild {
		l = append(l, api.Token{Long: n}, api.Token{Dist: n}, api.Token{Long: 3, Dist: n}, api.Token{Long: n, Dist: 3}, api.Token{Long: n, Dist: n})
	}
	return slices.DeleteFunc(l, func(t api.Token) bool { return token.Check(t) == api.OK })
}

// fails asks for a block, and how long it is, and holds both against an error.
func fails(t *testing.T, kind uint8, raw []byte, l []api.Token, want api.Errno) {
	t.Helper()
	for _, ahead := range []string{"", "101", "11111111"} {
		for _, last := range []bool{false, true} {
			if p, e := block.Write(pen(ahead), kind, raw, l, last); e != want || p.Bytes != nil || p.Bits != 0 {
				t.Error(kind, len(raw), len(l), p.Bits, e)
			}
		}
		if n, e := block.Long(len(ahead)%8, kind, raw, l); e != want || n != 0 {
			t.Error(kind, len(raw), len(l), n, e)
		}
	}
}

// failsBest asks for the best kind, and holds it against an error.
func failsBest(t *testing.T, raw []byte, l []api.Token, want api.Errno) {
	t.Helper()
	for at := range 8 {
		if kind, e := block.Best(at, raw, l); kind != 0 || e != want {
			t.Error(at, len(raw), len(l), kind, e)
		}
	}
}

// P11.2, P11.3: kinds that may not be, ahead of all that is wrong with bytes and tokens.
func TestWrongKind(t *testing.T) {
	for kind := 3; kind < 256; kind++ {
		fails(t, uint8(kind), nil, nil, api.ErrArg)
		fails(t, uint8(kind), []byte("a"), lit("a"), api.ErrArg)
		fails(t, uint8(kind), make([]byte, 65536), make([]api.Token, 65536), api.ErrArg)
		fails(t, uint8(kind), nil, []api.Token{{Long: 1}}, api.ErrArg)
	}
}

// P11.2, P11.3: too many bytes or tokens, of each kind, ahead of tokens that may not be.
func TestTooMany(t *testing.T) {
	last := slices.Concat(make([]api.Token, 65535), []api.Token{{Long: 1}})
	for _, n := range []int{65536, 65537, 1 << 17, 1<<17 + 1, 1 << 20} {
		for kind := range uint8(3) {
			fails(t, kind, make([]byte, n), nil, api.ErrMany)
			fails(t, kind, nil, make([]api.Token, n), api.ErrMany)
			fails(t, kind, make([]byte, n), []api.Token{{Long: 1}}, api.ErrMany)
			fails(t, kind, []byte("a"), last, api.ErrMany)
		}
		failsBest(t, make([]byte, n), nil, api.ErrMany)
		failsBest(t, nil, make([]api.Token, n), api.ErrMany)
		failsBest(t, make([]byte, n), []api.Token{{Long: 1}}, api.ErrMany)
		failsBest(t, nil, last, api.ErrMany)
	}
}

// P11.2, P11.3: tokens that may not be, of each kind, wherever they stand.
func TestWrongToken(t *testing.T) {
	if len(wrong()) < 90 {
		t.Error(len(wrong()))
	}
	for _, x := range wrong() {
		for _, l := range [][]api.Token{{x}, append(lit("abc"), x), append([]api.Token{x}, lit("abc")...), {{Long: 3, Dist: 1}, x, {Lit: 1}}, append(make([]api.Token, 65534), x)} {
			for kind := range uint8(3) {
				fails(t, kind, []byte("abc"), l, api.ErrBad)
			}
			failsBest(t, nil, l, api.ErrBad)
		}
	}
}

// P11.2: pens that may not be, ahead of all else.
func TestWrongPen(t *testing.T) {
	for i, p := range bad() {
		for _, kind := range []uint8{0, 1, 2, 3, 255} {
			for _, raw := range [][]byte{nil, make([]byte, 65536)} {
				for _, l := range [][]api.Token{nil, lit("abc"), {{Long: 1}}} {
					if out, e := block.Write(p, kind, raw, l, true); e != api.ErrBad || out.Bytes != nil || out.Bits != 0 {
						t.Error(i, kind, out.Bits, e)
					}
				}
			}
		}
	}
}

// P11.2: as many bits as there may be, and more; that is told behind all else.
func TestWriteFull(t *testing.T) {
	long := slices.Repeat([]api.Token{{Long: 258, Dist: 32768}}, 65535)
	for _, x := range []struct {
		kind uint8
		raw  []byte
		l    []api.Token
		bits int // the most that fit ahead
	}{
		{0, nil, nil, 35},
		{0, []byte("abc"), nil, 59},
		{0, make([]byte, 65535), nil, 35 + 8*65535},
		{1, nil, nil, 10},
		{1, nil, lit("a"), 18},
		{1, nil, long, len(written(0, 1, nil, long, false))},
		{2, nil, nil, len(written(0, 2, nil, nil, false))},
		{2, nil, long, len(written(0, 2, nil, long, false))},
	} {
		for more := -9; more <= 40; more++ {
			n := 1<<23 - x.bits + more
			if n > 1<<23 {
				break
			}
			p := api.Pen{Bytes: make([]byte, (n+7)/8), Bits: n}
			out, e := block.Write(p, x.kind, x.raw, x.l, true)
			if more > 0 && (e != api.ErrFull || out.Bytes != nil || out.Bits != 0) || more <= 0 && (e != api.OK || out.Bits > 1<<23 || len(out.Bytes) != (out.Bits+7)/8) {
				t.Error(x.kind, len(x.raw), len(x.l), more, e, out.Bits)
			}
		}
	}
	whole := api.Pen{Bytes: bytes.Repeat([]byte{255}, 1<<20), Bits: 1 << 23}
	for i, e := range []api.Errno{
		writes(whole, 0, nil, nil), writes(whole, 1, nil, nil), writes(whole, 2, nil, nil), writes(whole, 3, nil, nil),
		writes(whole, 1, make([]byte, 65536), nil), writes(whole, 1, nil, []api.Token{{Long: 1}}), writes(api.Pen{Bytes: whole.Bytes, Bits: 1<<23 - 1}, 1, nil, nil),
	} {
		if want := []api.Errno{api.ErrFull, api.ErrFull, api.ErrFull, api.ErrArg, api.ErrMany, api.ErrBad, api.ErrBad}[i]; e != want {
			t.Error(i, e)
		}
	}
}

// writes is Write's error.
func writes(p api.Pen, kind uint8, raw []byte, l []api.Token) api.Errno {
	_, e := block.Write(p, kind, raw, l, true)
	return e
}

// P11.2: a long pen's own bits are as they were.
func TestWriteBehindMuch(t *testing.T) {
	c := chance(117)
	for i := range 24 {
		ahead := c.text(100000 + i)
		write(t, ahead, uint8(i%3), c.bytes(c.below(300), 256), c.tokens(c.below(300), 256, 5), i%2 == 0)
	}
}

// P11.3: places that may not be, ahead of all that is wrong else.
func TestWrongPlace(t *testing.T) {
	for _, at := range slices.Concat(wild, []int{-1, 8, 9, 15, 16, 256, 1 << 23}) {
		for _, raw := range [][]byte{nil, []byte("abc"), make([]byte, 65536)} {
			for _, l := range [][]api.Token{nil, lit("abc"), {{Long: 1}}, make([]api.Token, 65536)} {
				for _, kind := range []uint8{0, 1, 2, 3, 255} {
					if n, e := block.Long(at, kind, raw, l); n != 0 || e != api.ErrArg {
						t.Error(at, kind, n, e)
					}
				}
				if kind, e := block.Best(at, raw, l); kind != 0 || e != api.ErrArg {
					t.Error(at, kind, e)
				}
			}
		}
	}
}

// P11.3: how long each kind is behind from 0 to 7 bits, of bytes and tokens that have nothing to do with one another.
func TestLong(t *testing.T) {
	c := chance(118)
	for i, l := range lists() {
		raw := c.bytes([]int{0, 1, 30, 500}[i%4], 256)
		for kind := range uint8(3) {
			for at := range 8 {
				want := len(written(at, kind, raw, l, false))
				if n, e := block.Long(at, kind, raw, l); n != want || e != api.OK {
					t.Fatal(i, kind, at, n, e, want)
				}
			}
		}
	}
}

// P11.3, P11.5: the best kind is the shortest one, of several the lowest. Bytes are as many as make a stored block nearly as long as the others, so that there are some of each.
func TestBest(t *testing.T) {
	c := chance(119)
	ties := map[[2]int]int{}
	for _, l := range slices.Concat(lists(), tied()) {
		at := c.below(8)
		n := min(len(written(at, 1, nil, l, false)), len(written(at, 2, nil, l, false)))/8 - 4
		for more := -3; more <= 3; more++ {
			raw := make([]byte, max(0, min(n+more, 65535)))
			longs := make([]int, 3)
			for kind := range longs {
				longs[kind] = len(written(at, uint8(kind), raw, l, false))
			}
			least := slices.Min(longs)
			want := slices.Index(longs, least)
			kind, e := block.Best(at, raw, l)
			if int(kind) != want || e != api.OK {
				t.Fatal(longs, kind, e)
			}
			for other := want; other < 3; other++ {
				if longs[other] == least {
					ties[[2]int{want, other}]++
				}
			}
		}
	}
	for _, x := range [][2]int{{0, 0}, {1, 1}, {2, 2}, {0, 1}, {0, 2}, {1, 2}} {
		if ties[x] == 0 {
			t.Error("no list has these for its shortest ones: ", x)
		}
	}
}

// tied are tokens of which a fixed block is as long as a dynamic one.
func tied() [][]api.Token {
	c := chance(120)
	var all [][]api.Token
	for len(all) < 20 {
		l := c.tokens(60+c.below(150), 64, 30)
		if len(written(0, 1, nil, l, false)) == len(written(0, 2, nil, l, false)) {
			all = append(all, l)
		}
	}
	return all
}

// P11.4: neither what is handed in nor the memory behind it is written to, and a second call answers the same.
func TestReadingChangesNothing(t *testing.T) {
	c := chance(121)
	for _, l := range lists()[:80] {
		ahead := pen(c.text(c.below(40)))
		raw := c.bytes(c.below(40), 256)
		room := append(slices.Clone(ahead.Bytes), bytes.Repeat([]byte{77}, 4000)...)
		rawRoom := append(slices.Clone(raw), bytes.Repeat([]byte{78}, 400)...)
		lRoom := append(slices.Clone(l), slices.Repeat([]api.Token{{Lit: 79}}, 40)...)
		p := api.Pen{Bytes: room[:len(ahead.Bytes)], Bits: ahead.Bits}
		for kind := range uint8(3) {
			out, e := block.Write(p, kind, rawRoom[:len(raw)], lRoom[:len(l)], true)
			again, f := block.Write(p, kind, rawRoom[:len(raw)], lRoom[:len(l)], true)
			n, _ := block.Long(3, kind, rawRoom[:len(raw)], lRoom[:len(l)])
			m, _ := block.Long(3, kind, rawRoom[:len(raw)], lRoom[:len(l)])
			if e != api.OK || f != api.OK || !same(out, again) || n != m {
				t.Error(kind, "a second call answers otherwise")
			}
		}
		best, _ := block.Best(5, rawRoom[:len(raw)], lRoom[:len(l)])
		if again, _ := block.Best(5, rawRoom[:len(raw)], lRoom[:len(l)]); again != best {
			t.Error("a second call answers otherwise")
		}
		if !bytes.Equal(room, append(slices.Clone(ahead.Bytes), bytes.Repeat([]byte{77}, 4000)...)) || !bytes.Equal(rawRoom, append(slices.Clone(raw), bytes.Repeat([]byte{78}, 400)...)) || !slices.Equal(lRoom, append(slices.Clone(l), slices.Repeat([]api.Token{{Lit: 79}}, 40)...)) {
			t.Error("what was handed in is not as it was")
		}
	}
}

// P11.4: what was answered is its caller's: what becomes of it shows in nothing else.
func TestAnswersAreApart(t *testing.T) {
	c := chance(122)
	for kind := range uint8(3) {
		raw, l := c.bytes(90, 256), c.tokens(90, 256, 4)
		ahead := pen(c.text(70))
		kept, _ := block.Write(ahead, kind, raw, l, true)
		mine, _ := block.Write(ahead, kind, raw, l, true)
		before := slices.Clone(kept.Bytes)
		whole, all := slices.Clone(ahead.Bytes), slices.Clone(raw)
		mine.Bytes = mine.Bytes[:cap(mine.Bytes)]
		for i := range mine.Bytes {
			mine.Bytes[i] = 99
		}
		again, _ := block.Write(ahead, kind, raw, l, true)
		if !bytes.Equal(kept.Bytes, before) || !same(kept, again) || !bytes.Equal(ahead.Bytes, whole) || !bytes.Equal(raw, all) {
			t.Error(kind, "memory is shared")
		}
		clear(raw)
		clear(ahead.Bytes)
		if !bytes.Equal(kept.Bytes, before) {
			t.Error(kind, "memory is shared")
		}
	}
}

// P1: whatever is handed in, each call ends, none panics, and an error has nothing beside it.
func TestWhatever(t *testing.T) {
	numbers := slices.Concat(wild, []int{0, 1, 2, 3, 7, 8, 9, 258, 259, 32768, 32769})
	for _, bits := range numbers {
		for _, n := range []int{0, 1, 2, 9} {
			for kind := range uint8(5) {
				for _, long := range numbers {
					l := []api.Token{{Long: long, Dist: bits}, {Lit: 3}}
					p, e := block.Write(api.Pen{Bytes: make([]byte, n), Bits: bits}, kind, make([]byte, n), l, n > 1)
					if e != api.OK && (p.Bytes != nil || p.Bits != 0) {
						t.Error(p, e)
					}
					many, e := block.Long(bits, kind, nil, l)
					if e != api.OK && many != 0 || e == api.OK && many < 10 {
						t.Error(many, e)
					}
					best, e := block.Best(bits, nil, l)
					if e != api.OK && best != 0 || best > 2 {
						t.Error(best, e)
					}
				}
			}
		}
	}
}

// The chapter's examples.
func TestExamples(t *testing.T) {
	for i, x := range []struct {
		kind uint8
		raw  string
		l    []api.Token
		want []byte
		bits int
	}{
		{0, "abc", nil, []byte{1, 3, 0, 0xfc, 0xff, 0x61, 0x62, 0x63}, 64},
		{1, "", lit("a"), []byte{0x4b, 4, 0}, 18},
		{1, "", nil, []byte{3, 0}, 10},
	} {
		if p, e := block.Write(api.Pen{}, x.kind, []byte(x.raw), x.l, true); e != api.OK || !same(p, api.Pen{Bytes: x.want, Bits: x.bits}) {
			t.Error(i, p, e)
		}
	}
	for at, want := range map[int]int{0: 40, 6: 42} {
		if n, e := block.Long(at, 0, nil, nil); n != want || e != api.OK {
			t.Error(at, n, e)
		}
	}
	if kind, e := block.Best(0, []byte("abc"), lit("abc")); kind != 1 || e != api.OK {
		t.Error(kind, e)
	}
	if kind, e := block.Best(0, nil, nil); kind != 1 || e != api.OK {
		t.Error(kind, e)
	}
	if n, e := block.Long(0, 3, nil, nil); n != 0 || e != api.ErrArg {
		t.Error(n, e)
	}
}
