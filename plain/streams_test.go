package plain_test

import (
	"math"
	"slices"
	"strings"

	"bellows/api"
)

// chance gives numbers that look like chance and are always the same.
type chance uint64

func (c *chance) below(n int) int {
	*c ^= *c << 13
	*c ^= *c >> 7
	*c ^= *c << 17
	return int(uint64(*c>>16) % uint64(n))
}

// bytes are n bytes below most.
func (c *chance) bytes(n, most int) []byte {
	b := make([]byte, n)
	for i := range b {
		b[i] = byte(c.below(most))
	}
	return b
}

// pick are n numbers below most, no two the same, in no order.
func (c *chance) pick(n, most int) []int {
	all := make([]int, most)
	for i := range all {
		all[i] = i
	}
	for i := range n {
		j := i + c.below(most-i)
		all[i], all[j] = all[j], all[i]
	}
	return all[:n]
}

// lengths are those of n symbols, of which just those of syms have one, of most bits at most, so that they may be.
func (c *chance) lengths(n int, syms []int, most int) []uint8 {
	l := make([]uint8, n)
	if len(syms) == 1 {
		l[syms[0]] = 1
	}
	if len(syms) < 2 {
		return l
	}
	leaves := []uint8{0}
	for len(leaves) < len(syms) {
		i := c.below(len(leaves))
		// The last ones are deep, now and then.
		if c.below(3) == 0 {
			i = len(leaves) - 1
		}
		if int(leaves[i]) < most {
			leaves[i]++
			leaves = append(leaves, leaves[i])
		}
	}
	for i, sym := range syms {
		l[sym] = leaves[i]
	}
	return l
}

// runs are lengths told by runs, not always the fewest.
func (c *chance) runs(l []uint8) []api.Run {
	var out []api.Run
	for at := 0; at < len(l); {
		same := 1
		for at+same < len(l) && l[at+same] == l[at] {
			same++
		}
		r, n := api.Run{Sym: int(l[at])}, 1
		switch c.below(6) {
		case 0:
		case 1:
			if n = min(same, 3+c.below(4)); n >= 3 && at > 0 && l[at-1] == l[at] {
				r = api.Run{Sym: 16, Extra: n - 3}
			} else {
				n = 1
			}
		case 2:
			if n = min(same, 3+c.below(8)); n >= 3 && l[at] == 0 {
				r = api.Run{Sym: 17, Extra: n - 3}
			} else {
				n = 1
			}
		default:
			if n = min(same, 11+c.below(128)); n >= 11 && l[at] == 0 {
				r = api.Run{Sym: 18, Extra: n - 11}
			} else {
				n = 1
			}
		}
		out = append(out, r)
		at += n
	}
	return out
}

// shorts are lengths of the code for lengths for some runs; some symbols that these have no use for may have one, too, and two have one at least.
func (c *chance) shorts(l []api.Run) []uint8 {
	var syms []int
	add := func(sym int) {
		if !slices.Contains(syms, sym) {
			syms = append(syms, sym)
		}
	}
	for _, r := range l {
		add(r.Sym)
	}
	for range c.below(4) {
		add(c.below(19))
	}
	for len(syms) < 2 {
		add(c.below(19))
	}
	return c.lengths(19, syms, 7)
}

// head is a block's first bits.
func head(last bool, kind int) string {
	if last {
		return "1" + low(kind, 2)
	}
	return "0" + low(kind, 2)
}

// stored is a stored block behind at bits.
func stored(at int, last bool, raw []byte) string {
	t := head(last, 0)
	for (at+len(t))%8 != 0 {
		t += "0"
	}
	return t + low(len(raw), 16) + low(65535-len(raw), 16) + text(raw)
}

// told is a dynamic block's lengths by some runs, of so many first and second ones; shorts are told as far as the last one that is not 0, or as far as most, if that is more.
func told(longs, fars int, shorts []uint8, most int, l []api.Run) string {
	t := low(longs-257, 5) + low(fars-1, 5)
	n := max(4, most)
	for i, sym := range order {
		if shorts[sym] > 0 {
			n = max(n, i+1)
		}
	}
	t += low(n-4, 4)
	for _, sym := range order[:n] {
		t += low(int(shorts[sym]), 3)
	}
	return t + byRuns(shorts, l)
}

// byRuns is runs by the code for lengths.
func byRuns(shorts []uint8, l []api.Run) string {
	t := ""
	short := codes(shorts)
	for _, r := range l {
		t += short[r.Sym] + low(r.Extra, runExtra[r.Sym])
	}
	return t
}

// table is a dynamic block's lengths.
func (c *chance) table(longs, fars []uint8) string {
	l := c.runs(slices.Concat(longs, fars))
	return told(len(longs), len(fars), c.shorts(l), c.below(20), l)
}

// coded is a token by codes of these lengths; it stands there, if all its symbols have one.
func coded(t api.Token, longs, fars []string) (string, bool) {
	if t.Long == 0 {
		return longs[t.Lit], longs[t.Lit] != ""
	}
	long := last(longLeast, t.Long)
	far := last(farLeast, t.Dist)
	if 257+long >= len(longs) || far >= len(fars) || longs[257+long] == "" || fars[far] == "" {
		return "", false
	}
	return longs[257+long] + low(t.Long-longLeast[long], longExtra[long]) + fars[far] + low(t.Dist-farLeast[far], farExtra[far]), true
}

// last is the last place whose number is at most n.
func last(l []int, n int) int {
	at := len(l) - 1
	for l[at] > n {
		at--
	}
	return at
}

// stream is blocks as bits, and what they tell.
type stream struct {
	bits strings.Builder
	tell []byte
}

// stored puts a stored block behind the others.
func (s *stream) stored(last bool, raw []byte) {
	s.bits.WriteString(stored(s.bits.Len(), last, raw))
	s.tell = append(s.tell, raw...)
}

// codes puts tokens by codes of these lengths, and their end; those that have none, or reach too far, are left out.
func (s *stream) codes(longs, fars []uint8, l []api.Token) {
	long, far := codes(longs), codes(fars)
	for _, t := range l {
		bits, has := coded(t, long, far)
		if !has || t.Dist > len(s.tell) {
			continue
		}
		s.bits.WriteString(bits)
		s.play(t)
	}
	s.bits.WriteString(long[256])
}

// play keeps what a token tells.
func (s *stream) play(t api.Token) {
	if t.Long == 0 {
		s.tell = append(s.tell, t.Lit)
	}
	for range t.Long {
		s.tell = append(s.tell, s.tell[len(s.tell)-t.Dist])
	}
}

// tokens are n that may be, not many copies among them, most of which are short and near.
func (c *chance) tokens(n int) []api.Token {
	l := make([]api.Token, n)
	for i := range l {
		if c.below(3) > 0 {
			l[i].Lit = byte(c.below(256)) >> c.below(8)
			continue
		}
		l[i].Long = 3 + c.below(256)>>c.below(9)
		l[i].Dist = 1 + c.below(1<<15)>>c.below(16)
	}
	return l
}

// code is lengths in which just some symbols have one, up to the last one that has one, or farther, but least of them at least.
func (c *chance) code(syms []int, least, most, bits int) []uint8 {
	n := least
	for _, sym := range syms {
		n = max(n, sym+1)
	}
	n += c.below(most - n + 1)
	return c.lengths(n, syms, bits)
}

// both are lengths of a dynamic block, often of few symbols.
func (c *chance) both() (longs, fars []uint8) {
	syms := []int{256}
	for _, sym := range c.pick(c.below(1+c.below(286)>>c.below(9)), 286) {
		if sym != 256 {
			syms = append(syms, sym)
		}
	}
	return c.code(syms, 257, 286, 15), c.code(c.pick(c.below(1+c.below(31)), 30), 1, 30, 15)
}

// dynamic puts a dynamic block of some lengths behind the others.
func (s *stream) dynamic(c *chance, last bool, n int) {
	longs, fars := c.both()
	s.bits.WriteString(head(last, 2) + c.table(longs, fars))
	s.codes(longs, fars, c.tokens(n))
}

// loose is the head of a fixed or a dynamic block, and whatever behind it.
func (c *chance) loose() string {
	if c.below(3) == 0 {
		return head(c.below(2) == 0, 1) + text(c.bytes(c.below(60), 256))
	}
	longs, fars := c.both()
	return head(c.below(2) == 0, 2) + c.table(longs, fars) + text(c.bytes(c.below(60), 256))
}

// fixed puts a fixed block behind the others.
func (s *stream) fixed(last bool, l []api.Token) {
	s.bits.WriteString(head(last, 1))
	longs, fars := fixed()
	s.codes(longs, fars, l)
}

// some puts some blocks, the last one of them the last.
func (s *stream) some(c *chance, blocks, most int) {
	for i := range blocks {
		n, last := c.below(most), i == blocks-1
		switch c.below(3) {
		case 0:
			s.stored(last, c.bytes(n, 256))
		case 1:
			s.fixed(last, c.tokens(n))
		default:
			s.dynamic(c, last, n)
		}
	}
}

// stream is some blocks.
func (c *chance) stream() *stream {
	s := &stream{}
	s.some(c, 1+c.below(4), 1+c.below(60))
	return s
}

// spoil is bits with a fault or two: one turned, cut off, put in, or left out.
func (c *chance) spoil(t string) string {
	b := []byte(t)
	for range 1 + c.below(2) {
		if len(b) == 0 {
			break
		}
		at := c.below(len(b))
		// Most faults go into the first head, as most of what may be wrong stands there; some into the end.
		switch c.below(4) {
		case 0, 1:
			at = c.below(min(len(b), 120))
		case 2:
			at = len(b) - 1 - c.below(min(len(b), 12))
		}
		switch c.below(5) {
		case 0:
			b = b[:at]
		case 1:
			b = slices.Insert(b, at, '0'+byte(c.below(2)))
		case 2:
			b = slices.Delete(b, at, at+1)
		default:
			b[at] ^= 1
		}
	}
	return string(b)
}

// wild are numbers that may hardly be; the lowest bits of some are those of one that may.
var wild = []int{math.MinInt, math.MinInt + 1, -1 << 32, -1<<32 + 8, -1 << 31, -65536, -256, -8, -7, -1, 1 << 20 * 3, 1 << 31, 1 << 32, 1<<32 + 1, 1<<32 + 8, 1 << 62, math.MaxInt - 7, math.MaxInt}
