package swell_test

import (
	"math"
	"slices"
	"strings"

	"bellows/api"
	"bellows/block"
	"bellows/tree"
)

// chance gives numbers that look like chance and are always the same.
type chance uint64

func (c *chance) below(n int) int {
	*c ^= *c << 13
	*c ^= *c >> 7
	*c ^= *c << 17
	return int(uint64(*c>>16) % uint64(n))
}

// bytes are n bytes below most.
func (c *chance) bytes(n, most int) []byte {
	b := make([]byte, n)
	for i := range b {
		b[i] = byte(c.below(most))
	}
	return b
}

// stream is blocks as bits, and what they tell.
type stream struct {
	p    api.Pen
	told []byte
}

// put puts a block behind the others: of bytes, or of tokens.
func (s *stream) put(kind uint8, raw []byte, l []api.Token, last bool) {
	p, e := block.Write(s.p, kind, raw, l, last)
	if e != api.OK {
		panic(e)
	}
	s.p = p
	if kind == api.Stored {
		s.told = append(s.told, raw...)
		return
	}
	for _, t := range l {
		s.play(t)
	}
}

// play keeps what a token tells; one that reaches too far tells nothing.
func (s *stream) play(t api.Token) {
	if t.Long == 0 {
		s.told = append(s.told, t.Lit)
	}
	for range t.Long {
		if t.Dist <= len(s.told) {
			s.told = append(s.told, s.told[len(s.told)-t.Dist])
		}
	}
}

// tokens are n behind so many bytes; one of far reaches too far, if that is not 0.
func (c *chance) tokens(behind, n, far int) []api.Token {
	l := make([]api.Token, n)
	for i := range l {
		if behind == 0 || c.below(3) > 0 {
			l[i].Lit = byte(c.below(256)) >> c.below(8)
			behind++
			continue
		}
		l[i].Long = 3 + c.below(256)>>c.below(9)
		l[i].Dist = 1 + c.below(min(behind, 1<<15))>>c.below(16)
		if far > 0 && c.below(far) == 0 {
			l[i].Dist = min(behind+1+c.below(3), 1<<15)
		}
		behind += l[i].Long
	}
	return l
}

// blocks is some blocks of up to most bytes or tokens each, the last one of them the last.
func (c *chance) blocks(many, most, far int) *stream {
	s := &stream{}
	for i := range many {
		n := c.below(most)
		kind, l := uint8(c.below(3)), c.tokens(len(s.told), n, far)
		s.put(kind, c.bytes(n, 256), l, i == many-1)
	}
	return s
}

// spoil is bytes with a fault or two: a bit turned, put in, or left out, or the rest cut off.
func (c *chance) spoil(b []byte) []byte {
	t := []byte(text(b))
	for range 1 + c.below(2) {
		if len(t) == 0 {
			break
		}
		at := c.below(len(t))
		// Most of what may be wrong stands in the first head.
		if c.below(2) == 0 {
			at = c.below(min(len(t), 120))
		}
		switch c.below(5) {
		case 0:
			t = t[:at]
		case 1:
			t = slices.Insert(t, at, '0'+byte(c.below(2)))
		case 2:
			t = slices.Delete(t, at, at+1)
		default:
			t[at] ^= 1
		}
	}
	return packed(string(t))
}

// cut is b in pieces of up to most bytes, some of them empty.
func (c *chance) cut(b []byte, most int) [][]byte {
	var l [][]byte
	for len(b) > 0 {
		n := min(c.below(most+1), len(b))
		l = append(l, b[:n])
		b = b[n:]
	}
	return append(l, nil)
}

// single is b in pieces of a byte.
func single(b []byte) [][]byte {
	return slices.Collect(slices.Chunk(b, 1))
}

// grown is the tree of lengths that may be.
func grown(lengths []uint8) api.Tree {
	t, e := tree.Grow(lengths, 15)
	if e != api.OK {
		panic(e)
	}
	return t
}

// fixed is a fixed block that is open.
func fixed(last bool) api.Block {
	longs, fars := block.Fixed()
	return api.Block{Kind: api.Fixed, Last: last, Longs: grown(longs), Fars: grown(fars)}
}

// longest is a dynamic block's head that is as long as can be, nearly: 316 lengths, most of them told by 7 bits each. Behind it stand the codes of "a" and of the end.
func longest() (head, a, end string) {
	// Shorts: of 8 and 9 7 bits; 1, 2, 3 and 4 bits of others that stand for nothing here; 5 of 0, 6 of 1.
	var shorts [19]uint8
	shorts[8], shorts[9], shorts[0], shorts[1] = 7, 7, 5, 6
	shorts[2], shorts[3], shorts[4], shorts[5] = 1, 2, 3, 4
	codes := map[int]string{0: "11110", 1: "111110", 8: "1111110", 9: "1111111"}
	t := "101" + low(29, 5) + low(29, 5) + low(15, 4)
	for _, sym := range block.Order() {
		t += low(int(shorts[sym]), 3)
	}
	// 226 of 8 bits, then 60 of 9.
	t += strings.Repeat(codes[8], 226) + strings.Repeat(codes[9], 60)
	t += codes[1] + codes[1] + strings.Repeat(codes[0], 28)
	high := func(v, n int) string {
		b := []byte(low(v, n))
		slices.Reverse(b)
		return string(b)
	}
	return t, high('a', 8), high(2*226+256-226, 9)
}

// wild are numbers that may hardly be.
var wild = []int{math.MinInt, math.MinInt + 1, -1 << 32, -1 << 31, -65536, -256, -8, -7, -1, 1 << 20 * 3, 1 << 31, 1 << 32, 1<<32 + 1, 1 << 62, math.MaxInt - 7, math.MaxInt}
