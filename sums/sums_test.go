package sums_test

import (
	"bytes"
	"hash/adler32"
	"hash/crc32"
	"math"
	"testing"

	"bellows/sums"
)

// chance gives numbers that look like chance and are always the same.
type chance uint64

func (c *chance) next() uint32 {
	*c ^= *c << 13
	*c ^= *c >> 7
	*c ^= *c << 17
	return uint32(*c >> 16)
}

func (c *chance) bytes(n int) []byte {
	b := make([]byte, n)
	for i := range b {
		b[i] = byte(c.next())
	}
	return b
}

func (c *chance) table() [256]uint32 {
	var t [256]uint32
	for i := range t {
		t[i] = c.next()
	}
	return t
}

// starts are sums that others stand behind: those whose halves are about 65521 too, up to the greatest number.
func starts() []uint32 {
	halves := []uint32{0, 1, 2, 255, 256, 32768, 65520, 65521, 65522, 65535}
	l := []uint32{123456789, 3421780262, math.MaxInt32}
	for _, low := range halves {
		for _, high := range halves {
			l = append(l, high*65536+low)
		}
	}
	return l
}

// texts are bytes of many lengths and kinds.
func texts() [][]byte {
	c := chance(88172645463325252)
	l := [][]byte{nil, {}, []byte("123456789"), []byte("The quick brown fox jumps over the lazy dog")}
	for x := range 256 {
		l = append(l, []byte{byte(x)})
	}
	for _, n := range []int{2, 3, 4, 5, 7, 8, 9, 16, 63, 64, 65, 255, 256, 257, 1000, 5552, 5553} {
		l = append(l, c.bytes(n), make([]byte, n), bytes.Repeat([]byte{255}, n))
	}
	return l
}

// halved is v after eight of the table's steps, by reckoning and not by shifts, so that it shares nothing with the package.
func halved(v uint32) uint32 {
	for range 8 {
		rest := v % 2
		v /= 2
		if rest == 1 {
			v ^= 3988292384
		}
	}
	return v
}

// crcByWords is the CRC by the chapter's words, with numbers too wide to wrap round.
func crcByWords(t [256]uint32, s uint32, b []byte) uint32 {
	v := math.MaxUint32 - uint64(s)
	for _, x := range b {
		v = v/256 ^ uint64(t[v%256^uint64(x)])
	}
	return uint32(math.MaxUint32 - v)
}

// adlerAtOnce is the Adler sum by how often each byte is in either half, brought under 65521 once, at the end.
func adlerAtOnce(s uint32, b []byte) uint32 {
	if len(b) == 0 {
		return s
	}
	n := uint64(len(b))
	low, high := uint64(s%65536), uint64(s/65536)+n*uint64(s%65536)
	for i, x := range b {
		low += uint64(x)
		high += (n - uint64(i)) * uint64(x)
	}
	return uint32(high%65521*65536 + low%65521)
}

// flip is b with the bits from at on, the lowest first, that mask sets, the other way.
func flip(b []byte, at int, mask uint32) []byte {
	turned := bytes.Clone(b)
	for i := range 32 {
		if mask>>i&1 == 1 {
			turned[(at+i)/8] ^= 1 << ((at + i) % 8)
		}
	}
	return turned
}

// P2.1: the table's numbers, each of which comes of its place by eight steps.
func TestTable(t *testing.T) {
	table := sums.Table()
	for i, v := range table {
		if want := halved(uint32(i)); v != want {
			t.Error(i, v, want)
		}
	}
	if table != [256]uint32(*crc32.MakeTable(crc32.IEEE)) {
		t.Error("the table is not that of others")
	}
}

// P2.1: the CRC of bytes alone, and behind sums, by the table.
func TestCrc(t *testing.T) {
	table := sums.Table()
	for i, b := range texts() {
		if v, want := sums.Crc(table, 0, b), crc32.ChecksumIEEE(b); v != want {
			t.Error(i, v, want)
		}
		for _, s := range starts() {
			if v, want := sums.Crc(table, s, b), crc32.Update(s, crc32.IEEETable, b); v != want {
				t.Fatal(i, s, v, want)
			}
		}
	}
}

// P2.1: the CRC goes by the numbers of the table that it is given, whatever they are.
func TestCrcOfAnyTable(t *testing.T) {
	c := chance(1)
	var all, places [256]uint32
	for i := range all {
		all[i] = math.MaxUint32
		places[i] = uint32(i)
	}
	for i, table := range [][256]uint32{{}, all, places, c.table(), c.table(), [256]uint32(*crc32.MakeTable(crc32.Castagnoli)), {255: 1}, {0: 1 << 31}} {
		for j, b := range texts() {
			for _, s := range starts()[:40] {
				if v, want := sums.Crc(table, s, b), crcByWords(table, s, b); v != want {
					t.Fatal(i, j, s, v, want)
				}
			}
		}
	}
}

// P2.1: a table that is all noughts leaves of a sum what stands above the bytes that were read, turned about.
func TestCrcOfNoughts(t *testing.T) {
	for i, want := range []uint32{0x12345678, 0xFF123456, 0xFFFF1234, 0xFFFFFF12, 0xFFFFFFFF, 0xFFFFFFFF} {
		if v := sums.Crc([256]uint32{}, 0x12345678, make([]byte, i)); v != want {
			t.Error(i, v, want)
		}
	}
}

// P2.1: the Adler sum of bytes alone, and behind any sum.
func TestAdler(t *testing.T) {
	for i, b := range texts() {
		if v, want := sums.Adler(1, b), adler32.Checksum(b); v != want {
			t.Error(i, v, want)
		}
		for _, s := range starts() {
			if v, want := sums.Adler(s, b), adlerAtOnce(s, b); v != want {
				t.Fatal(i, s, v, want)
			}
		}
	}
}

// P2.1: halves that just reach 65521, that are it, and that are above it.
func TestAdlerAboutItsBase(t *testing.T) {
	for i, x := range []struct {
		s    uint32
		b    []byte
		want uint32
	}{
		{65520, []byte{0}, 65520*65536 + 65520},
		{65520, []byte{1}, 0},
		{65520, []byte{2}, 65536 + 1},
		{65521, []byte{0}, 0},
		{65521, []byte{1}, 65536 + 1},
		{65535, []byte{0}, 14*65536 + 14},
		{65535, []byte{255}, 269*65536 + 269},
		{65520*65536 + 1, []byte{0}, 1},
		{65520*65536 + 2, []byte{0}, 65536 + 2},
		{65521 * 65536, []byte{0}, 0},
		{65535 * 65536, []byte{0}, 14 * 65536},
		{65535*65536 + 65520, []byte{0}, 13*65536 + 65520},
		{math.MaxUint32, []byte{255}, 283*65536 + 269},
		{65521, nil, 65521},
		{65521 * 65536, []byte{}, 65521 * 65536},
		{math.MaxUint32, nil, math.MaxUint32},
	} {
		if v := sums.Adler(x.s, x.b); v != x.want {
			t.Error(i, v, x.want)
		}
	}
}

// P2.1: as many bytes as may be handed in as one, and more, so that what isn't brought under 65521 would wrap round.
func TestLongTexts(t *testing.T) {
	table := sums.Table()
	c := chance(2)
	for i, b := range [][]byte{c.bytes(1 << 17), bytes.Repeat([]byte{255}, 1<<17), bytes.Repeat([]byte{255}, 1<<22), make([]byte, 1<<22)} {
		if v, want := sums.Crc(table, 0, b), crc32.ChecksumIEEE(b); v != want {
			t.Error(i, v, want)
		}
		if v, want := sums.Adler(1, b), adler32.Checksum(b); v != want {
			t.Error(i, v, want)
		}
		if v, want := sums.Adler(math.MaxUint32, b), adlerAtOnce(math.MaxUint32, b); v != want {
			t.Error(i, v, want)
		}
	}
}

// P2.2: neither the bytes nor the memory behind them is written to, nor is the table, and a second call answers the same.
func TestReadingChangesNothing(t *testing.T) {
	c := chance(3)
	memory := c.bytes(100)
	before := bytes.Clone(memory)
	table := c.table()
	kept := table
	crc, adler := sums.Crc(table, 5, memory[10:60]), sums.Adler(5, memory[10:60])
	for range 3 {
		if v := sums.Crc(table, 5, memory[10:60]); v != crc {
			t.Error(v, crc)
		}
		if v := sums.Adler(5, memory[10:60]); v != adler {
			t.Error(v, adler)
		}
	}
	if !bytes.Equal(memory, before) || table != kept {
		t.Error("what was handed in is not as it was")
	}
}

// P2.2: a table that was answered is its caller's: what becomes of it shows in no other one.
func TestTablesAreApart(t *testing.T) {
	first := sums.Table()
	kept := first
	for i := range first {
		first[i] = 0
	}
	if sums.Table() != kept {
		t.Error("a table goes with one that was answered ahead of it")
	}
}

// P2.3: cut at each place, the sum of the second part behind that of the first one is that of the whole.
func TestSumsOfTwoParts(t *testing.T) {
	c := chance(4)
	b := append(c.bytes(90), bytes.Repeat([]byte{255}, 300)...)
	for _, table := range [][256]uint32{sums.Table(), c.table()} {
		for _, s := range starts() {
			crc, adler := sums.Crc(table, s, b), sums.Adler(s, b)
			for k := 0; k <= len(b); k++ {
				if v := sums.Crc(table, sums.Crc(table, s, b[:k]), b[k:]); v != crc {
					t.Fatal(s, k, v, crc)
				}
				if v := sums.Adler(sums.Adler(s, b[:k]), b[k:]); v != adler {
					t.Fatal(s, k, v, adler)
				}
			}
		}
	}
}

// P2.3: up to 32 bits side by side, from each bit on, of which some differ.
func TestCrcOfBitsSideBySide(t *testing.T) {
	table := sums.Table()
	c := chance(5)
	for _, s := range []uint32{0, 1, math.MaxUint32} {
		b := c.bytes(12)
		sum := sums.Crc(table, s, b)
		for at := 0; at+32 <= 8*len(b); at++ {
			masks := []uint32{1, 1 << 31, math.MaxUint32, 1<<31 + 1, 0xEDB88320, 0x04C11DB7}
			for i := range 32 {
				masks = append(masks, 1<<i, math.MaxUint32>>i, c.next(), c.next()>>i|1)
			}
			for m := range uint32(256) {
				masks = append(masks, m+1, (m+1)<<23)
			}
			for _, mask := range masks {
				if mask != 0 && sums.Crc(table, s, flip(b, at, mask)) == sum {
					t.Fatal(s, at, mask)
				}
			}
		}
	}
}

// P2.3: one byte that is another one, at each place, of texts that reach up to 65521 and beyond.
func TestAdlerOfOneByte(t *testing.T) {
	c := chance(6)
	for _, b := range [][]byte{{0}, {255}, c.bytes(9), bytes.Repeat([]byte{255}, 300), make([]byte, 300), c.bytes(600)} {
		for _, s := range []uint32{1, 0, 65520, 65521, math.MaxUint32} {
			sum := sums.Adler(s, b)
			for at := 0; at < len(b); at += 1 + len(b)/20 {
				for more := 1; more < 256; more++ {
					other := bytes.Clone(b)
					other[at] += byte(more)
					if sums.Adler(s, other) == sum {
						t.Fatal(len(b), s, at, more)
					}
				}
			}
		}
	}
}

// The chapter's examples.
func TestExamples(t *testing.T) {
	table := sums.Table()
	digits := []byte("123456789")
	for i, x := range [][2]uint32{
		{table[0], 0}, {table[1], 1996959894}, {table[128], 3988292384}, {table[255], 755167117},
		{sums.Crc(table, 0, digits), 3421780262}, {sums.Crc(table, 0, nil), 0},
		{sums.Adler(1, digits), 152961502}, {sums.Adler(1, nil), 1}, {sums.Adler(0, []byte{7}), 458759},
	} {
		if x[0] != x[1] {
			t.Error(i, x[0], x[1])
		}
	}
}
