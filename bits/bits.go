// Package bits is layer 1, bits in bytes, the lowest first: see shared/doc/01-bits.md.
package bits

import "bellows/api"

// widest is how many bits a number has at most.
const widest = 32

// Take is the number of n bits of b from at on.
func Take(b []byte, at, n int) (uint32, api.Errno) {
	if at < 0 || n < 0 || n > widest {
		return 0, api.ErrArg
	}
	// Unsigned, lest the sum of a place far behind the end and n wrap round.
	if uint64(at)+uint64(n) > 8*uint64(len(b)) {
		return 0, api.ErrEnd
	}
	var v uint32
	for i := range n {
		v |= bit(b, at+i) << i
	}
	return v, api.OK
}

// Check tells whether p may be.
func Check(p api.Pen) api.Errno {
	if p.Bits < 0 || p.Bits > api.MaxBits || len(p.Bytes) != need(p.Bits) {
		return api.ErrBad
	}
	if used := p.Bits % 8; used > 0 && p.Bytes[len(p.Bytes)-1]>>used != 0 {
		return api.ErrBad
	}
	return api.OK
}

// Put is p with the n bits of v behind its own.
func Put(p api.Pen, v uint32, n int) (api.Pen, api.Errno) {
	if e := Check(p); e != api.OK {
		return api.Pen{}, e
	}
	if !fits(v, n) {
		return api.Pen{}, api.ErrArg
	}
	if p.Bits+n > api.MaxBits {
		return api.Pen{}, api.ErrFull
	}
	return write(p, v, n), api.OK
}

// Align is p with noughts behind its bits, up to the next whole byte.
func Align(p api.Pen) (api.Pen, api.Errno) {
	if e := Check(p); e != api.OK {
		return api.Pen{}, e
	}
	return write(p, 0, 8*len(p.Bytes)-p.Bits), api.OK
}

// Turn is the number whose n bits are those of v the other way round.
func Turn(v uint32, n int) (uint32, api.Errno) {
	if !fits(v, n) {
		return 0, api.ErrArg
	}
	var turned uint32
	for i := range n {
		turned = turned<<1 | v>>i&1
	}
	return turned, api.OK
}

// fits tells whether n bits may be, and v has no more.
func fits(v uint32, n int) bool {
	return n >= 0 && n <= widest && v>>n == 0
}

// need is how many bytes some bits need.
func need(bits int) int {
	return (bits + 7) / 8
}

// bit is the bit i of b.
func bit(b []byte, i int) uint32 {
	return uint32(b[i/8]>>(i%8)) & 1
}

// writing is a pen under way, in memory that nobody else has.
type writing struct {
	api.Pen
}

// begin copies p, as what is handed in is only read, with room for n bits more.
func begin(p api.Pen, n int) writing {
	b := make([]byte, need(p.Bits+n))
	copy(b, p.Bytes)
	return writing{Pen: api.Pen{Bytes: b, Bits: p.Bits}}
}

// push puts one bit behind the others, where begin left room.
func (w *writing) push(one uint32) {
	w.Bytes[w.Bits/8] |= byte(one) << (w.Bits % 8)
	w.Bits++
}

// write is p with the n bits of v behind its own; both fit.
func write(p api.Pen, v uint32, n int) api.Pen {
	w := begin(p, n)
	for i := range n {
		w.push(v >> i & 1)
	}
	return w.Pen
}
