package bits_test

import (
	"bytes"
	"math"
	mathbits "math/bits"
	"testing"

	"bellows/api"
	"bellows/bits"
)

// row lists the bits of b by the chapter's words, by reckoning and not by shifts, so that it shares nothing with the package.
func row(b []byte) []int {
	var l []int
	for _, x := range b {
		for range 8 {
			l = append(l, int(x)%2)
			x /= 2
		}
	}
	return l
}

// number is the number whose lowest bit is the first one of l.
func number(l []int) uint32 {
	v, worth := uint64(0), uint64(1)
	for _, one := range l {
		v += uint64(one) * worth
		worth *= 2
	}
	return uint32(v)
}

// pack lays the bits of l into as many bytes as they need.
func pack(l []int) []byte {
	b := make([]byte, 0, len(l)/8+1)
	for i := 0; i < len(l); i += 8 {
		b = append(b, byte(number(l[i:min(i+8, len(l))])))
	}
	return b
}

// pen is the pen of the bits of l.
func pen(l []int) api.Pen {
	return api.Pen{Bytes: pack(l), Bits: len(l)}
}

// chance gives numbers that look like chance and are always the same.
type chance uint64

func (c *chance) next() uint32 {
	*c ^= *c << 13
	*c ^= *c >> 7
	*c ^= *c << 17
	return uint32(*c >> 16)
}

func (c *chance) row(n int) []int {
	l := make([]int, n)
	for i := range l {
		l[i] = int(c.next() % 2)
	}
	return l
}

// low is the lowest n bits of v.
func low(v uint32, n int) uint32 {
	return uint32(uint64(v) % (1 << n))
}

func same(a, b api.Pen) bool {
	return a.Bits == b.Bits && bytes.Equal(a.Bytes, b.Bytes)
}

func zero(p api.Pen) bool {
	return p.Bits == 0 && p.Bytes == nil
}

// full is a pen of n bits, none of them set.
func full(n int) api.Pen {
	return api.Pen{Bytes: make([]byte, (n+7)/8), Bits: n}
}

// badPens are pens that may not be.
func badPens() []api.Pen {
	return []api.Pen{
		{Bits: 1},
		{Bits: 8},
		{Bytes: []byte{0}},
		{Bytes: []byte{}, Bits: -1},
		{Bits: -7},
		{Bits: -8},
		{Bytes: []byte{0}, Bits: -8},
		{Bits: math.MinInt},
		{Bits: math.MaxInt},
		{Bytes: []byte{0}, Bits: 9},
		{Bytes: []byte{0, 0}, Bits: 8},
		{Bytes: []byte{2}, Bits: 1},
		{Bytes: []byte{128}, Bits: 7},
		{Bytes: []byte{255, 4}, Bits: 10},
		full(api.MaxBits + 1),
		full(api.MaxBits + 8),
	}
}

// P1.1: each number of bits, from each place on, also where it is just behind the end.
func TestTakeIsTheBitsThere(t *testing.T) {
	b := []byte{181, 3, 0, 255, 128, 1, 90, 77, 254}
	all := row(b)
	for at := 0; at <= len(all)+3; at++ {
		for n := 0; n <= 32; n++ {
			want, wantE := uint32(0), api.ErrEnd
			if at+n <= len(all) {
				want, wantE = number(all[at:at+n]), api.OK
			}
			if v, e := bits.Take(b, at, n); v != want || e != wantE {
				t.Fatalf("Take(b, %d, %d) is %d, %d, not %d, %d", at, n, v, e, want, wantE)
			}
		}
	}
}

// P1.1: of no bytes there are no bits, and the place behind none is one.
func TestTakeOfNoBytes(t *testing.T) {
	for _, b := range [][]byte{nil, {}} {
		if v, e := bits.Take(b, 0, 0); v != 0 || e != api.OK {
			t.Error(v, e)
		}
		for _, x := range [][2]int{{0, 1}, {1, 0}, {0, 32}} {
			if v, e := bits.Take(b, x[0], x[1]); v != 0 || e != api.ErrEnd {
				t.Error(x, v, e)
			}
		}
	}
}

// P1.1: numbers that may not be, and that ErrArg is named ahead of ErrEnd.
func TestTakeOfWrongNumbers(t *testing.T) {
	b := []byte{255, 255, 255, 255, 255}
	for i, x := range []struct {
		at, n int
		e     api.Errno
	}{
		{-1, 0, api.ErrArg}, {-1, 1, api.ErrArg}, {math.MinInt, 32, api.ErrArg}, {-8, 40, api.ErrArg},
		{0, -1, api.ErrArg}, {8, -8, api.ErrArg}, {0, 33, api.ErrArg}, {0, 40, api.ErrArg},
		{0, math.MinInt, api.ErrArg}, {0, math.MaxInt, api.ErrArg}, {math.MaxInt, math.MinInt, api.ErrArg},
		{41, 33, api.ErrArg}, {41, -1, api.ErrArg}, {math.MaxInt, 33, api.ErrArg},
		{40, 0, api.OK}, {41, 0, api.ErrEnd}, {40, 1, api.ErrEnd}, {9, 32, api.ErrEnd}, {8, 32, api.OK},
		{math.MaxInt, 0, api.ErrEnd}, {math.MaxInt, 1, api.ErrEnd}, {math.MaxInt - 31, 32, api.ErrEnd},
		{math.MaxInt / 8, 32, api.ErrEnd}, {math.MaxInt/8*8 + 7, 8, api.ErrEnd},
	} {
		if v, e := bits.Take(b, x.at, x.n); e != x.e || e != api.OK && v != 0 {
			t.Error(i, x, v, e)
		}
	}
}

// P1.1: only bytes up to the length count, not those that stand behind it in memory.
func TestTakeEndsAtTheLength(t *testing.T) {
	b := []byte{1, 2, 3}[:2]
	if v, e := bits.Take(b, 9, 8); v != 0 || e != api.ErrEnd {
		t.Error(v, e)
	}
}

// P1.1: every number of a few bits, and its bits the other way round.
func TestTurn(t *testing.T) {
	for n := 0; n <= 12; n++ {
		for v := range uint32(1) << n {
			l := row([]byte{byte(v % 256), byte(v / 256)})[:n]
			var back []int
			for i := n - 1; i >= 0; i-- {
				back = append(back, l[i])
			}
			if w, e := bits.Turn(v, n); w != number(back) || e != api.OK {
				t.Fatalf("Turn(%d, %d) is %d, %d, not %d", v, n, w, e, number(back))
			}
		}
	}
	c := chance(88172645463325252)
	for range 200 {
		for n := 13; n <= 32; n++ {
			v := low(c.next(), n)
			if w, e := bits.Turn(v, n); w != mathbits.Reverse32(v)>>(32-n) || e != api.OK {
				t.Fatalf("Turn(%d, %d) is %d, %d", v, n, w, e)
			}
		}
	}
}

// P1.1: as many bits as may be, numbers that just fit, and those that don't.
func TestTurnOfWrongNumbers(t *testing.T) {
	for n := 0; n <= 32; n++ {
		most := uint32(1<<n - 1)
		if w, e := bits.Turn(most, n); w != most || e != api.OK {
			t.Error(n, w, e)
		}
		if n == 32 {
			break
		}
		for _, v := range []uint32{most + 1, most + 2, 1 << 31, math.MaxUint32} {
			if w, e := bits.Turn(v, n); v > most && (w != 0 || e != api.ErrArg) {
				t.Error(n, v, w, e)
			}
		}
	}
	for _, n := range []int{-1, -32, 33, 64, math.MinInt, math.MaxInt} {
		for _, v := range []uint32{0, 1, math.MaxUint32} {
			if w, e := bits.Turn(v, n); w != 0 || e != api.ErrArg {
				t.Error(n, v, w, e)
			}
		}
	}
}

// P1.2: each number of bits with each number of bytes, and one bit set somewhere.
func TestCheckOfSmallPens(t *testing.T) {
	for n := -17; n <= 33; n++ {
		for long := range 6 {
			for set := -1; set < 8*long; set++ {
				b := make([]byte, long)
				if set >= 0 {
					b[set/8] = []byte{1, 2, 4, 8, 16, 32, 64, 128}[set%8]
				}
				want := api.ErrBad
				if n >= 0 && long*8 >= n && long*8-n < 8 && set < n {
					want = api.OK
				}
				if e := bits.Check(api.Pen{Bytes: b, Bits: n}); e != want {
					t.Fatalf("Check of %d bits, %v: %d, not %d", n, b, e, want)
				}
			}
		}
	}
}

// P1.2: pens at MaxBits, and those that may not be.
func TestCheckAtTheEnds(t *testing.T) {
	for _, n := range []int{0, api.MaxBits - 8, api.MaxBits - 7, api.MaxBits - 1, api.MaxBits} {
		if e := bits.Check(full(n)); e != api.OK {
			t.Error(n, e)
		}
	}
	whole := api.Pen{Bytes: bytes.Repeat([]byte{255}, api.MaxBits/8), Bits: api.MaxBits}
	if e := bits.Check(whole); e != api.OK {
		t.Error(e)
	}
	whole.Bits--
	if e := bits.Check(whole); e != api.ErrBad {
		t.Error(e)
	}
	for i, p := range badPens() {
		if e := bits.Check(p); e != api.ErrBad {
			t.Error(i, e)
		}
	}
}

// P1.2: numbers of each number of bits behind pens of each number of bits.
func TestPutIsTheBitsBehind(t *testing.T) {
	c := chance(1)
	for ahead := range 41 {
		for n := 0; n <= 32; n++ {
			l := c.row(ahead)
			for _, v := range []uint32{0, low(math.MaxUint32, n), low(c.next(), n), low(c.next(), n)} {
				want := append(append([]int{}, l...), row([]byte{byte(v % 256), byte(v / 256 % 256), byte(v / 65536 % 256), byte(v / 16777216)})[:n]...)
				p, e := bits.Put(pen(l), v, n)
				if e != api.OK || !same(p, pen(want)) {
					t.Fatalf("Put of %d in %d behind %v: %v, %d", v, n, l, p, e)
				}
			}
		}
	}
}

// P1.2: a number that has more bits than n, and numbers of bits that may not be.
func TestPutOfWrongNumbers(t *testing.T) {
	good := api.Pen{Bytes: []byte{5}, Bits: 3}
	for i, x := range []struct {
		v uint32
		n int
	}{
		{1, 0}, {math.MaxUint32, 0}, {2, 1}, {4, 2}, {256, 8}, {1 << 31, 31}, {math.MaxUint32, 31},
		{0, -1}, {1, -1}, {0, 33}, {1, 33}, {0, 64}, {0, math.MinInt}, {0, math.MaxInt}, {0, -3},
	} {
		if p, e := bits.Put(good, x.v, x.n); e != api.ErrArg || !zero(p) {
			t.Error(i, p, e)
		}
	}
}

// P1.2: the errors of Put in their order: ErrBad, ErrArg, ErrFull.
func TestPutTellsTheFirstError(t *testing.T) {
	for i, p := range badPens() {
		for _, n := range []int{0, 1, 32, 33, -1, math.MaxInt} {
			for _, v := range []uint32{0, 1, math.MaxUint32} {
				if q, e := bits.Put(p, v, n); e != api.ErrBad || !zero(q) {
					t.Error(i, v, n, e)
				}
			}
		}
	}
	for i, x := range []struct {
		ahead int
		v     uint32
		n     int
		e     api.Errno
	}{
		{api.MaxBits, 0, 0, api.OK}, {api.MaxBits, 0, 1, api.ErrFull}, {api.MaxBits, 1, 1, api.ErrFull},
		{api.MaxBits, 0, 32, api.ErrFull}, {api.MaxBits, 2, 1, api.ErrArg}, {api.MaxBits, 1, 0, api.ErrArg},
		{api.MaxBits, 0, 33, api.ErrArg}, {api.MaxBits, 0, -1, api.ErrArg}, {api.MaxBits, 0, math.MaxInt, api.ErrArg},
		{api.MaxBits - 1, 1, 1, api.OK}, {api.MaxBits - 1, 0, 2, api.ErrFull}, {api.MaxBits - 1, 4, 2, api.ErrArg},
		{api.MaxBits - 32, math.MaxUint32, 32, api.OK}, {api.MaxBits - 31, 0, 32, api.ErrFull}, {api.MaxBits - 31, 0, 31, api.OK},
	} {
		p, e := bits.Put(full(x.ahead), x.v, x.n)
		if e != x.e || e != api.OK && !zero(p) {
			t.Error(i, x, e)
		}
		if e != api.OK {
			continue
		}
		if v, e := bits.Take(p.Bytes, x.ahead, x.n); p.Bits != x.ahead+x.n || v != x.v || e != api.OK {
			t.Error(i, x, p.Bits, v, e)
		}
	}
}

// P1.2: noughts up to the next whole byte, and none behind a whole one.
func TestAlign(t *testing.T) {
	c := chance(2)
	for n := range 50 {
		l := c.row(n)
		want := append([]int{}, l...)
		for len(want)%8 != 0 {
			want = append(want, 0)
		}
		if p, e := bits.Align(pen(l)); e != api.OK || !same(p, pen(want)) {
			t.Error(n, p, e)
		}
	}
	for _, n := range []int{api.MaxBits - 8, api.MaxBits - 7, api.MaxBits - 1, api.MaxBits} {
		p, e := bits.Align(full(n))
		if e != api.OK || p.Bits != len(p.Bytes)*8 || p.Bits != (n+7)/8*8 {
			t.Error(n, p.Bits, len(p.Bytes), e)
		}
	}
	for i, p := range badPens() {
		if q, e := bits.Align(p); e != api.ErrBad || !zero(q) {
			t.Error(i, e)
		}
	}
}

// P1.3: nothing that is handed in is written to, not even the memory behind its length, and what is answered shares none with it.
func TestNothingIsShared(t *testing.T) {
	c := chance(3)
	for n := range 33 {
		for ahead := range 25 {
			memory := bytes.Repeat([]byte{255}, 12)
			p := pen(c.row(ahead))
			p.Bytes = append(memory[:0], p.Bytes...)
			before := bytes.Clone(memory)
			put, e := bits.Put(p, low(math.MaxUint32, n), n)
			again, _ := bits.Put(p, low(math.MaxUint32, n), n)
			flat, f := bits.Align(p)
			if e != api.OK || f != api.OK {
				t.Fatal(e, f)
			}
			kept := bytes.Clone(again.Bytes)
			for _, b := range [][]byte{put.Bytes, flat.Bytes} {
				b = b[:cap(b)]
				for i := range b {
					b[i] ^= 170
				}
			}
			if !bytes.Equal(memory, before) || !bytes.Equal(again.Bytes, kept) {
				t.Fatalf("%d bits behind %d: memory is shared", n, ahead)
			}
			for i := range memory {
				memory[i] = 85
			}
			if !bytes.Equal(again.Bytes, kept) {
				t.Fatalf("%d bits behind %d: the answer goes with what was handed in", n, ahead)
			}
		}
	}
}

// P1.3: reading leaves everything as it was, and a second call answers the same.
func TestReadingChangesNothing(t *testing.T) {
	b := []byte{181, 3, 77, 2}
	p := api.Pen{Bytes: b, Bits: 26}
	for range 2 {
		if v, e := bits.Take(b, 3, 20); v != number(row(b)[3:23]) || e != api.OK {
			t.Error(v, e)
		}
		if e := bits.Check(p); e != api.OK {
			t.Error(e)
		}
	}
	if !bytes.Equal(b, []byte{181, 3, 77, 2}) || p.Bits != 26 {
		t.Error(b, p.Bits)
	}
}

// P1.4: a row of numbers is taken where it was put, whatever came behind.
func TestWhatWasPutIsTaken(t *testing.T) {
	c := chance(4)
	type put struct {
		v     uint32
		at, n int
	}
	var all []put
	var p api.Pen
	for range 300 {
		n := int(c.next() % 33)
		x := put{low(c.next(), n), p.Bits, n}
		q, e := bits.Put(p, x.v, x.n)
		if e != api.OK || bits.Check(q) != api.OK || q.Bits != p.Bits+n {
			t.Fatal(x, q.Bits, e)
		}
		all = append(all, x)
		p = q
	}
	for _, x := range all {
		if v, e := bits.Take(p.Bytes, x.at, x.n); v != x.v || e != api.OK {
			t.Fatal(x, v, e)
		}
	}
	flat, e := bits.Align(p)
	if e != api.OK || flat.Bits%8 != 0 || !bytes.Equal(flat.Bytes, p.Bytes) {
		t.Error(flat.Bits, e)
	}
}

// P1.4: two parts, the lower one first, are the whole.
func TestPutInTwoParts(t *testing.T) {
	c := chance(5)
	for ahead := range 9 {
		p := pen(c.row(ahead))
		for n := 0; n <= 32; n++ {
			v := low(c.next(), n)
			want, e := bits.Put(p, v, n)
			if e != api.OK {
				t.Fatal(e)
			}
			for k := 0; k <= n; k++ {
				q, e := bits.Put(p, low(v, k), k)
				if e != api.OK {
					t.Fatal(e)
				}
				q, e = bits.Put(q, uint32(uint64(v)/(1<<k)), n-k)
				if e != api.OK || !same(q, want) {
					t.Fatalf("%d in %d and %d bits behind %d: %v, not %v", v, k, n-k, ahead, q, want)
				}
			}
		}
	}
}

// P1.4: turned twice, a number is as it was.
func TestTurnTwice(t *testing.T) {
	c := chance(6)
	for range 100 {
		for n := 0; n <= 32; n++ {
			v := low(c.next(), n)
			w, e := bits.Turn(v, n)
			back, f := bits.Turn(w, n)
			if e != api.OK || f != api.OK || back != v {
				t.Fatal(v, n, w, back, e, f)
			}
		}
	}
}

// P1: no call panics, and with an error every other result is the zero value, at arguments of all kinds.
func TestNoCallPanics(t *testing.T) {
	numbers := []int{math.MinInt, math.MinInt + 1, -1 << 32, -33, -32, -8, -1, 0, 1, 7, 8, 9, 31, 32, 33, 63, 64, 65, 1 << 31, 1 << 32, 1 << 60, math.MaxInt - 32, math.MaxInt - 1, math.MaxInt}
	values := []uint32{0, 1, 2, 128, 1 << 31, math.MaxUint32}
	rows := [][]byte{nil, {}, {0}, {255}, {1, 2, 3, 4, 5, 6, 7, 8, 9}}
	for _, n := range numbers {
		for _, v := range values {
			if w, e := bits.Turn(v, n); e != api.OK && w != 0 {
				t.Error(v, n, w, e)
			}
		}
		for _, b := range rows {
			for _, at := range numbers {
				if v, e := bits.Take(b, at, n); e != api.OK && v != 0 {
					t.Error(b, at, n, v, e)
				}
			}
			for _, held := range numbers {
				p := api.Pen{Bytes: b, Bits: held}
				good := bits.Check(p)
				if q, e := bits.Align(p); e != good || e != api.OK && !zero(q) {
					t.Error(p, q, e)
				}
				for _, v := range values {
					q, e := bits.Put(p, v, n)
					if good != api.OK && e != good || e != api.OK && !zero(q) || e == api.OK && bits.Check(q) != api.OK {
						t.Error(p, v, n, q, e)
					}
				}
			}
		}
	}
}

// The chapter's examples.
func TestExamples(t *testing.T) {
	b := []byte{181, 3}
	for i, x := range []struct {
		at, n int
		v     uint32
		e     api.Errno
	}{{0, 3, 5, api.OK}, {4, 6, 59, api.OK}, {16, 0, 0, api.OK}, {9, 8, 0, api.ErrEnd}, {-1, 1, 0, api.ErrArg}, {0, 33, 0, api.ErrArg}} {
		if v, e := bits.Take(b, x.at, x.n); v != x.v || e != x.e {
			t.Error(i, v, e)
		}
	}
	p, e := bits.Put(api.Pen{}, 5, 3)
	if e != api.OK {
		t.Fatal(e)
	}
	p, e = bits.Put(p, 3, 7)
	if e != api.OK || !same(p, api.Pen{Bytes: []byte{29, 0}, Bits: 10}) {
		t.Error(p, e)
	}
	if p, e = bits.Align(p); e != api.OK || p.Bits != 16 {
		t.Error(p, e)
	}
	if v, e := bits.Turn(1, 3); v != 4 || e != api.OK {
		t.Error(v, e)
	}
	if v, e := bits.Turn(2, 1); v != 0 || e != api.ErrArg {
		t.Error(v, e)
	}
	if p, e := bits.Put(api.Pen{}, 4, 2); e != api.ErrArg || !zero(p) {
		t.Error(p, e)
	}
}
