package plain_test

import (
	"slices"
	"strings"

	"bellows/api"
)

// The least length and the least distance of each symbol, from 257 and from 0 on, and the extra bits of each, one by one, so that they share nothing with the program.
var (
	longLeast = []int{3, 4, 5, 6, 7, 8, 9, 10, 11, 13, 15, 17, 19, 23, 27, 31, 35, 43, 51, 59, 67, 83, 99, 115, 131, 163, 195, 227, 258}
	longExtra = []int{0, 0, 0, 0, 0, 0, 0, 0, 1, 1, 1, 1, 2, 2, 2, 2, 3, 3, 3, 3, 4, 4, 4, 4, 5, 5, 5, 5, 0}
	farLeast  = []int{1, 2, 3, 4, 5, 7, 9, 13, 17, 25, 33, 49, 65, 97, 129, 193, 257, 385, 513, 769, 1025, 1537, 2049, 3073, 4097, 6145, 8193, 12289, 16385, 24577}
	farExtra  = []int{0, 0, 0, 0, 1, 1, 2, 2, 3, 3, 4, 4, 5, 5, 6, 6, 7, 7, 8, 8, 9, 9, 10, 10, 11, 11, 12, 12, 13, 13}
	runExtra  = []int{0, 0, 0, 0, 0, 0, 0, 0, 0, 0, 0, 0, 0, 0, 0, 0, 2, 3, 7}
	order     = []int{16, 17, 18, 0, 8, 7, 9, 6, 10, 5, 11, 4, 12, 3, 13, 2, 14, 1, 15}
)

// low is a number's bits as a text, the lowest one first.
func low(v, n int) string {
	var b strings.Builder
	for range n {
		b.WriteByte('0' + byte(v&1))
		v >>= 1
	}
	return b.String()
}

// text is the bits of some bytes as a text.
func text(b []byte) string {
	var t strings.Builder
	for _, x := range b {
		t.WriteString(low(int(x), 8))
	}
	return t.String()
}

// packed is a text's bits as bytes, noughts behind them.
func packed(t string) []byte {
	b := make([]byte, (len(t)+7)/8)
	for i := range len(t) {
		b[i/8] |= (t[i] - '0') << (i % 8)
	}
	return b
}

// codes are the codes of lengths as texts, the highest bit first: counted up by length, then by symbol.
func codes(lengths []uint8) []string {
	texts := make([]string, len(lengths))
	code := 0
	for long := 1; long <= 15; long++ {
		code *= 2
		for sym, n := range lengths {
			if int(n) == long {
				b := []byte(low(code, long))
				slices.Reverse(b)
				texts[sym] = string(b)
				code++
			}
		}
	}
	return texts
}

// may tells whether lengths may be, for most bits at most, by the words of chapter 3.
func may(lengths []uint8, most int) bool {
	parts, many, sum := 0, 0, 0
	for _, n := range lengths {
		if int(n) > most {
			return false
		}
		if n > 0 {
			parts += 1 << (15 - n)
			many++
			sum += int(n)
		}
	}
	return len(lengths) <= 320 && (parts == 1<<15 || many == 0 || many == 1 && sum == 1)
}

// grown is the tree of lengths, by the words of chapter 5.
func grown(lengths []uint8) api.Tree {
	var t api.Tree
	for long := 1; long <= 15; long++ {
		for sym, n := range lengths {
			if int(n) == long {
				t.Count[long]++
				t.Syms = append(t.Syms, sym)
			}
		}
	}
	return t
}

// book tells of each row of bits, a one ahead of it as its number: below 0, that codes begin with it; above, that it is the code of the symbol one less.
type book map[int]int

// bookOf is the book of lengths.
func bookOf(lengths []uint8) book {
	b := book{}
	for sym, code := range codes(lengths) {
		row := 1
		for _, bit := range code {
			b[row] = -1
			row = 2*row + int(bit-'0')
		}
		if code != "" {
			b[row] = sym + 1
		}
	}
	return b
}

// open is a block that is open, by the chapter's words.
type open struct {
	kind        int
	last        bool
	left        int
	longs, fars []uint8
	// The books of these lengths.
	long, far book
}

// block is it as the program tells it.
func (k open) block() api.Block {
	return api.Block{Kind: uint8(k.kind), Last: k.last, Left: k.left, Longs: grown(k.longs), Fars: grown(k.fars)}
}

// opened is a block with its books.
func opened(k open) open {
	k.long, k.far = bookOf(k.longs), bookOf(k.fars)
	return k
}

// fixed are the fixed lengths, by the words of chapter 11.
func fixed() (longs, fars []uint8) {
	for sym := range 288 {
		switch {
		case sym <= 143 || sym >= 280:
			longs = append(longs, 8)
		case sym <= 255:
			longs = append(longs, 9)
		default:
			longs = append(longs, 7)
		}
	}
	return longs, slices.Repeat([]uint8{5}, 32)
}

// fixedBlock is a fixed block that is open, made once, as its books are great.
var fixedBlock = func() open {
	longs, fars := fixed()
	return opened(open{kind: 1, longs: longs, fars: fars})
}()

// words reads bits by the chapter's words; an error is thrown.
type words struct {
	bits string
	at   int
}

// ask throws e, unless all is well.
func ask(well bool, e api.Errno) {
	if !well {
		panic(e)
	}
}

// caught is what was thrown.
func caught(e *api.Errno) {
	if x := recover(); x != nil {
		*e = x.(api.Errno)
	}
}

func (w *words) take(n int) int {
	ask(w.at+n <= len(w.bits), api.ErrEnd)
	v := 0
	for i := range n {
		v |= int(w.bits[w.at+i]-'0') << i
	}
	w.at += n
	return v
}

func (w *words) symbol(b book) int {
	row := 1
	for {
		if b[row] > 0 {
			return b[row] - 1
		}
		ask(b[row] < 0, api.ErrCode)
		row = 2*row + w.take(1)
	}
}

func (w *words) head() open {
	last := w.take(1) == 1
	k := open{kind: w.take(2)}
	ask(k.kind != 3, api.ErrKind)
	switch k.kind {
	case 0:
		for w.at%8 != 0 {
			w.at++
		}
		k.left = w.take(16)
		ask(w.take(16) == 65535-k.left, api.ErrStored)
	case 1:
		k = fixedBlock
	case 2:
		k.longs, k.fars = w.table()
		k = opened(k)
	}
	k.last = last
	return k
}

func (w *words) table() (longs, fars []uint8) {
	l := 257 + w.take(5)
	f := 1 + w.take(5)
	s := 4 + w.take(4)
	ask(l <= 286 && f <= 30, api.ErrTable)
	shorts := make([]uint8, 19)
	for _, sym := range order[:s] {
		shorts[sym] = uint8(w.take(3))
	}
	ask(may(shorts, 7) && len(grown(shorts).Syms) >= 2, api.ErrTable)
	short := bookOf(shorts)
	var all []uint8
	for len(all) < l+f {
		sym := w.symbol(short)
		extra := w.take(runExtra[sym])
		switch {
		case sym < 16:
			all = append(all, uint8(sym))
		case sym == 16:
			ask(len(all) > 0, api.ErrTable)
			all = append(all, slices.Repeat(all[len(all)-1:], 3+extra)...)
		case sym == 17:
			all = append(all, make([]uint8, 3+extra)...)
		default:
			all = append(all, make([]uint8, 11+extra)...)
		}
		ask(len(all) <= l+f, api.ErrTable)
	}
	longs, fars = all[:l], all[l:]
	ask(may(longs, 15) && longs[256] > 0 && may(fars, 15), api.ErrTable)
	return longs, fars
}

func (w *words) step(k open) (t api.Token, end bool) {
	if k.kind == 0 {
		if k.left == 0 {
			return t, true
		}
		t.Lit = uint8(w.take(8))
		return t, false
	}
	sym := w.symbol(k.long)
	if sym < 256 {
		t.Lit = uint8(sym)
		return t, false
	}
	if sym == 256 {
		return t, true
	}
	ask(sym <= 285, api.ErrSym)
	extra := w.take(longExtra[sym-257])
	t.Long = longLeast[sym-257] + extra
	ask(sym != 284 || extra != 31, api.ErrSym)
	sym = w.symbol(k.far)
	ask(sym <= 29, api.ErrSym)
	t.Dist = farLeast[sym] + w.take(farExtra[sym])
	return t, false
}

// headOf, stepOf and tellOf are the chapter's words of what bits tell from a place on.
func headOf(bits string, at int) (k open, next int, e api.Errno) {
	defer caught(&e)
	w := words{bits, at}
	k = w.head()
	return k, w.at, api.OK
}

func stepOf(k open, bits string, at int) (t api.Token, end bool, next int, e api.Errno) {
	defer caught(&e)
	w := words{bits, at}
	t, end = w.step(k)
	return t, end, w.at, api.OK
}

// tellOf answers what was told by whole steps beside an error, too.
func tellOf(bits string, at, most int) (told []byte, next int, e api.Errno) {
	defer caught(&e)
	w := words{bits, at}
	for {
		k := w.head()
		for {
			t, end := w.step(k)
			if end {
				break
			}
			k.left--
			if t.Long == 0 {
				ask(len(told) < most, api.ErrLimit)
				told = append(told, t.Lit)
				continue
			}
			ask(t.Dist <= len(told), api.ErrDist)
			ask(len(told)+t.Long <= most, api.ErrLimit)
			for range t.Long {
				told = append(told, told[len(told)-t.Dist])
			}
		}
		if k.last {
			return told, w.at, api.OK
		}
	}
}
