package press_test

import (
	"bytes"
	"compress/flate"
	"io"
	"math"
	"slices"
	"strings"
	"testing"

	"bellows/api"
	"bellows/block"
	"bellows/press"
	"bellows/token"
)

// whole is the chapter's words without pieces: all bytes, those of the beginning's Hist first; how many of them went into blocks; all bits, those of the beginning's Pen first; and how many of their bytes went out.
type whole struct {
	s    api.Style
	all  []byte
	gone int
	pen  api.Pen
	sent int
	over bool
}

// from is what bytes under way begin with.
func from(p api.Press) *whole {
	return &whole{s: p.Style, all: slices.Concat(p.Hist, p.Wait), gone: len(p.Hist), pen: p.Pen, over: p.Over}
}

// press is it as bytes under way.
func (w *whole) press() api.Press {
	rest := api.Pen{Bytes: w.pen.Bytes[w.pen.Bits/8:], Bits: w.pen.Bits % 8}
	return api.Press{Style: w.s, Hist: w.all[max(0, w.gone-w.s.Size):w.gone], Wait: w.all[w.gone:], Pen: rest, Over: w.over}
}

// out is the whole bytes that went out since it was asked last.
func (w *whole) out() []byte {
	b := w.pen.Bytes[w.sent : w.pen.Bits/8]
	w.sent = w.pen.Bits / 8
	return b
}

// kinds are all bits with a block of each kind behind them, of the n bytes that wait first.
func (w *whole) kinds(n int, last bool) [3]api.Pen {
	low := max(0, w.gone-w.s.Size)
	raw := w.all[w.gone : w.gone+n]
	l, e := token.Cut(w.all[low:w.gone+n], w.gone-low, w.s)
	if e != api.OK {
		panic(e)
	}
	var pens [3]api.Pen
	for kind := range pens {
		if pens[kind], e = block.Write(w.pen, uint8(kind), raw, l, last); e != api.OK {
			panic(e)
		}
	}
	return pens
}

// best puts a block of the kind that is shortest, of several the lowest.
func (w *whole) best(n int, last bool) {
	pens := w.kinds(n, last)
	w.pen = pens[0]
	for _, p := range pens[1:] {
		if p.Bits < w.pen.Bits {
			w.pen = p
		}
	}
	w.gone += n
}

// write is the words of P12.2.
func (w *whole) write(b []byte) []byte {
	w.all = slices.Concat(w.all, b)
	for len(w.all)-w.gone >= w.s.Most {
		w.best(w.s.Most, false)
	}
	return w.out()
}

// whole bits are p, or, if it ends amid a byte, p with an empty stored block behind it.
func wholeBits(p api.Pen) api.Pen {
	if p.Bits%8 != 0 {
		p, _ = block.Write(p, 0, nil, nil, false)
	}
	return p
}

// flush is the words of a flush.
func (w *whole) flush() []byte {
	n := len(w.all) - w.gone
	if n == 0 {
		w.pen = wholeBits(w.pen)
		return w.out()
	}
	pens := w.kinds(n, false)
	coded := pens[1]
	if pens[2].Bits < coded.Bits {
		coded = pens[2]
	}
	coded = wholeBits(coded)
	if coded.Bits < pens[0].Bits {
		w.pen = coded
	} else {
		w.pen = pens[0]
	}
	w.gone += n
	return w.out()
}

// finish is the words of the end.
func (w *whole) finish() []byte {
	w.best(len(w.all)-w.gone, true)
	w.pen.Bits = 8 * len(w.pen.Bytes)
	w.over = true
	return w.out()
}

// same tells whether all fields are the same, one by one.
func same(a, b api.Press) bool {
	return a.Style.Size == b.Style.Size && a.Style.Chain == b.Style.Chain && a.Style.Most == b.Style.Most && a.Style.Lazy == b.Style.Lazy &&
		string(a.Hist) == string(b.Hist) && string(a.Wait) == string(b.Wait) && string(a.Pen.Bytes) == string(b.Pen.Bytes) && a.Pen.Bits == b.Pen.Bits && a.Over == b.Over
}

// zero tells whether p is the zero one, without memory.
func zero(p api.Press) bool {
	return p.Style == api.Style{} && p.Hist == nil && p.Wait == nil && p.Pen.Bytes == nil && p.Pen.Bits == 0 && !p.Over
}

// run is bytes under way beside the words' ones.
type run struct {
	t    *testing.T
	p    api.Press
	w    *whole
	told []byte
	gone []byte
	// How much of V7's bound there is: flushes, and all bytes written.
	flushes int
}

// begin is a run from bytes under way on.
func begin(t *testing.T, p api.Press) *run {
	return &run{t: t, p: p, w: from(p)}
}

// hold holds an answer against the words', and keeps it.
func (r *run) hold(what string, p api.Press, b, want []byte, e api.Errno) {
	r.t.Helper()
	if e != api.OK || !same(p, r.w.press()) || !bytes.Equal(b, want) || press.Check(p) != api.OK {
		r.t.Fatalf("%s: %v, %d bytes, error %d, not %v, %d bytes", what, p, len(b), e, r.w.press(), len(want))
	}
	r.p = p
	r.gone = append(r.gone, b...)
}

// write writes b.
func (r *run) write(b []byte) {
	r.t.Helper()
	p, out, e := press.Write(r.p, b)
	r.hold("Write", p, out, r.w.write(b), e)
	r.told = append(r.told, b...)
}

// flush flushes, once and again: behind the first flush there is nothing left.
func (r *run) flush() {
	r.t.Helper()
	p, out, e := press.Flush(r.p)
	r.hold("Flush", p, out, r.w.flush(), e)
	again, more, e := press.Flush(p)
	if e != api.OK || len(more) > 0 || !same(again, p) || p.Pen.Bits != 0 || len(p.Wait) > 0 {
		r.t.Fatal("flushed twice:", again, len(more), e)
	}
	r.flushes++
}

// finish ends it.
func (r *run) finish() {
	r.t.Helper()
	p, out, e := press.Finish(r.p)
	r.hold("Finish", p, out, r.w.finish(), e)
	if !p.Over || len(p.Wait) > 0 || p.Pen.Bits != 0 {
		r.t.Fatal(p)
	}
}

// few holds how many bytes went out against V7, of a run from the beginning on that is over.
func (r *run) few() {
	r.t.Helper()
	most := len(r.told) + 5*(r.flushes+len(r.told)/r.p.Style.Most+1)
	if len(r.gone) > most {
		r.t.Fatalf("%d bytes and %d flushes, a style of %v: %d bytes went out, more than %d", len(r.told), r.flushes, r.p.Style, len(r.gone), most)
	}
}

// read is what bytes tell, to another reader, whether they end, and how many stand behind their end.
func read(b []byte) (told []byte, ends bool, behind int) {
	in := bytes.NewReader(b)
	told, err := io.ReadAll(flate.NewReader(in))
	return told, err == nil, in.Len()
}

// chance gives numbers that look like chance and are always the same.
type chance uint64

func (c *chance) below(n int) int {
	*c ^= *c << 13
	*c ^= *c >> 7
	*c ^= *c << 17
	return int(uint64(*c>>16) % uint64(n))
}

// bytes are n bytes below most.
func (c *chance) bytes(n, most int) []byte {
	b := make([]byte, n)
	for i := range b {
		b[i] = byte(c.below(most))
	}
	return b
}

// text are n bytes of one sort: much that is met again, few letters, all bytes, bytes that are long in a fixed block, or seldom ones among many of one.
func (c *chance) text(n int) []byte {
	switch c.below(5) {
	case 0:
		return c.words(n)
	case 1:
		return c.bytes(n, 1+c.below(8))
	case 2:
		return c.bytes(n, 256)
	case 3:
		b := c.bytes(n, 112)
		for i := range b {
			b[i] += 144
		}
		return b
	}
	b := c.bytes(n, 256)
	for i := range b {
		if c.below(6) > 0 {
			b[i] = 'e'
		}
	}
	return b
}

// words are n bytes made of rows that stood ahead.
func (c *chance) words(n int) []byte {
	var b []byte
	for len(b) < n {
		at := 0
		if len(b) > 0 {
			at = c.below(len(b))
		}
		b = append(b, b[at:min(at+c.below(40), len(b))]...)
		b = append(b, c.bytes(1+c.below(4), 256)...)
	}
	return b[:n]
}

// style is a style that may be.
func (c *chance) style() api.Style {
	s := api.Style{Size: 1 + c.below(300), Chain: c.below(12), Most: 1 + c.below(40), Lazy: c.below(2) == 0}
	switch c.below(4) {
	case 0:
		s.Size, s.Chain = 1+c.below(1<<15), c.below(257)
	case 1:
		s.Size = 1 + c.below(9)
	case 2:
		s.Most = 1 + c.below(700)
	}
	return s
}

// press is bytes under way that may be, and are not over.
func (c *chance) press() api.Press {
	s := c.style()
	p := api.Press{Style: s, Hist: c.text(c.below(min(s.Size, 500) + 1)), Wait: c.text(c.below(s.Most))}
	return behind(p, c.below(8), c.below(128))
}

// behind is p with a pen of so many bits, the lowest ones of v.
func behind(p api.Press, n, v int) api.Press {
	p.Pen = api.Pen{Bits: n}
	if n > 0 {
		p.Pen.Bytes = []byte{byte(v % (1 << n))}
	}
	return p
}

// first is the style of the chapter's examples.
var first = api.Style{Size: 32, Chain: 9, Most: 100}

// wrongStyles are styles that may not be, by one number each.
var wrongStyles = []api.Style{
	{Size: 0, Chain: 9, Most: 100}, {Size: -1, Chain: 9, Most: 100}, {Size: 32769, Chain: 9, Most: 100}, {Size: math.MaxInt, Chain: 9, Most: 100}, {Size: math.MinInt, Chain: 9, Most: 100},
	{Size: 32, Chain: -1, Most: 100}, {Size: 32, Chain: 257, Most: 100}, {Size: 32, Chain: math.MinInt, Most: 100}, {Size: 32, Chain: math.MaxInt, Most: 100},
	{Size: 32, Chain: 9, Most: 0}, {Size: 32, Chain: 9, Most: -1}, {Size: 32, Chain: 9, Most: 65536}, {Size: 32, Chain: 9, Most: math.MaxInt}, {Size: 32, Chain: 9, Most: math.MinInt}, {},
}

// edgeStyles are styles that may be, at the edges.
var edgeStyles = []api.Style{
	{Size: 1, Chain: 0, Most: 1}, {Size: 1, Chain: 0, Most: 1, Lazy: true}, {Size: 32768, Chain: 256, Most: 65535}, {Size: 32768, Chain: 256, Most: 65535, Lazy: true}, {Size: 1, Chain: 256, Most: 65535}, {Size: 32768, Chain: 0, Most: 1},
}

// P12.1: New of styles at the edges, inside and outside.
func TestNew(t *testing.T) {
	for _, s := range append(edgeStyles, first) {
		p, e := press.New(s)
		if e != api.OK || !same(p, api.Press{Style: s}) || press.Check(p) != api.OK {
			t.Error(s, p, e)
		}
	}
	for _, s := range wrongStyles {
		for _, s.Lazy = range []bool{false, true} {
			if p, e := press.New(s); e != api.ErrBad || !zero(p) {
				t.Error(s, p, e)
			}
		}
	}
}

// pens are pens of which the first ones may be, up to the number that is told.
func pens() (l []api.Pen, good int) {
	l = []api.Pen{{}, {Bytes: []byte{}}, {Bytes: []byte{0}, Bits: 1}, {Bytes: []byte{1}, Bits: 1}, {Bytes: []byte{5}, Bits: 3}, {Bytes: []byte{127}, Bits: 7}, {Bytes: []byte{0}, Bits: 7}}
	good = len(l)
	return append(l, api.Pen{Bits: 1}, api.Pen{Bits: 7}, api.Pen{Bytes: []byte{0}}, api.Pen{Bytes: []byte{2}, Bits: 1}, api.Pen{Bytes: []byte{128}, Bits: 7}, api.Pen{Bytes: []byte{255}, Bits: 7}, api.Pen{Bytes: []byte{0, 0}, Bits: 7},
		api.Pen{Bytes: []byte{0}, Bits: 8}, api.Pen{Bytes: []byte{255}, Bits: 8}, api.Pen{Bytes: []byte{255, 1}, Bits: 9}, api.Pen{Bytes: []byte{0}, Bits: -1}, api.Pen{Bits: -1}, api.Pen{Bits: math.MinInt}, api.Pen{Bits: math.MaxInt}, api.Pen{Bytes: make([]byte, 1<<20), Bits: 1 << 23}, api.Pen{Bytes: make([]byte, 1<<20+1), Bits: 1<<23 + 1}), good
}

// wrongs are bytes under way that may not be, by one thing each; each list of bytes is as long as it may be, or one longer.
func wrongs() []api.Press {
	var all []api.Press
	for _, s := range wrongStyles {
		all = append(all, api.Press{Style: s}, api.Press{Style: s, Over: true})
	}
	for _, s := range append(edgeStyles, first) {
		all = append(all,
			api.Press{Style: s, Hist: make([]byte, s.Size+1)}, api.Press{Style: s, Hist: make([]byte, 1<<20)}, api.Press{Style: s, Hist: make([]byte, s.Size+1), Over: true},
			api.Press{Style: s, Wait: make([]byte, s.Most)}, api.Press{Style: s, Wait: make([]byte, s.Most+1)}, api.Press{Style: s, Wait: make([]byte, 1<<20)}, api.Press{Style: s, Wait: []byte{1}, Over: true}, api.Press{Style: s, Wait: make([]byte, s.Most), Over: true})
		l, good := pens()
		for _, p := range l[good:] {
			all = append(all, api.Press{Style: s, Pen: p}, api.Press{Style: s, Pen: p, Over: true})
		}
		for _, p := range l[2:good] {
			all = append(all, api.Press{Style: s, Pen: p, Over: true})
		}
	}
	return all
}

// P12.1: Check of what may be, at the edges, and of what may not.
func TestCheck(t *testing.T) {
	l, good := pens()
	for _, s := range append(edgeStyles, first) {
		for _, hist := range []int{0, 1, s.Size - 1, s.Size} {
			if e := press.Check(api.Press{Style: s, Hist: make([]byte, hist), Over: true}); e != api.OK {
				t.Error(s, hist, e)
			}
			for _, wait := range []int{0, s.Most / 2, s.Most - 1} {
				for _, p := range l[:good] {
					if e := press.Check(api.Press{Style: s, Hist: make([]byte, hist), Wait: make([]byte, wait), Pen: p}); e != api.OK {
						t.Error(s, hist, wait, p, e)
					}
				}
			}
		}
	}
	for _, p := range wrongs() {
		if e := press.Check(p); e != api.ErrBad {
			t.Error(p.Style, len(p.Hist), len(p.Wait), p.Pen.Bits, p.Over, e)
		}
	}
}

// P12.1: Same asks each field, of what may be and what may not; empty lists and nil are the same.
func TestSame(t *testing.T) {
	ask := func(a, b api.Press, want bool) {
		t.Helper()
		if press.Same(a, b) != want || press.Same(b, a) != want {
			t.Error(a, b, !want)
		}
	}
	wild := api.Press{Style: api.Style{Size: -1, Chain: math.MinInt, Most: 1 << 40}, Hist: []byte{1, 2}, Wait: []byte{3, 4, 5}, Pen: api.Pen{Bytes: []byte{200, 0, 9}, Bits: -7}, Over: true}
	for _, p := range []api.Press{{}, {Style: first}, wild, {Style: first, Hist: []byte("ab"), Wait: []byte("cd"), Pen: api.Pen{Bytes: []byte{3}, Bits: 4}}} {
		ask(p, p, true)
		again := api.Press{Style: p.Style, Hist: slices.Concat([]byte{}, p.Hist), Wait: slices.Concat([]byte{}, p.Wait), Pen: api.Pen{Bytes: slices.Concat([]byte{}, p.Pen.Bytes), Bits: p.Pen.Bits}, Over: p.Over}
		ask(p, again, true)
		for i, change := range []func(*api.Press){
			func(p *api.Press) { p.Style.Size++ }, func(p *api.Press) { p.Style.Chain++ }, func(p *api.Press) { p.Style.Most-- }, func(p *api.Press) { p.Style.Lazy = true },
			func(p *api.Press) { p.Hist = append([]byte{0}, p.Hist...) }, func(p *api.Press) { p.Wait = append([]byte{0}, p.Wait...) }, func(p *api.Press) { p.Hist = []byte("xy") }, func(p *api.Press) { p.Wait = []byte("xyz") },
			func(p *api.Press) { p.Pen.Bytes = append([]byte{0}, p.Pen.Bytes...) }, func(p *api.Press) { p.Pen.Bytes = []byte{77} }, func(p *api.Press) { p.Pen.Bits++ }, func(p *api.Press) { p.Over = !p.Over },
			func(p *api.Press) { p.Hist = append(slices.Clone(p.Hist), 0) }, func(p *api.Press) { p.Wait = append(slices.Clone(p.Wait), 0) }, func(p *api.Press) { p.Pen.Bytes = append(slices.Clone(p.Pen.Bytes), 0) },
		} {
			other := again
			change(&other)
			if press.Same(p, other) || press.Same(other, p) {
				t.Error(i, p, other)
			}
		}
	}
	empty := api.Press{Style: first, Hist: []byte{}, Wait: []byte{}, Pen: api.Pen{Bytes: []byte{}}}
	ask(empty, api.Press{Style: first}, true)
	ask(api.Press{Hist: []byte("ab")}, api.Press{Wait: []byte("ab")}, false)
}

// P12.2, P12.5, V7: scripts of writes and flushes, and the end, from the beginning on, held against the words at each step; another reader is told all that was written, behind each flush and behind the end.
func TestScripts(t *testing.T) {
	c := chance(120)
	for range 700 {
		p, _ := press.New(c.style())
		r := begin(t, p)
		for range c.below(12) {
			if c.below(3) == 0 {
				r.flush()
				if told, ends, _ := read(r.gone); ends || !bytes.Equal(told, r.told) {
					t.Fatal("behind a flush", len(told), "bytes are told, of", len(r.told))
				}
			} else {
				r.write(c.text(c.below(1 + c.below(900))))
			}
		}
		r.finish()
		r.few()
		if told, ends, left := read(r.gone); !ends || left > 0 || !bytes.Equal(told, r.told) {
			t.Fatal(len(told), "bytes are told, of", len(r.told), ends, left)
		}
	}
}

// P12.2: each call from whatever may be under way.
func TestFromWhatMayBe(t *testing.T) {
	c := chance(121)
	for range 3000 {
		p := c.press()
		begin(t, p).write(c.text(c.below(1 + c.below(300))))
		begin(t, p).flush()
		begin(t, p).finish()
		r := begin(t, p)
		r.write(nil)
		r.write(c.text(c.below(2 * p.Style.Most)))
		r.flush()
		r.write(c.text(c.below(60)))
		r.finish()
	}
}

// P12.2: as many wait as the style's Most, or one less, or one more, also when some waited already.
func TestMost(t *testing.T) {
	c := chance(122)
	for _, most := range []int{1, 2, 3, 4, 5, 100, 257, 4096, 65534, 65535} {
		for _, wait := range []int{0, 1, most / 2, most - 2, most - 1} {
			for _, more := range []int{-1, 0, 1, most - 1, most, most + 1} {
				n := most - wait + more
				if wait < 0 || wait >= most || n < 0 || n > 1<<17 {
					continue
				}
				r := begin(t, api.Press{Style: api.Style{Size: 32, Chain: 2, Most: most}, Wait: c.text(wait)})
				r.write(c.text(n))
				if left := (wait + n) % most; len(r.p.Wait) != left || (len(r.gone) > 0) != (wait+n >= most) {
					t.Fatal(most, wait, n, len(r.p.Wait), len(r.gone))
				}
			}
		}
	}
}

// P12.2: Hist is the last ones, Size at most, and copies reach into it, not farther.
func TestHist(t *testing.T) {
	c := chance(123)
	row := []byte("0123456789abcdefghijklmnopqrstuvwxyz")
	for _, size := range []int{1, 2, 3, 35, 36, 37, 40, 32767, 32768} {
		for _, most := range []int{1, 7, 36, 50, 30000} {
			r := begin(t, api.Press{Style: api.Style{Size: size, Chain: 4, Most: most}})
			for range 4 {
				r.write(row)
				r.flush()
				if want := r.told[max(0, len(r.told)-size):]; !bytes.Equal(r.p.Hist, want) {
					t.Fatal(size, most, string(r.p.Hist))
				}
			}
			r.write(c.text(most / 2))
			r.finish()
			if want := r.told[max(0, len(r.told)-size):]; !bytes.Equal(r.p.Hist, want) {
				t.Fatal(size, most, string(r.p.Hist))
			}
		}
	}
	// What is met again is told in few bytes just where the window holds it.
	for size, few := range map[int]bool{35: false, 36: true} {
		p := api.Press{Style: api.Style{Size: size, Chain: 4, Most: 99}, Hist: row[36-size:], Wait: row}
		if _, b, e := press.Finish(p); e != api.OK || (len(b) < 9) != few {
			t.Error(size, len(b), e)
		}
	}
}

// P12.2: as much as may be handed in, behind as much as may be under way.
func TestGreatest(t *testing.T) {
	c := chance(124)
	p := api.Press{Style: api.Style{Size: 32768, Chain: 3, Most: 65535, Lazy: true}, Hist: c.text(32768), Wait: c.text(65534)}
	r := begin(t, behind(p, 7, 99))
	r.write(slices.Concat(c.words(3<<15), c.bytes(1<<15, 256)))
	r.flush()
	r.write(c.bytes(1<<17, 3))
	r.write(c.words(65534))
	r.finish()
}

// met is how often a flush had something to decide.
type met map[string]int

// flushed counts what there is to decide at a flush.
func (m met) flushed(p api.Press) {
	w := from(p)
	pens := w.kinds(len(p.Wait), false)
	stored, fixed, dynamic := pens[0].Bits, pens[1].Bits, pens[2].Bits
	wholeFixed, wholeDynamic := wholeBits(pens[1]).Bits, wholeBits(pens[2]).Bits
	if fixed == dynamic {
		m["fixed and dynamic alike"]++
	}
	coded, ends := wholeFixed, fixed%8 == 0
	if dynamic < fixed {
		coded, ends = wholeDynamic, dynamic%8 == 0
	}
	switch {
	case stored == coded && ends:
		m["both ways alike, the second one without an empty block"]++
	case stored == coded:
		m["both ways alike"]++
	case stored < coded && min(fixed, dynamic) < stored:
		m["stored, as the second way needs an empty block"]++
	case stored < coded:
		m["stored"]++
	}
	if coded >= stored {
		return
	}
	if dynamic < fixed {
		m["dynamic"]++
	} else {
		m["fixed"]++
	}
	if ends {
		m["without an empty block"]++
	}
	if fixed <= dynamic && wholeDynamic < coded || dynamic < fixed && wholeFixed < coded {
		m["the longer block would need no empty one"]++
	}
}

// P12.2: what a flush has to decide, met each way.
func TestFlushDecides(t *testing.T) {
	c := chance(125)
	m := met{}
	for range 4000 {
		s := api.Style{Size: 500, Chain: 20, Most: 2000, Lazy: true}
		p := api.Press{Style: s, Hist: c.words(300), Wait: c.bytes(40+c.below(160), 2+c.below(40))}
		switch c.below(4) {
		case 0:
			p.Wait = append(c.bytes(c.below(9), 256), p.Hist[:c.below(60)]...)
		case 1:
			p.Wait = c.text(1 + c.below(200))
		case 2:
			p.Wait = slices.Concat(c.bytes(c.below(30), 256), bytes.Repeat([]byte{0}, c.below(9)))
		}
		if len(p.Wait) == 0 {
			continue
		}
		p = behind(p, c.below(8), c.below(128))
		m.flushed(p)
		begin(t, p).flush()
	}
	for _, what := range []string{"fixed and dynamic alike", "both ways alike, the second one without an empty block", "both ways alike", "stored, as the second way needs an empty block", "stored", "dynamic", "fixed", "without an empty block", "the longer block would need no empty one"} {
		if m[what] == 0 {
			t.Error("never met:", what)
		}
	}
}

// P12.2: a flush of nothing: nothing, where there are no bits; else an empty stored block behind them, also where a fixed one would be shorter.
func TestFlushOfNothing(t *testing.T) {
	for n := range 8 {
		for v := range 1 << n {
			p := behind(api.Press{Style: first, Hist: []byte("abc")}, n, v)
			r := begin(t, p)
			r.flush()
			want := []byte{byte(v), 0, 0, 255, 255}
			if n == 0 {
				want = nil
			} else if n > 5 {
				want = []byte{byte(v), 0, 0, 0, 255, 255}
			}
			if !bytes.Equal(r.gone, want) || string(r.p.Hist) != "abc" || r.p.Over {
				t.Error(n, v, r.gone, r.p)
			}
		}
	}
}

// P12.2: the end of nothing is an empty fixed block; what is missing to a whole byte is noughts.
func TestFinishOfNothing(t *testing.T) {
	for n := range 8 {
		for v := range 1 << n {
			p := behind(api.Press{Style: first, Hist: []byte("abc")}, n, v)
			r := begin(t, p)
			r.finish()
			bits := v | 3<<n
			want := []byte{byte(bits), byte(bits >> 8)}
			if n == 7 {
				want = append(want, 0)
			}
			if !bytes.Equal(r.gone, want) || string(r.p.Hist) != "abc" || !r.p.Over {
				t.Error(n, v, r.gone, r.p)
			}
		}
	}
}

// P12.2: blocks are of the best kind, behind as many bits as there are; each kind is met.
func TestBestKind(t *testing.T) {
	c := chance(126)
	met := [3]int{}
	atBits := 0
	for range 3000 {
		p := behind(api.Press{Style: api.Style{Size: 200, Chain: 9, Most: 1 + c.below(90)}, Hist: c.text(c.below(200))}, c.below(8), c.below(128))
		text := c.text(p.Style.Most)
		r := begin(t, p)
		r.write(text)
		// The kind is the second and the third bit behind those of the pen.
		b := append(slices.Clone(r.gone), r.p.Pen.Bytes...)
		at := p.Pen.Bits + 1
		kind := (int(b[0]) | int(b[1])<<8) >> at & 3
		met[kind]++
		l, _ := token.Cut(slices.Concat(p.Hist, text), len(p.Hist), p.Style)
		if other, _ := block.Best(0, text, l); int(other) != kind {
			atBits++
		}
	}
	if slices.Min(met[:]) < 50 || atBits < 10 {
		t.Error(met, atBits)
	}
}

// P12.2: what is wrong, in its order: what may not be, then what is over, then too many bytes; nothing beside an error.
func TestErrors(t *testing.T) {
	ask := func(p api.Press, b []byte, write, others api.Errno) {
		t.Helper()
		if q, out, e := press.Write(p, b); e != write || e != api.OK && (out != nil || !zero(q)) {
			t.Error("Write", len(b), len(out), e)
		}
		if q, out, e := press.Flush(p); e != others || e != api.OK && (out != nil || !zero(q)) {
			t.Error("Flush", len(out), e)
		}
		if q, out, e := press.Finish(p); e != others || e != api.OK && (out != nil || !zero(q)) {
			t.Error("Finish", len(out), e)
		}
	}
	few, many := make([]byte, 1<<17), make([]byte, 1<<17+1)
	for _, p := range wrongs() {
		for _, b := range [][]byte{nil, []byte("a"), many} {
			ask(p, b, api.ErrBad, api.ErrBad)
		}
	}
	for _, s := range append(edgeStyles, first) {
		for _, hist := range []int{0, s.Size} {
			p := api.Press{Style: s, Hist: make([]byte, hist), Over: true}
			for _, b := range [][]byte{nil, []byte("a"), many} {
				ask(p, b, api.ErrNone, api.ErrNone)
			}
			p.Over = false
			ask(p, many, api.ErrMany, api.OK)
			ask(p, make([]byte, 1<<20), api.ErrMany, api.OK)
			ask(p, few[:9], api.OK, api.OK)
		}
	}
	ask(api.Press{Style: api.Style{Size: 32, Chain: 1, Most: 65535}}, few, api.OK, api.OK)
	p, _ := press.New(first)
	p, _, _ = press.Finish(p)
	ask(p, nil, api.ErrNone, api.ErrNone)
}

// P12.3: all at once is a write and the end, in styles of all sorts; another reader is told just that.
func TestAll(t *testing.T) {
	c := chance(127)
	for i := range 900 {
		s := c.style()
		text := c.text(c.below(1 + c.below(2000)))
		b, e := press.All(s, text)
		p, _ := press.New(s)
		w := from(p)
		want := slices.Concat(w.write(text), w.finish())
		if e != api.OK || !bytes.Equal(b, want) {
			t.Fatal(i, s, len(text), len(b), e)
		}
		if told, ends, left := read(b); !ends || left > 0 || !bytes.Equal(told, text) {
			t.Fatal(i, len(told), "bytes are told, of", len(text), ends, left)
		}
		if len(b) > len(text)+5*(len(text)/s.Most+1) {
			t.Fatal(i, s, len(text), len(b))
		}
	}
}

// P12.3: a style that may not be ahead of too many bytes, and as many as may be.
func TestAllErrors(t *testing.T) {
	few, many := make([]byte, 1<<17), make([]byte, 1<<17+1)
	for _, s := range wrongStyles {
		for _, b := range [][]byte{nil, few, many} {
			if out, e := press.All(s, b); e != api.ErrBad || out != nil {
				t.Error(s, len(b), len(out), e)
			}
		}
	}
	for _, s := range append(edgeStyles, first) {
		for _, b := range [][]byte{many, make([]byte, 1<<20)} {
			if out, e := press.All(s, b); e != api.ErrMany || out != nil {
				t.Error(s, len(b), len(out), e)
			}
		}
	}
	c := chance(128)
	for _, x := range []struct {
		s api.Style
		b []byte
	}{
		{api.Style{Size: 32768, Chain: 3, Most: 65535}, few}, {api.Style{Size: 32768, Chain: 1, Most: 65535}, c.words(1 << 17)}, {api.Style{Size: 99, Chain: 3, Most: 65535, Lazy: true}, c.bytes(1<<17, 256)},
		{api.Style{Size: 32768, Chain: 1, Most: 900, Lazy: true}, c.words(1 << 17)}, {api.Style{Size: 1, Chain: 0, Most: 1}, c.bytes(1<<17, 256)},
	} {
		out, e := press.All(x.s, x.b)
		if told, ends, left := read(out); e != api.OK || !ends || left > 0 || !bytes.Equal(told, x.b) || len(out) > len(x.b)+5*(len(x.b)/x.s.Most+1) {
			t.Error(x.s, len(out), e)
		}
	}
}

// P12.5: bytes in two parts, parted anywhere, go out as at once; so in many.
func TestParts(t *testing.T) {
	c := chance(129)
	for range 60 {
		p := c.press()
		text := c.text(1 + c.below(200))
		atOnce, out, e := press.Write(p, text)
		if e != api.OK {
			t.Fatal(e)
		}
		for cut := range len(text) + 1 {
			q, b1, _ := press.Write(p, text[:cut])
			q, b2, e := press.Write(q, text[cut:])
			if e != api.OK || !press.Same(q, atOnce) || !same(q, atOnce) || !bytes.Equal(slices.Concat(b1, b2), out) {
				t.Fatal(p, text, cut, e)
			}
		}
		q, all := p, []byte(nil)
		for i := range text {
			next, b, _ := press.Write(q, text[i:i+1])
			q, all = next, append(all, b...)
		}
		if !same(q, atOnce) || !bytes.Equal(all, out) {
			t.Fatal(p, text)
		}
	}
}

// V7: what can't be pressed is little longer, in all sorts of scripts, of single bytes and flushes, too.
func TestFewGoOut(t *testing.T) {
	c := chance(130)
	for range 300 {
		p, _ := press.New(api.Style{Size: 1 + c.below(99), Chain: c.below(9), Most: 1 + c.below(1+c.below(300))})
		r := begin(t, p)
		for range c.below(40) {
			r.write(c.bytes(c.below(1+c.below(60)), 256))
			if c.below(2) == 0 {
				r.flush()
			}
		}
		r.finish()
		r.few()
	}
}

// with is p in memory that has more behind each list, and all of that memory.
func with(p api.Press, more byte) (api.Press, [][]byte) {
	room := bytes.Repeat([]byte{more}, 500)
	rows := [][]byte{slices.Concat(p.Hist, room), slices.Concat(p.Wait, room), slices.Concat(p.Pen.Bytes, room)}
	p.Hist, p.Wait, p.Pen.Bytes = rows[0][:len(p.Hist)], rows[1][:len(p.Wait)], rows[2][:len(p.Pen.Bytes)]
	return p, rows
}

// calls are all that goes on with bytes under way.
func calls(p api.Press, b []byte) (next []api.Press, outs [][]byte) {
	for _, call := range []func() (api.Press, []byte, api.Errno){
		func() (api.Press, []byte, api.Errno) { return press.Write(p, b) },
		func() (api.Press, []byte, api.Errno) { return press.Write(p, nil) },
		func() (api.Press, []byte, api.Errno) { return press.Flush(p) },
		func() (api.Press, []byte, api.Errno) { return press.Finish(p) },
		func() (api.Press, []byte, api.Errno) {
			out, e := press.All(p.Style, b)
			return api.Press{}, out, e
		},
	} {
		q, out, e := call()
		if e != api.OK {
			panic(e)
		}
		next, outs = append(next, q), append(outs, out)
	}
	return next, outs
}

// some is bytes under way of all sorts: with much, and with nothing, of each.
func some() []api.Press {
	c := chance(131)
	l := []api.Press{{Style: first}, {Style: first, Hist: []byte("abc")}, {Style: first, Wait: []byte("abc")}, behind(api.Press{Style: first}, 3, 5), behind(api.Press{Style: first, Hist: []byte("abc")}, 7, 99)}
	for range 60 {
		l = append(l, c.press())
	}
	return l
}

// P12.4: neither what is handed in nor the memory behind it is written to, and a second call answers the same.
func TestReadingChangesNothing(t *testing.T) {
	c := chance(132)
	for _, p := range some() {
		text := c.text(c.below(200))
		q, rows := with(p, 77)
		row := slices.Concat(text, bytes.Repeat([]byte{78}, 500))
		before := slices.Concat(slices.Concat(rows...), row)
		next, outs := calls(q, row[:len(text)])
		again, more := calls(q, row[:len(text)])
		press.Check(q)
		press.Same(q, p)
		for i := range next {
			if !same(next[i], again[i]) || !bytes.Equal(outs[i], more[i]) {
				t.Error(i, "a second call answers otherwise")
			}
		}
		if !bytes.Equal(before, slices.Concat(slices.Concat(rows...), row)) {
			t.Error("what was handed in is not as it was")
		}
	}
}

// fill writes to all memory of some lists, that behind them, too.
func fill(x byte, rows ...[]byte) {
	for _, b := range rows {
		b = b[:cap(b)]
		for i := range b {
			b[i] = x
		}
	}
}

// P12.4: what was answered is its caller's: what becomes of one list shows in no other one, in nothing that was handed in, and in no later answer.
func TestAnswersAreApart(t *testing.T) {
	c := chance(133)
	for _, p := range some() {
		text := c.text(c.below(200))
		q, rows := with(p, 77)
		given := slices.Concat(slices.Concat(rows...), text)
		kept, keptOuts := calls(q, text)
		mine, outs := calls(q, text)
		for i := range mine {
			for j, list := range [][]byte{mine[i].Hist, mine[i].Wait, mine[i].Pen.Bytes, outs[i]} {
				fill(byte(101+j), list)
			}
			for j, list := range [][]byte{mine[i].Hist, mine[i].Wait, mine[i].Pen.Bytes, outs[i]} {
				if !bytes.Equal(list, bytes.Repeat([]byte{byte(101 + j)}, len(list))) {
					t.Error(i, j, "two lists of an answer share memory")
				}
			}
		}
		again, moreOuts := calls(q, text)
		if !bytes.Equal(given, slices.Concat(slices.Concat(rows...), text)) {
			t.Error("an answer shares memory with what was handed in")
		}
		fill(99, rows...)
		fill(98, text)
		for i := range kept {
			if !same(kept[i], again[i]) || !bytes.Equal(keptOuts[i], moreOuts[i]) {
				t.Error(i, "memory is shared")
			}
		}
	}
}

// P1: whatever is handed in, each call ends, none panics, and an error has nothing beside it.
func TestWhatever(t *testing.T) {
	numbers := []int{math.MinInt, -1 << 32, -257, -1, 0, 1, 2, 9, 256, 257, 32768, 32769, 65535, 65536, 1 << 32, 1<<32 + 9, math.MaxInt}
	lists := [][]byte{nil, {}, {0}, []byte("abcabcabc"), make([]byte, 70000)}
	c := chance(134)
	pick := func() int { return numbers[c.below(len(numbers))] }
	row := func() []byte { return lists[c.below(len(lists))] }
	for i := range 40000 {
		p := api.Press{Style: api.Style{Size: pick(), Chain: pick(), Most: pick(), Lazy: i%2 == 0}, Hist: row(), Wait: row(), Pen: api.Pen{Bytes: row(), Bits: pick()}, Over: i%5 == 0}
		if i%2 == 0 {
			p.Style = edgeStyles[c.below(len(edgeStyles))]
		}
		b := lists[c.below(4)]
		e := press.Check(p)
		if e != api.OK && e != api.ErrBad || !press.Same(p, p) {
			t.Fatal(p, e)
		}
		q, out, f := press.Write(p, b)
		if f != api.OK && (out != nil || !zero(q)) || e != api.OK && f != e {
			t.Fatal(p, f)
		}
		q, out, f = press.Flush(p)
		if f != api.OK && (out != nil || !zero(q)) || e != api.OK && f != e {
			t.Fatal(p, f)
		}
		q, out, f = press.Finish(p)
		if f != api.OK && (out != nil || !zero(q)) || e != api.OK && f != e {
			t.Fatal(p, f)
		}
		if _, f := press.New(p.Style); f != token.CheckStyle(p.Style) {
			t.Fatal(p, f)
		}
		if out, f := press.All(p.Style, b); f != token.CheckStyle(p.Style) || f != api.OK && out != nil {
			t.Fatal(p, f)
		}
	}
}

// The chapter's examples.
func TestExamples(t *testing.T) {
	holds := func(b []byte, e api.Errno, want ...byte) {
		t.Helper()
		if e != api.OK || !bytes.Equal(b, want) {
			t.Errorf("%x, error %d, not %x", b, e, want)
		}
	}
	b, e := press.All(first, []byte("a"))
	holds(b, e, 0x4b, 4, 0)
	b, e = press.All(first, nil)
	holds(b, e, 3, 0)
	start, _ := press.New(first)
	p, b, e := press.Write(start, []byte("a"))
	holds(b, e)
	p, b, e = press.Flush(p)
	holds(b, e, 0, 1, 0, 0xfe, 0xff, 0x61)
	p, b, e = press.Finish(p)
	holds(b, e, 3, 0)
	if _, _, e := press.Write(p, []byte("a")); e != api.ErrNone {
		t.Error(e)
	}
	p, b, e = press.Flush(start)
	holds(b, e)
	_, b, e = press.Flush(p)
	holds(b, e)
	one := first
	one.Most = 1
	p, _ = press.New(one)
	p, b, e = press.Write(p, []byte("ab"))
	holds(b, e, 0x4a, 4, 0x28, 9)
	if p.Pen.Bits != 4 {
		t.Error(p.Pen)
	}
	long := strings.Repeat("hello, ", 3000)
	if b, e := press.All(api.Style{Size: 4096, Chain: 9, Most: 65535}, []byte(long)); e != api.OK || len(b) > 100 {
		t.Error(len(b), e)
	}
}
