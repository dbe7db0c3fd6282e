package swell_test

import (
	"bytes"
	"slices"
	"strings"
	"testing"

	"bellows/api"
	"bellows/plain"
	"bellows/swell"
)

// words is a stream by the chapter's words, without pieces: all bytes from the beginning on, and all that they told.
type words struct {
	most int
	// Bytes that were made and aren't known any more.
	lost int
	told []byte
	all  []byte
	bit  int
	k    api.Block
	open bool
	over bool
}

// wordsOf is what a stream that may be says of itself.
func wordsOf(s api.Swell) words {
	return words{
		most: s.Most, lost: s.Made - len(s.Win.Bytes), told: slices.Clone(s.Win.Bytes), all: slices.Clone(s.In), bit: s.At,
		k: s.Block, open: s.Open, over: s.Over,
	}
}

// swell is the stream as the program tells it.
func (w words) swell() api.Swell {
	s := api.Swell{Most: w.most, Made: w.lost + len(w.told), Block: w.k, Open: w.open, Over: w.over}
	s.Win = api.Window{Size: 32768, Bytes: w.told[max(0, len(w.told)-32768):]}
	if !w.over {
		s.In, s.At = w.all[w.bit/8:], w.bit%8
	}
	return s
}

// at is the place from which plain is asked, so that it is never handed too much.
func (w words) at() (b []byte, at int) {
	from := max(0, w.bit/8-100)
	return w.all[from:min(len(w.all), from+1000)], w.bit - 8*from
}

// tell tells a token; false, if there is no room for it.
func (w *words) tell(t api.Token) api.Errno {
	if t.Dist > len(w.told) {
		return api.ErrDist
	}
	for range max(1, t.Long) {
		if w.lost+len(w.told) == w.most {
			return api.ErrLimit
		}
		x := t.Lit
		if t.Long > 0 {
			x = w.told[len(w.told)-t.Dist]
		}
		w.told = append(w.told, x)
	}
	return api.OK
}

// step does one step; ErrEnd, if that isn't whole.
func (w *words) step() api.Errno {
	b, at := w.at()
	if !w.open {
		k, next, e := plain.Head(b, at)
		if e == api.OK {
			w.k, w.open = k, true
			w.bit += next - at
		}
		return e
	}
	t, end, next, e := plain.Step(w.k, b, at)
	if e != api.OK {
		return e
	}
	w.bit += next - at
	if end {
		w.over, w.open, w.k = w.k.Last, false, api.Block{}
		return api.OK
	}
	if w.k.Kind == 0 {
		w.k.Left--
	}
	return w.tell(t)
}

// feed goes on with b.
func (w *words) feed(b []byte) (told []byte, used int, e api.Errno) {
	had, waited := len(w.told), w.all
	if w.over {
		return nil, 0, api.ErrNone
	}
	w.all = append(slices.Clone(w.all), b...)
	for !w.over {
		if e := w.step(); e == api.ErrEnd {
			return w.told[had:], len(b), api.OK
		} else if e != api.OK {
			return nil, 0, e
		}
	}
	for 8*(len(waited)+used) < w.bit {
		used++
	}
	return w.told[had:], used, api.OK
}

// sameTree, sameBlock and same tell whether two are the same, field by field.
func sameTree(a, b api.Tree) bool {
	return a.Count == b.Count && slices.Equal(a.Syms, b.Syms)
}

func sameBlock(a, b api.Block) bool {
	return a.Kind == b.Kind && a.Last == b.Last && a.Left == b.Left && sameTree(a.Longs, b.Longs) && sameTree(a.Fars, b.Fars)
}

func same(a, b api.Swell) bool {
	return a.Most == b.Most && a.Made == b.Made && bytes.Equal(a.In, b.In) && a.At == b.At && sameBlock(a.Block, b.Block) &&
		a.Open == b.Open && a.Win.Size == b.Win.Size && bytes.Equal(a.Win.Bytes, b.Win.Bytes) && a.Over == b.Over
}

// brief is a stream without what is long in it.
func brief(s api.Swell) []any {
	return []any{s.Most, s.Made, s.In, s.At, s.Block.Kind, s.Block.Last, s.Block.Left, s.Open, len(s.Win.Bytes), s.Over}
}

// copyOf is s in memory of its own.
func copyOf(s api.Swell) api.Swell {
	s.In, s.Win.Bytes = slices.Clone(s.In), slices.Clone(s.Win.Bytes)
	s.Block.Longs.Syms, s.Block.Fars.Syms = slices.Clone(s.Block.Longs.Syms), slices.Clone(s.Block.Fars.Syms)
	return s
}

// pair is a stream by the program, and by the words.
type pair struct {
	s    api.Swell
	w    words
	told []byte
	used int
}

// begun is a pair at the beginning.
func begun(t *testing.T, most int) *pair {
	t.Helper()
	s, e := swell.New(most)
	want := api.Swell{Most: most, Win: api.Window{Size: 32768}}
	if e != api.OK || !same(s, want) || swell.Check(s) != api.OK {
		t.Fatalf("New(%d): %v, error %d", most, brief(s), e)
	}
	return &pair{s: s, w: wordsOf(want)}
}

// feed goes on with b, and holds the program against the words.
func (p *pair) feed(t *testing.T, b []byte) api.Errno {
	t.Helper()
	was, handed := copyOf(p.s), slices.Clone(b)
	next, told, used, e := swell.Feed(p.s, b)
	if !same(was, p.s) || !bytes.Equal(handed, b) {
		t.Fatalf("Feed(%v, %x) changed what was handed in", brief(was), handed)
	}
	want, wantUsed, wantErr := p.w.feed(b)
	if e != wantErr || used != wantUsed || !bytes.Equal(told, want) {
		t.Fatalf("Feed(%v, %x): %q, %d, error %d, not %q, %d, error %d", brief(was), b, told, used, e, want, wantUsed, wantErr)
	}
	if e != api.OK {
		if !same(next, api.Swell{}) || told != nil {
			t.Fatalf("Feed(%v, %x): %v, %q beside error %d", brief(was), b, brief(next), told, e)
		}
		return e
	}
	if s := p.w.swell(); !same(next, s) || !swell.Same(next, s) || swell.Check(next) != api.OK {
		t.Fatalf("Feed(%v, %x): %v, not %v", brief(was), b, brief(next), brief(s))
	}
	p.s, p.told, p.used = next, append(p.told, told...), p.used+used
	return api.OK
}

// feedAll goes on with pieces till an error, or the end; pieces behind the end are left out.
func (p *pair) feedAll(t *testing.T, pieces [][]byte) api.Errno {
	t.Helper()
	for _, b := range pieces {
		if p.s.Over {
			return api.OK
		}
		if e := p.feed(t, b); e != api.OK {
			return e
		}
	}
	return api.OK
}

// low is a number's bits as a text, the lowest one first.
func low(v, n int) string {
	var b strings.Builder
	for range n {
		b.WriteByte('0' + byte(v&1))
		v >>= 1
	}
	return b.String()
}

// text is the bits of some bytes as a text.
func text(b []byte) string {
	var t strings.Builder
	for _, x := range b {
		t.WriteString(low(int(x), 8))
	}
	return t.String()
}

// packed is a text's bits as bytes, noughts behind them.
func packed(t string) []byte {
	b := make([]byte, (len(t)+7)/8)
	for i := range len(t) {
		b[i/8] |= (t[i] - '0') << (i % 8)
	}
	return b
}
