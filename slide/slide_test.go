package slide_test

import (
	"bytes"
	"math"
	"slices"
	"strings"
	"testing"

	"bellows/api"
	"bellows/slide"
)

// ends is the last bytes of all, size of them at most, by the chapter's words alone, so that it shares nothing with the package.
func ends(all []byte, size int) []byte {
	var l []byte
	for i, x := range all {
		if i >= len(all)-size {
			l = append(l, x)
		}
	}
	return l
}

// more is a list of all bytes with a copy behind it, written byte by byte.
func more(all []byte, dist, n int) []byte {
	all = slices.Clone(all)
	for range n {
		all = append(all, all[len(all)-dist])
	}
	return all
}

// is tells whether w has this size and these bytes.
func is(w api.Window, size int, b []byte) bool {
	return w.Size == size && bytes.Equal(w.Bytes, b)
}

// zero tells whether w is as good as nothing.
func zero(w api.Window) bool {
	return w.Size == 0 && w.Bytes == nil
}

// chance gives numbers that look like chance and are always the same.
type chance uint64

func (c *chance) below(n int) int {
	*c ^= *c << 13
	*c ^= *c >> 7
	*c ^= *c << 17
	return int(uint64(*c>>16) % uint64(n))
}

func (c *chance) bytes(n int) []byte {
	b := make([]byte, n)
	for i := range b {
		b[i] = byte(c.below(256))
	}
	return b
}

// letters is bytes of which no two near ones are the same.
func letters(n int) []byte {
	b := make([]byte, n)
	for i := range b {
		b[i] = byte(i%251 + i/251%2)
	}
	return b
}

// good are windows that may be: all small ones, and some of the greatest sizes, empty, full, and nearly so.
func good() []api.Window {
	var l []api.Window
	for size := 1; size <= 6; size++ {
		for n := range size + 1 {
			l = append(l, api.Window{Size: size, Bytes: letters(n)})
		}
	}
	l = append(l, api.Window{Size: 1}, api.Window{Size: api.MaxWindow}, api.Window{Size: api.MaxWindow, Bytes: []byte{}})
	for _, size := range []int{257, 258, 259, 300, 32767, 32768} {
		for _, n := range []int{0, 1, 2, 255, 256, 257, 258, 259, size - 258, size - 2, size - 1, size} {
			if n >= 0 && n <= size {
				l = append(l, api.Window{Size: size, Bytes: letters(n)})
			}
		}
	}
	return l
}

// bad are windows that may not be.
func bad() []api.Window {
	l := []api.Window{
		{}, {Bytes: []byte{}}, {Bytes: []byte("a")}, {Size: -1}, {Size: -1, Bytes: []byte("a")}, {Size: -32768},
		{Size: 1, Bytes: []byte("ab")}, {Size: 2, Bytes: []byte("abc")}, {Size: 4, Bytes: []byte("abcde")}, {Size: 4, Bytes: letters(300)},
		{Size: 32767, Bytes: letters(32768)}, {Size: 32768, Bytes: letters(32769)}, {Size: 32768, Bytes: letters(1 << 20)},
	}
	for _, size := range []int{32769, 65535, 65536, 65537, 1 << 17, 1 << 31, 1 << 32, 1<<32 + 1, 1<<32 + 32768, math.MaxInt, math.MinInt, math.MinInt + 1} {
		l = append(l, api.Window{Size: size}, api.Window{Size: size, Bytes: []byte("abc")}, api.Window{Size: size, Bytes: letters(32769)})
	}
	return l
}

// P6.1: New of each size that may be, and of others.
func TestNew(t *testing.T) {
	for size := 1; size <= 32768; size++ {
		if w, e := slide.New(size); !is(w, size, nil) || e != api.OK || slide.Check(w) != api.OK {
			t.Fatal(size, w, e)
		}
	}
	for _, size := range []int{0, -1, -2, -32768, 32769, 32770, 65536, 65537, 1 << 31, 1 << 32, 1<<32 + 1, math.MaxInt, math.MinInt, math.MinInt + 1} {
		if w, e := slide.New(size); !zero(w) || e != api.ErrArg {
			t.Error(size, w, e)
		}
	}
}

// P6.1: Check of windows that may be, and of others.
func TestCheck(t *testing.T) {
	for i, w := range good() {
		if e := slide.Check(w); e != api.OK {
			t.Error(i, w.Size, len(w.Bytes), e)
		}
	}
	for i, w := range bad() {
		if e := slide.Check(w); e != api.ErrBad {
			t.Error(i, w.Size, len(w.Bytes), e)
		}
	}
	for size := -3; size < 12; size++ {
		for n := range 12 {
			want := api.ErrBad
			if size >= 1 && n <= size {
				want = api.OK
			}
			if e := slide.Check(api.Window{Size: size, Bytes: letters(n)}); e != want {
				t.Error(size, n, e)
			}
		}
	}
}

// push pushes into a window that may be, and holds what it answers against the chapter's words.
func push(t *testing.T, w api.Window, b []byte) api.Window {
	t.Helper()
	got, e := slide.Push(w, b)
	if e != api.OK || !is(got, w.Size, ends(slices.Concat(w.Bytes, b), w.Size)) || slide.Check(got) != api.OK {
		t.Fatalf("Push of %d bytes into %d of %d is %d of %d, %d", len(b), len(w.Bytes), w.Size, len(got.Bytes), got.Size, e)
	}
	return got
}

// P6.2: Push of few bytes into each window, and of about as many as it has, or could have.
func TestPush(t *testing.T) {
	c := chance(88172645463325252)
	for _, w := range good() {
		for n := range 14 {
			push(t, w, c.bytes(n))
		}
		for _, n := range []int{w.Size - len(w.Bytes), w.Size, len(w.Bytes), 2 * w.Size} {
			for by := -1; by <= 1; by++ {
				push(t, w, c.bytes(max(n+by, 0)))
			}
		}
	}
}

// P6.2: as many bytes as may be pushed, and one more; a window that may not be is told ahead of that.
func TestPushErrors(t *testing.T) {
	most := letters(1<<17 + 1)
	for _, size := range []int{1, 2, 3, 32767, 32768} {
		for _, n := range []int{0, 1, size} {
			w := api.Window{Size: size, Bytes: letters(n)}
			push(t, w, most[:1<<17-1])
			push(t, w, most[:1<<17])
			push(t, w, most[1:])
			for _, b := range [][]byte{most, make([]byte, 1<<18), make([]byte, 1<<20)} {
				if got, e := slide.Push(w, b); !zero(got) || e != api.ErrMany {
					t.Error(size, n, len(b), e)
				}
			}
		}
	}
	for i, w := range bad() {
		for _, b := range [][]byte{nil, {}, {1}, most[:1<<17], most, make([]byte, 1<<20)} {
			if got, e := slide.Push(w, b); !zero(got) || e != api.ErrBad {
				t.Error(i, len(b), e)
			}
		}
	}
}

// take copies in a window that may be, and holds what it answers against the chapter's words.
func take(t *testing.T, w api.Window, dist, n int) (api.Window, []byte) {
	t.Helper()
	all := more(w.Bytes, dist, n)
	got, b, e := slide.Copy(w, dist, n)
	if e != api.OK || !bytes.Equal(b, all[len(w.Bytes):]) || !is(got, w.Size, ends(all, w.Size)) || slide.Check(got) != api.OK {
		t.Fatalf("Copy(%d of %d, %d, %d) is %d of %d, %v, %d", len(w.Bytes), w.Size, dist, n, len(got.Bytes), got.Size, b, e)
	}
	return got, b
}

// P6.2: Copy at each distance of each small window, of each number of bytes; the greatest ones at the nearest distances and the farthest, of the fewest bytes and the most.
func TestCopy(t *testing.T) {
	for _, w := range good() {
		far := len(w.Bytes)
		if w.Size <= 6 {
			for dist := 1; dist <= far; dist++ {
				for n := range 259 {
					take(t, w, dist, n)
				}
			}
			continue
		}
		for _, dist := range []int{1, 2, 3, 128, 255, 256, 257, 258, 259, far - 258, far - 1, far} {
			if dist < 1 || dist > far {
				continue
			}
			for _, n := range []int{0, 1, 2, 3, 254, 255, 256, 257, 258} {
				take(t, w, dist, n)
			}
		}
	}
}

// P6.2: each byte of a full window is copied from its own distance.
func TestCopyFromEachDistance(t *testing.T) {
	w := api.Window{Size: api.MaxWindow, Bytes: letters(api.MaxWindow)}
	for dist := 1; dist <= api.MaxWindow; dist++ {
		_, b, e := slide.Copy(w, dist, 1)
		if e != api.OK || len(b) != 1 || b[0] != w.Bytes[api.MaxWindow-dist] {
			t.Fatal(dist, b, e)
		}
	}
}

// P6.2: a window that may not be, ahead of numbers that may not be, ahead of a distance that is too far; nothing beside an error.
func TestCopyErrors(t *testing.T) {
	wrong := []int{-1, -2, -258, -32768, -1 << 32, math.MinInt, math.MinInt + 1}
	much := []int{259, 260, 511, 512, 513, 65536, 1 << 32, 1<<32 + 1, 1<<32 + 258, math.MaxInt - 1, math.MaxInt}
	ask := func(w api.Window, dist, n int, want api.Errno) {
		t.Helper()
		if got, b, e := slide.Copy(w, dist, n); !zero(got) || b != nil || e != want {
			t.Errorf("Copy(%d of %d, %d, %d) is %d of %d, %v, %d, not error %d", len(w.Bytes), w.Size, dist, n, len(got.Bytes), got.Size, b, e, want)
		}
	}
	for _, w := range good() {
		far := len(w.Bytes)
		for _, n := range slices.Concat(wrong, much) {
			for _, dist := range slices.Concat([]int{0, 1, far, far + 1}, wrong, much) {
				ask(w, dist, n, api.ErrArg)
			}
		}
		for _, n := range []int{0, 1, 3, 258} {
			ask(w, 0, n, api.ErrArg)
			for _, dist := range wrong {
				ask(w, dist, n, api.ErrArg)
			}
			for _, dist := range []int{far + 1, far + 2, far + 258, 32769, 65536, 1 << 32, 1<<32 + 1, math.MaxInt - 1, math.MaxInt} {
				ask(w, dist, n, api.ErrDist)
			}
		}
	}
	for _, w := range bad() {
		for _, n := range []int{0, 1, 258, 259, -1, math.MaxInt, math.MinInt} {
			for _, dist := range []int{0, 1, 2, -1, 32768, 32769, math.MaxInt, math.MinInt} {
				ask(w, dist, n, api.ErrBad)
			}
		}
	}
}

// handed is a window and bytes whose memory goes on behind them, and that memory.
func handed(w api.Window, b []byte) (api.Window, []byte, [][]byte) {
	memory := [][]byte{append(slices.Clone(w.Bytes), letters(300)...), append(slices.Clone(b), letters(300)...)}
	return api.Window{Size: w.Size, Bytes: memory[0][:len(w.Bytes)]}, memory[1][:len(b)], memory
}

// spoil writes over all memory of a list.
func spoil(b []byte) {
	b = b[:cap(b)]
	for i := range b {
		b[i] = ^b[i]
	}
}

// P6.3: neither a window, nor bytes, nor the memory behind them are written to; a second call answers the same.
func TestReadingChangesNothing(t *testing.T) {
	c := chance(2)
	for _, given := range append(good(), bad()...) {
		for _, n := range []int{0, 1, 2, 5, 258, 259} {
			w, b, memory := handed(given, c.bytes(n))
			before := [][]byte{slices.Clone(memory[0]), slices.Clone(memory[1])}
			check := slide.Check(w)
			pushed, e := slide.Push(w, b)
			dist := 1 + c.below(len(w.Bytes)+1)
			copied, l, f := slide.Copy(w, dist, n)
			for range 2 {
				pushedAgain, eAgain := slide.Push(w, b)
				copiedAgain, lAgain, fAgain := slide.Copy(w, dist, n)
				if eAgain != e || fAgain != f || slide.Check(w) != check || !bytes.Equal(lAgain, l) ||
					!is(pushedAgain, pushed.Size, pushed.Bytes) || !is(copiedAgain, copied.Size, copied.Bytes) {
					t.Fatal(w.Size, len(w.Bytes), dist, n, "a second call answers otherwise")
				}
			}
			if !bytes.Equal(memory[0], before[0]) || !bytes.Equal(memory[1], before[1]) {
				t.Fatal(w.Size, len(w.Bytes), dist, n, "what was handed in is not as it was")
			}
		}
	}
}

// P6.3: what is answered is its caller's: it shares no memory with what was handed in, nor a copy's window any with the copy's bytes; so where nothing goes in, too.
func TestAnswersAreApart(t *testing.T) {
	c := chance(3)
	for _, given := range good() {
		far := len(given.Bytes)
		for _, n := range []int{0, 1, 2, 5, 258} {
			w, b, memory := handed(given, c.bytes(n))
			before := [][]byte{slices.Clone(memory[0]), slices.Clone(memory[1])}
			pushed := push(t, w, b)
			spoil(pushed.Bytes)
			for dist := 1; dist <= far; dist += 1 + far/3 {
				first, l := take(t, w, dist, n)
				second, k := take(t, w, dist, n)
				spoil(first.Bytes)
				if !bytes.Equal(l, k) {
					t.Fatal(w.Size, far, dist, n, "a copy's bytes hang on its window")
				}
				spoil(l)
				if all := more(w.Bytes, dist, n); !is(second, w.Size, ends(all, w.Size)) || !bytes.Equal(k, all[far:]) {
					t.Fatal(w.Size, far, dist, n, "two answers hang on one another")
				}
			}
			if !bytes.Equal(memory[0], before[0]) || !bytes.Equal(memory[1], before[1]) {
				t.Fatal(w.Size, far, n, "what was handed in hangs on what was answered")
			}
			inherits(t, w, b, n)
		}
	}
}

// inherits writes over what was handed in, and looks whether what was answered stays as it is.
func inherits(t *testing.T, w api.Window, b []byte, n int) {
	t.Helper()
	far := len(w.Bytes)
	pushed, want := push(t, w, b), ends(slices.Concat(w.Bytes, b), w.Size)
	var copied api.Window
	var l, all []byte
	if far > 0 {
		copied, l = take(t, w, far, n)
		all = more(w.Bytes, far, n)
	}
	spoil(w.Bytes)
	spoil(b)
	if !is(pushed, w.Size, want) || far > 0 && (!is(copied, w.Size, ends(all, w.Size)) || !bytes.Equal(l, all[far:])) {
		t.Fatal(w.Size, far, n, "what was answered hangs on what was handed in")
	}
}

// P6.3: bytes that two callers put behind a window that was answered don't meet.
func TestBytesBehindAWindow(t *testing.T) {
	for _, given := range good() {
		w := push(t, given, []byte("abc"))
		one, other := append(w.Bytes, 1, 1, 1), append(w.Bytes, 2, 2, 2)
		if !bytes.HasSuffix(one, []byte{1, 1, 1}) || !bytes.HasSuffix(other, []byte{2, 2, 2}) {
			t.Fatal(given.Size, len(given.Bytes))
		}
	}
}

// P6.4: bytes in two parts, cut at each place, go in as at once.
func TestPushInTwoParts(t *testing.T) {
	c := chance(4)
	for _, w := range good() {
		if w.Size > 300 {
			continue
		}
		for _, n := range []int{0, 1, 2, 5, 9, 40} {
			b := c.bytes(n)
			whole := push(t, w, b)
			for cut := range n + 1 {
				if got := push(t, push(t, w, b[:cut]), b[cut:]); !is(got, whole.Size, whole.Bytes) {
					t.Fatal(w, b, cut, got)
				}
			}
		}
	}
	w := api.Window{Size: api.MaxWindow, Bytes: letters(1000)}
	b := c.bytes(1 << 17)
	whole := push(t, w, b)
	for _, cut := range []int{0, 1, 31767, 31768, 31769, 32768, 65536, 98303, 98304, 98305, 1<<17 - 1, 1 << 17} {
		if got := push(t, push(t, w, b[:cut]), b[cut:]); !is(got, whole.Size, whole.Bytes) {
			t.Fatal(cut)
		}
	}
}

// P6.4: with a distance of 1 a copy is one byte, again and again; one in two parts is as one at once.
func TestCopyOfItself(t *testing.T) {
	for _, w := range good() {
		far := len(w.Bytes)
		if far == 0 {
			continue
		}
		for _, n := range []int{0, 1, 2, 7, 257, 258} {
			if _, b := take(t, w, 1, n); string(b) != strings.Repeat(string(w.Bytes[far-1:]), n) {
				t.Fatal(far, w.Size, n, b)
			}
			for dist := 1; dist <= far; dist += 1 + far/4 {
				whole, b := take(t, w, dist, n)
				for cut := 0; cut <= n; cut += 1 + n/3 {
					first, one := take(t, w, dist, cut)
					second, other := take(t, first, dist, n-cut)
					if !is(second, whole.Size, whole.Bytes) || !bytes.Equal(slices.Concat(one, other), b) {
						t.Fatal(far, w.Size, dist, n, cut)
					}
				}
			}
		}
	}
}

// P6.4: many bytes and copies behind one another are what a list of all bytes has; the window has never more than its size.
func TestListOfAllBytes(t *testing.T) {
	c := chance(5)
	for _, size := range []int{1, 2, 3, 4, 7, 100, 257, 258, 259, 1000, 32767, 32768} {
		w, e := slide.New(size)
		if e != api.OK {
			t.Fatal(e)
		}
		var all []byte
		for range 300 {
			if far := len(w.Bytes); far > 0 && c.below(4) > 0 {
				dist := 1 + c.below(far)
				if c.below(3) == 0 {
					dist = 1 + c.below(min(far, 5))
				}
				n := c.below(259)
				got, b, e := slide.Copy(w, dist, n)
				before := len(all)
				all = more(all, dist, n)
				if e != api.OK || !bytes.Equal(b, all[before:]) {
					t.Fatal(size, dist, n, e)
				}
				w = got
			} else {
				b := c.bytes(c.below(2*min(size, 700) + 2))
				all = append(all, b...)
				if w, e = slide.Push(w, b); e != api.OK {
					t.Fatal(size, e)
				}
			}
			if !is(w, size, ends(all, size)) || len(w.Bytes) > size || slide.Check(w) != api.OK {
				t.Fatal(size, len(all), len(w.Bytes))
			}
		}
	}
}

// P1: of whatever windows, bytes and numbers each call ends, and none panics.
func TestWhateverIsHandedIn(t *testing.T) {
	c := chance(8)
	numbers := []int{0, 1, 2, 3, 4, 5, -1, 257, 258, 259, 32767, 32768, 32769, 1 << 17, 1 << 32, math.MaxInt / 2, math.MaxInt, math.MinInt}
	for range 20000 {
		w := api.Window{Size: numbers[c.below(len(numbers))], Bytes: c.bytes(c.below(7))}
		b, dist, n := c.bytes(c.below(7)), numbers[c.below(len(numbers))], numbers[c.below(len(numbers))]
		want := api.OK
		switch {
		case w.Size < 1 || w.Size > 32768 || len(w.Bytes) > w.Size:
			want = api.ErrBad
		case n < 0 || n > 258 || dist < 1:
			want = api.ErrArg
		case dist > len(w.Bytes):
			want = api.ErrDist
		default:
			take(t, w, dist, n)
		}
		if got, l, e := slide.Copy(w, dist, n); e != want || e != api.OK && (!zero(got) || l != nil) {
			t.Fatal(w, dist, n, got, l, e)
		}
		if want != api.ErrBad {
			push(t, w, b)
		} else if got, e := slide.Push(w, b); !zero(got) || e != want {
			t.Fatal(w, b, got, e)
		}
		slide.New(n)
	}
}

// The chapter's examples.
func TestExamples(t *testing.T) {
	w, e := slide.New(4)
	if e != api.OK {
		t.Fatal(e)
	}
	w = push(t, w, []byte("abc"))
	if got := push(t, w, []byte("de")); string(got.Bytes) != "bcde" {
		t.Error(string(got.Bytes))
	}
	for i, x := range []struct {
		dist, n int
		b, w    string
		e       api.Errno
	}{
		{3, 5, "abcab", "bcab", api.OK},
		{1, 4, "cccc", "cccc", api.OK},
		{3, 0, "", "abc", api.OK},
		{4, 3, "", "", api.ErrDist},
		{0, 3, "", "", api.ErrArg},
		{1, 259, "", "", api.ErrArg},
	} {
		if got, b, e := slide.Copy(w, x.dist, x.n); string(b) != x.b || string(got.Bytes) != x.w || e != x.e {
			t.Error(i, string(b), string(got.Bytes), e)
		}
	}
}
