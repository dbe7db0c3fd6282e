package match_test

import (
	"bytes"
	"math"
	"slices"
	"strings"
	"testing"

	"bellows/api"
	"bellows/match"
)

// meets is how many bytes match, by the chapter's words alone, so that it shares nothing with the package: the most of up to 258 of which both rows are there, and are the same.
func meets(b []byte, at, from int) int {
	n := 0
	for n < 258 && at+n+1 <= len(b) && string(b[at:at+n+1]) == string(b[from:from+n+1]) {
		n++
	}
	return n
}

// best is the best match by the chapter's words: all places are gathered, and only then looked at.
func best(b []byte, at, size, chain int) (dist, long int, e api.Errno) {
	var dists []int
	for d := 1; d <= min(size, at); d++ {
		if meets(b, at, at-d) >= 3 {
			dists = append(dists, d)
		}
	}
	dists = dists[:min(chain, len(dists))]
	if len(dists) == 0 {
		return 0, 0, api.ErrNone
	}
	slices.SortStableFunc(dists, func(x, y int) int { return meets(b, at, at-y) - meets(b, at, at-x) })
	return dists[0], meets(b, at, at-dists[0]), api.OK
}

// long asks Long where it may be asked, and holds what it answers against the chapter's words.
func long(t *testing.T, b []byte, at, from int) int {
	t.Helper()
	n, e := match.Long(b, at, from)
	if want := meets(b, at, from); n != want || e != api.OK {
		t.Fatalf("Long(%d bytes, %d, %d) is %d, %d, not %d", len(b), at, from, n, e, want)
	}
	return n
}

// find asks Find where it may be asked, and holds what it answers against the chapter's words.
func find(t *testing.T, b []byte, at, size, chain int) (dist, long int, e api.Errno) {
	t.Helper()
	dist, long, e = match.Find(b, at, size, chain)
	if d, n, f := best(b, at, size, chain); dist != d || long != n || e != f {
		t.Fatalf("Find(%d bytes, %d, %d, %d) is %d, %d, %d, not %d, %d, %d", len(b), at, size, chain, dist, long, e, d, n, f)
	}
	return dist, long, e
}

// is asks Find, and holds what it answers against what is told, where the chapter's words would take long to follow.
func is(t *testing.T, b []byte, at, size, chain, dist, long int, e api.Errno) {
	t.Helper()
	d, n, f := match.Find(b, at, size, chain)
	if d != dist || n != long || f != e {
		t.Errorf("Find(%d bytes, %d, %d, %d) is %d, %d, %d, not %d, %d, %d", len(b), at, size, chain, d, n, f, dist, long, e)
	}
}

// chance gives numbers that look like chance and are always the same.
type chance uint64

func (c *chance) below(n int) int {
	*c ^= *c << 13
	*c ^= *c >> 7
	*c ^= *c << 17
	return int(uint64(*c>>16) % uint64(n))
}

// bytes are n bytes of some letters.
func (c *chance) bytes(n, letters int) []byte {
	b := make([]byte, n)
	for i := range b {
		b[i] = byte(c.below(letters))
	}
	return b
}

// words are n bytes made of a few rows, again and again, so that long matches are met.
func (c *chance) words(n int) []byte {
	var b []byte
	for len(b) < n {
		from := 0
		if len(b) > 0 {
			from = c.below(len(b))
		}
		b = append(b, b[from:min(from+c.below(40), len(b))]...)
		b = append(b, c.bytes(c.below(4), 3)...)
	}
	return b[:n]
}

// each calls do with each row of n bytes of some letters.
func each(n, letters int, do func([]byte)) {
	b := make([]byte, n)
	for {
		do(b)
		i := 0
		for i < n && int(b[i]) == letters-1 {
			b[i] = 0
			i++
		}
		if i == n {
			return
		}
		b[i]++
	}
}

// unlike is n bytes that stand in none of the other texts, each three of which stand once.
func unlike(n int) []byte {
	var b []byte
	for i := 0; len(b) < n; i++ {
		b = append(b, byte(128+i/4096%64), byte(192+i%64), byte(64+i/64%64))
	}
	return b[:n]
}

// P7.1: Long of each small text, at each place, with each earlier one.
func TestLongOfEachSmallText(t *testing.T) {
	for n := range 9 {
		each(n, 2, func(b []byte) {
			for at := range n + 1 {
				for from := range at {
					long(t, b, at, from)
				}
			}
		})
	}
}

// P7.1: matches of about as many bytes as are counted at most, and up to the end; the earlier bytes run on into the later ones, touch them, and stand apart.
func TestLongOfManyBytes(t *testing.T) {
	for n := 250; n <= 262; n++ {
		for _, dist := range []int{1, 2, 3, 100, 255, 256, 257, 258, 259, 1000} {
			b := unlike(dist)
			for range n {
				b = append(b, b[len(b)-dist])
			}
			if got := long(t, b, dist, 0); got != min(n, 258) {
				t.Error(n, dist, got)
			}
			// One byte that differs stands behind, and then more that are the same.
			b = append(b, 1)
			for range 300 {
				b = append(b, b[len(b)-dist])
			}
			if got := long(t, b, dist, 0); got != min(n, 258) {
				t.Error(n, dist, got)
			}
		}
	}
	same := bytes.Repeat([]byte("z"), 600)
	for at := 1; at <= 600; at++ {
		for _, from := range []int{0, at / 2, at - 1} {
			if got := long(t, same, at, from); got != min(600-at, 258) {
				t.Error(at, from, got)
			}
		}
	}
}

// P7.1: bytes match as bytes, whatever they are; far apart, too.
func TestLongOfAnyBytes(t *testing.T) {
	for x := range 256 {
		for _, y := range []int{x, x ^ 1, x ^ 128, 255 - x} {
			b := []byte{7, byte(x), 9, 7, byte(y), 9}
			long(t, b, 3, 0)
		}
	}
	b := make([]byte, 1<<17)
	copy(b[1:], "abcd")
	copy(b[1<<17-5:], "abcd")
	for _, x := range [][3]int{{1<<17 - 5, 1, 5}, {1<<17 - 5, 2, 0}, {1<<17 - 1, 0, 1}, {1 << 17, 0, 0}, {1 << 17, 1<<17 - 1, 0}, {1 << 16, 5, 258}} {
		if got := long(t, b, x[0], x[1]); got != x[2] {
			t.Error(x, got)
		}
	}
}

// far are numbers that may be no place.
var far = []int{1<<17 + 1, 1 << 18, 1 << 31, 1 << 32, 1<<32 + 1, 1<<32 + 3, math.MaxInt - 258, math.MaxInt - 1, math.MaxInt}

// below are numbers that may be nothing.
var below = []int{-1, -2, -3, -258, -1 << 17, -1 << 32, math.MinInt, math.MinInt + 1}

// P7.1: too many bytes ahead of places that may not be; nothing beside an error.
func TestLongErrors(t *testing.T) {
	ask := func(b []byte, at, from int, want api.Errno) {
		t.Helper()
		if n, e := match.Long(b, at, from); n != 0 || e != want {
			t.Errorf("Long(%d bytes, %d, %d) is %d, %d, not error %d", len(b), at, from, n, e, want)
		}
	}
	for _, many := range []int{0, 1, 2, 9, 300, 1<<17 - 1, 1 << 17} {
		b := make([]byte, many)
		for _, at := range slices.Concat(below, far, []int{many + 1, many + 2}) {
			for _, from := range slices.Concat(below, far, []int{0, 1, at - 1, many - 1}) {
				ask(b, at, from, api.ErrArg)
			}
		}
		for _, at := range []int{0, 1, 2, many - 1, many} {
			for _, from := range slices.Concat(below, far, []int{at, at + 1, many, many + 1}) {
				if from < 0 || from >= at {
					ask(b, at, from, api.ErrArg)
				}
			}
		}
	}
	for _, b := range [][]byte{make([]byte, 1<<17+1), make([]byte, 1<<18), make([]byte, 1<<20)} {
		for _, at := range []int{0, 1, 9, -1, 1 << 17, len(b), len(b) + 1, math.MaxInt, math.MinInt} {
			for _, from := range []int{0, 8, at - 1, at, -1, math.MaxInt, math.MinInt} {
				ask(b, at, from, api.ErrMany)
			}
		}
	}
}

// P7.2: Find in each small text, at each place, of windows and chains that end ahead of the first byte, on it, and behind it.
func TestFindInEachSmallText(t *testing.T) {
	for n := range 11 {
		each(n, 2, func(b []byte) {
			for at := range n + 1 {
				for _, size := range []int{1, 2, 3, 4, 5, 7, 9, 10, 32768} {
					for _, chain := range []int{0, 1, 2, 3, 256} {
						find(t, b, at, size, chain)
					}
				}
			}
		})
	}
	for n := range 9 {
		each(n, 3, func(b []byte) {
			for at := range n + 1 {
				for _, size := range []int{1, 2, 3, 4, 5, 32} {
					find(t, b, at, size, 1)
					find(t, b, at, size, 9)
				}
			}
		})
	}
}

// P7.2: longer texts in which much is met again.
func TestFindInTexts(t *testing.T) {
	c := chance(88172645463325252)
	met := 0
	for range 60 {
		for _, b := range [][]byte{c.bytes(400, 2), c.bytes(400, 5), c.bytes(400, 256), c.words(600), c.words(900)} {
			for range 60 {
				at, size, chain := c.below(len(b)+1), 1+c.below(len(b)+9), c.below(12)
				if c.below(4) == 0 {
					size, chain = 1+c.below(1<<15), c.below(257)
				}
				if _, long, _ := find(t, b, at, size, chain); long > 20 {
					met++
				}
			}
		}
	}
	if met < 500 {
		t.Error("only", met, "long matches were met")
	}
}

// P7.2: three bytes at least, none of them another; fewer are nothing, nor are three of which the end leaves two.
func TestThreeBytesMatch(t *testing.T) {
	for i, x := range []struct {
		b          string
		at         int
		dist, long int
	}{
		{"abc-abc", 4, 4, 3}, {"abc-abx", 4, 0, 0}, {"abc-axc", 4, 0, 0}, {"abc-xbc", 4, 0, 0}, {"abc-ab", 4, 0, 0}, {"abc-a", 4, 0, 0}, {"abc-", 4, 0, 0},
		{"abcabc", 3, 3, 3}, {"abcab", 3, 0, 0}, {"zzzz", 1, 1, 3}, {"zzz", 1, 0, 0}, {"zzzz", 2, 0, 0}, {"zzzz", 4, 0, 0}, {"zyzyz", 2, 2, 3}, {"zyzy", 2, 0, 0},
		{"abc", 0, 0, 0}, {"", 0, 0, 0}, {"a", 1, 0, 0}, {"abcdabcd", 4, 4, 4}, {"bcd-abcd", 4, 0, 0}, {"\x00\x00\x00", 0, 0, 0}, {"\x00\x00\x00\x00", 1, 1, 3},
	} {
		dist, long, e := find(t, []byte(x.b), x.at, 32768, 256)
		if dist != x.dist || long != x.long || (e == api.OK) != (long > 0) {
			t.Error(i, dist, long, e)
		}
	}
}

// P7.2: of several that are as long the nearest one, be they cut off by another byte, by the end, or by the most that is counted; a longer one that is farther goes ahead of them.
func TestNearestOfTheLongest(t *testing.T) {
	for _, n := range []int{3, 4, 9, 257, 258, 259, 300} {
		row := unlike(n)
		want := min(n, 258)
		for _, tail := range []string{"", "!"} {
			b := slices.Concat([]byte("a"), row, []byte("b"), row, []byte("c"), row, []byte(tail))
			if dist, long, e := find(t, b, 2*n+3, 32768, 256); dist != n+1 || long != want || e != api.OK {
				t.Error(n, tail, dist, long, e)
			}
			b = slices.Concat(row, []byte("!b"), row, []byte("c"), row, []byte("!"))
			far, longest := 2*n+3, n+1
			if n >= 258 {
				far, longest = n+1, 258
			}
			if dist, long, e := find(t, b, 2*n+3, 32768, 256); dist != far || long != longest || e != api.OK {
				t.Error(n, dist, long, e)
			}
		}
	}
}

// P7.2: a match is as long as 258 bytes, or as the end allows; how far ahead it stands counts for nothing there.
func TestFindUpToTheEnd(t *testing.T) {
	for at := 1; at <= 400; at++ {
		b, want := bytes.Repeat([]byte("z"), 400), min(400-at, 258)
		dist, e := 1, api.OK
		if want < 3 {
			dist, want, e = 0, 0, api.ErrNone
		}
		is(t, b, at, 32768, 256, dist, want, e)
		is(t, b, at, 1, 1, dist, want, e)
	}
	for n := 250; n <= 262; n++ {
		row := unlike(n)
		b := slices.Concat([]byte("a"), row, []byte("b"), row)
		is(t, b, n+2, 32768, 256, n+1, min(n, 258), api.OK)
		is(t, append(b, 1), n+2, 32768, 256, n+1, min(n, 258), api.OK)
	}
}

// P7.2: Size ahead at most: a match at each distance is found by a window of so many bytes, and by none that is smaller.
func TestWindow(t *testing.T) {
	for _, dist := range []int{3, 4, 5, 31, 32, 33, 255, 256, 257, 258, 4095, 4096, 4097, 32766, 32767, 32768, 32769, 65535, 65536, 65537} {
		for _, ahead := range []int{0, 1, 1000} {
			b := slices.Concat(unlike(ahead), []byte("abc"), bytes.Repeat([]byte("-"), dist-3), []byte("abc"))
			at := ahead + dist
			for _, size := range []int{1, dist - 1, dist, dist + 1, at, 32768} {
				if size > 32768 {
					continue
				}
				if size >= dist {
					is(t, b, at, size, 256, dist, 3, api.OK)
				} else {
					is(t, b, at, size, 256, 0, 0, api.ErrNone)
				}
			}
		}
	}
	// The farthest place is a longer match than the nearest one.
	b := slices.Concat([]byte("abcd"), bytes.Repeat([]byte("-"), 32760), []byte("abcxabcd"))
	is(t, b, 32768, 32768, 256, 32768, 4, api.OK)
	is(t, b, 32768, 32767, 256, 4, 3, api.OK)
	is(t, b, 32768, 4, 256, 4, 3, api.OK)
	is(t, b, 32768, 3, 256, 0, 0, api.ErrNone)
}

// P7.2: Chain places at most, and only those at which three bytes match: there are 300, of which the farther ones are longer, two and two as long; behind each stands a place at which two bytes match, which is not counted.
func TestChain(t *testing.T) {
	row := unlike(303)
	var parts [][]byte
	for i := range 300 {
		parts = append(parts, slices.Concat(row[:3+i/2], []byte("!"), row[:2], []byte("?")))
	}
	slices.Reverse(parts)
	b := slices.Concat(parts...)
	at := len(b)
	b = append(b, row...)
	is(t, b, at, 32768, 0, 0, 0, api.ErrNone)
	dist := 0
	for chain := 1; chain <= 256; chain++ {
		// The nearer one of the last two that are as long.
		if chain%2 == 1 {
			dist = len(slices.Concat(parts[300-chain:]...))
		}
		is(t, b, at, 32768, chain, dist, 3+(chain-1)/2, api.OK)
	}
}

// P7.2: of places that stand near one another each counts, up to 256.
func TestLongestChain(t *testing.T) {
	var b []byte
	b = append(b, "abcdef"...)
	for range 255 {
		b = append(b, "abcx"...)
	}
	for _, x := range []struct{ more, chain, dist, long int }{
		{0, 256, 1026, 6}, {0, 255, 4, 3}, {0, 1, 4, 3}, {1, 256, 4, 3}, {1, 255, 4, 3},
	} {
		text := slices.Concat(b, []byte(strings.Repeat("abcx", x.more)))
		at := len(text)
		is(t, append(text, "abcdef"...), at, 32768, x.chain, x.dist, x.long, api.OK)
	}
}

// P7.2: too many bytes ahead of numbers that may not be, and these ahead of none; nothing beside an error.
func TestFindErrors(t *testing.T) {
	wrongSizes := slices.Concat(below, []int{0, 32769, 32770, 65536, 65537, 1 << 31, 1 << 32, 1<<32 + 1, math.MaxInt})
	wrongChains := slices.Concat(below, []int{257, 258, 512, 65536, 1 << 31, 1 << 32, 1<<32 + 1, math.MaxInt})
	for _, many := range []int{0, 1, 2, 9, 300, 1 << 17} {
		b := make([]byte, many)
		for _, at := range slices.Concat(below, far, []int{many + 1, many + 2}) {
			for _, size := range []int{1, 32, 32768, 0, 32769} {
				for _, chain := range []int{0, 1, 256, 257, -1} {
					is(t, b, at, size, chain, 0, 0, api.ErrArg)
				}
			}
		}
		for _, at := range []int{0, min(1, many), many} {
			for _, size := range wrongSizes {
				for _, chain := range []int{0, 1, 256, 257, -1} {
					is(t, b, at, size, chain, 0, 0, api.ErrArg)
				}
			}
			for _, chain := range wrongChains {
				for _, size := range []int{1, 32, 32768} {
					is(t, b, at, size, chain, 0, 0, api.ErrArg)
				}
			}
			for _, size := range []int{1, 2, 32767, 32768} {
				is(t, b, at, size, 0, 0, 0, api.ErrNone)
			}
		}
	}
	for _, b := range [][]byte{make([]byte, 1<<17+1), make([]byte, 1<<18), make([]byte, 1<<20)} {
		for _, at := range []int{0, 1, -1, 1 << 17, len(b), len(b) + 1, math.MaxInt, math.MinInt} {
			for _, size := range []int{1, 32768, 0, 32769, -1, math.MaxInt} {
				for _, chain := range []int{0, 1, 256, 257, -1, math.MinInt} {
					is(t, b, at, size, chain, 0, 0, api.ErrMany)
				}
			}
		}
	}
}

// P7.2: as many bytes as may be.
func TestFindInMostBytes(t *testing.T) {
	b := make([]byte, 1<<17)
	for _, x := range [][3]int{{1, 1, 258}, {1 << 16, 1, 258}, {1<<17 - 258, 1, 258}, {1<<17 - 257, 1, 257}, {1<<17 - 3, 1, 3}, {1<<17 - 2, 0, 0}, {1 << 17, 0, 0}, {0, 0, 0}} {
		want := api.OK
		if x[2] == 0 {
			want = api.ErrNone
		}
		is(t, b, x[0], 32768, 256, x[1], x[2], want)
	}
	copy(b[1<<17-32768-3:], "abc")
	copy(b[1<<17-3:], "abc")
	is(t, b, 1<<17-3, 32768, 256, 32768, 3, api.OK)
	is(t, b, 1<<17-3, 32767, 256, 0, 0, api.ErrNone)
}

// P7.3: neither bytes, nor the memory behind them, are written to, nor read behind the end; a second call answers the same.
func TestReadingChangesNothing(t *testing.T) {
	c := chance(2)
	for range 300 {
		b := c.words(200)
		memory := slices.Clone(b)
		end := c.below(len(b) + 1)
		handed := memory[:end]
		at := c.below(end + 1)
		size, chain := 1+c.below(300), c.below(20)
		if at > 0 {
			from := c.below(at)
			n := long(t, handed, at, from)
			find(t, b, c.below(len(b)+1), size, chain)
			if again := long(t, handed, at, from); again != n {
				t.Fatal(end, at, from, "a second call answers otherwise")
			}
		}
		dist, n, e := find(t, handed, at, size, chain)
		find(t, b, c.below(len(b)+1), 32768, 256)
		if d, m, f := find(t, handed, at, size, chain); d != dist || m != n || e != f {
			t.Fatal(end, at, size, chain, "a second call answers otherwise")
		}
		if !bytes.Equal(memory, b) {
			t.Fatal(end, at, size, chain, "what was handed in is not as it was")
		}
	}
}

// P7.4: what is found is there, and as long as Long tells.
func TestWhatIsFoundIsThere(t *testing.T) {
	c := chance(3)
	for range 2000 {
		b := c.words(300)
		at, size, chain := c.below(len(b)+1), 1+c.below(300), c.below(20)
		dist, n, e := match.Find(b, at, size, chain)
		if e == api.ErrNone {
			continue
		}
		if e != api.OK || dist < 1 || dist > min(size, at) || n < 3 || n > min(258, len(b)-at) || chain == 0 {
			t.Fatal(at, size, chain, dist, n, e)
		}
		for i := range n {
			if b[at+i] != b[at+i-dist] {
				t.Fatal(at, size, chain, dist, n, i)
			}
		}
		if m, e := match.Long(b, at, at-dist); m != n || e != api.OK {
			t.Fatal(at, size, chain, dist, n, m, e)
		}
	}
}

// P7.4: with a longer chain, or a larger window, nothing shorter is found.
func TestMoreFindsNothingShorter(t *testing.T) {
	c := chance(4)
	for range 200 {
		b := c.words(300)
		at := c.below(len(b) + 1)
		last := 0
		for chain := range 257 {
			_, n, e := match.Find(b, at, 300, chain)
			if n < last || (e == api.OK) != (n > 0) {
				t.Fatal(at, chain, n, last)
			}
			last = n
		}
		last = 0
		for size := 1; size <= 302; size++ {
			_, n, e := match.Find(b, at, size, 256)
			if n < last || (e == api.OK) != (n > 0) {
				t.Fatal(at, size, n, last)
			}
			last = n
		}
	}
}

// P7.4: bytes behind what matches count for nothing, but for one: other ones there, fewer and more, change no answer.
func TestBytesBehindCountForNothing(t *testing.T) {
	c := chance(5)
	for range 3000 {
		b := c.words(300)
		at, size, chain := c.below(len(b)+1), 1+c.below(300), c.below(20)
		dist, n, e := match.Find(b, at, size, chain)
		end := at + n + 1
		if e == api.ErrNone {
			// Two bytes may match, and the third one tells that no more do.
			end = at + 3
		}
		if end > len(b) {
			continue
		}
		for _, behind := range [][]byte{nil, c.bytes(len(b)-end, 3), c.words(400), bytes.Repeat(b[end-1:end], 300)} {
			other := slices.Concat(b[:end], behind)
			if d, m, f := match.Find(other, at, size, chain); d != dist || m != n || f != e {
				t.Fatal(at, size, chain, dist, n, e, d, m, f)
			}
		}
	}
	// What is as long as may be needs not even that one.
	row := unlike(300)
	for _, behind := range []string{"", "a", "b", "abc"} {
		b := slices.Concat(row, []byte("-"), row[:258], []byte(behind))
		is(t, b, 301, 32768, 256, 301, 258, api.OK)
	}
}

// P1: of whatever numbers each call ends, and none panics.
func TestWhateverIsHandedIn(t *testing.T) {
	c := chance(8)
	numbers := slices.Concat(below, far, []int{0, 1, 2, 3, 4, 5, 6, 9, 32, 255, 256, 257, 258, 32767, 32768, 32769})
	pick := func() int { return numbers[c.below(len(numbers))] }
	for range 50000 {
		b := c.bytes(c.below(10), 2)
		at, from, size, chain := pick(), pick(), pick(), pick()
		mayBe := at >= 0 && at <= len(b)
		n, e := match.Long(b, at, from)
		if mayBe && from >= 0 && from < at {
			long(t, b, at, from)
		} else if n != 0 || e != api.ErrArg {
			t.Fatal(b, at, from, n, e)
		}
		if mayBe && size >= 1 && size <= 32768 && chain >= 0 && chain <= 256 {
			find(t, b, at, size, chain)
		} else {
			is(t, b, at, size, chain, 0, 0, api.ErrArg)
		}
	}
}

// The chapter's examples.
func TestExamples(t *testing.T) {
	b := []byte("abcabcabxabcabc")
	for i, x := range [][3]int{{3, 0, 5}, {9, 3, 5}, {15, 0, 0}} {
		if n, e := match.Long(b, x[0], x[1]); n != x[2] || e != api.OK {
			t.Error(i, n, e)
		}
	}
	is(t, b, 3, 32, 9, 3, 5, api.OK)
	is(t, b, 9, 32, 9, 9, 6, api.OK)
	is(t, b, 9, 32, 1, 6, 5, api.OK)
	is(t, b, 9, 8, 9, 6, 5, api.OK)
	is(t, b, 8, 32, 9, 0, 0, api.ErrNone)
	is(t, b, 9, 32, 0, 0, 0, api.ErrNone)
}
