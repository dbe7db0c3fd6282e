package token_test

import (
	"bytes"
	"math"
	"slices"
	"strings"
	"testing"

	"bellows/api"
	"bellows/token"
)

// meets is how many bytes match at two places, by the words of the chapter of matches alone: up to 258 of which both rows are there, and are the same.
func meets(b []byte, at, from int) int {
	n := 0
	for n < 258 && at+n < len(b) && b[at+n] == b[from+n] {
		n++
	}
	return n
}

// best is the best match at a place, by the same words: how far ahead, and how long, 0 and 0 if there is none.
func best(b []byte, at int, s api.Style) (dist, long int) {
	left := s.Chain
	for d := 1; d <= min(s.Size, at) && left > 0; d++ {
		n := meets(b, at, at-d)
		if n >= 3 {
			left--
		}
		if n >= 3 && n > long {
			dist, long = d, n
		}
	}
	return dist, long
}

// tokens are the tokens of b from a place on, by the chapter's words, so that they share nothing with the package.
func tokens(b []byte, from int, s api.Style) []api.Token {
	var l []api.Token
	at := from
	for at < len(b) {
		dist, long := best(b, at, s)
		isByte := long == 0
		if long > 0 && s.Lazy {
			_, next := best(b, at+1, s)
			isByte = next > long
		}
		if isByte {
			l = append(l, api.Token{Lit: b[at]})
			at++
		} else {
			l = append(l, api.Token{Dist: dist, Long: long})
			at += long
		}
	}
	return l
}

// cut asks Cut where it may be asked, and holds what it answers against the chapter's words.
func cut(t *testing.T, b []byte, from int, s api.Style) []api.Token {
	t.Helper()
	l, e := token.Cut(b, from, s)
	if want := tokens(b, from, s); e != api.OK || !slices.Equal(l, want) {
		t.Fatalf("Cut(%q, %d, %v) is %v, %d, not %v", b, from, s, l, e, want)
	}
	return l
}

// cuts holds Cut against what is told.
func cuts(t *testing.T, b string, from int, s api.Style, want ...api.Token) {
	t.Helper()
	if l, e := token.Cut([]byte(b), from, s); e != api.OK || !slices.Equal(l, want) {
		t.Errorf("Cut(%q, %d, %v) is %v, %d, not %v", b, from, s, l, e, want)
	}
}

// plays holds Play against what is told.
func plays(t *testing.T, ahead string, l []api.Token, want string) {
	t.Helper()
	if b, e := token.Play([]byte(ahead), l); e != api.OK || string(b) != want {
		t.Errorf("Play(%d bytes, %d tokens) is %q, %d, not %q", len(ahead), len(l), b, e, want)
	}
}

// fails asks Play what has an error, with nothing beside it.
func fails(t *testing.T, ahead []byte, l []api.Token, want api.Errno) {
	t.Helper()
	if b, e := token.Play(ahead, l); e != want || b != nil {
		t.Errorf("Play(%d bytes, %d tokens) is %d bytes, %d, not error %d", len(ahead), len(l), len(b), e, want)
	}
}

// lit are the tokens that are a text's bytes.
func lit(s string) []api.Token {
	var l []api.Token
	for _, x := range []byte(s) {
		l = append(l, api.Token{Lit: x})
	}
	return l
}

// far is a copy of so many bytes, so far ahead.
func far(long, dist int) api.Token {
	return api.Token{Dist: dist, Long: long}
}

// eager and lazy are styles of the largest window, and the longest chain.
var (
	eager = api.Style{Size: 1 << 15, Chain: 256, Most: 100}
	lazy  = api.Style{Size: 1 << 15, Chain: 256, Most: 100, Lazy: true}
)

// chance gives numbers that look like chance and are always the same.
type chance uint64

func (c *chance) below(n int) int {
	*c ^= *c << 13
	*c ^= *c >> 7
	*c ^= *c << 17
	return int(uint64(*c>>16) % uint64(n))
}

// bytes are n bytes of some letters.
func (c *chance) bytes(n, letters int) []byte {
	b := make([]byte, n)
	for i := range b {
		b[i] = byte(c.below(letters))
	}
	return b
}

// words are n bytes made of a few rows, again and again, so that long matches are met.
func (c *chance) words(n int) []byte {
	var b []byte
	for len(b) < n {
		from := 0
		if len(b) > 0 {
			from = c.below(len(b))
		}
		b = append(b, b[from:min(from+c.below(40), len(b))]...)
		b = append(b, c.bytes(c.below(4), 3)...)
	}
	return b[:n]
}

// style is a style that may be.
func (c *chance) style() api.Style {
	s := api.Style{Size: 1 + c.below(400), Chain: c.below(12), Most: 1 + c.below(65535), Lazy: c.below(2) == 0}
	if c.below(4) == 0 {
		s.Size, s.Chain = 1+c.below(1<<15), c.below(257)
	}
	return s
}

// each calls do with each row of n bytes of some letters.
func each(n, letters int, do func([]byte)) {
	b := make([]byte, n)
	for {
		do(b)
		i := 0
		for i < n && int(b[i]) == letters-1 {
			b[i] = 0
			i++
		}
		if i == n {
			return
		}
		b[i]++
	}
}

// unlike is n bytes that stand in none of the other texts, each three of which stand once.
func unlike(n int) []byte {
	var b []byte
	for i := 0; len(b) < n; i++ {
		b = append(b, byte(128+i/4096%64), byte(192+i%64), byte(64+i/64%64))
	}
	return b[:n]
}

// least and great are numbers that nothing may be.
var (
	least = []int{-1, -2, -3, -258, -1 << 15, -1 << 17, -1 << 32, math.MinInt, math.MinInt + 1}
	great = []int{1<<17 + 1, 1 << 18, 1 << 31, 1 << 32, 1<<32 + 1, 1<<32 + 3, math.MaxInt - 258, math.MaxInt - 1, math.MaxInt}
)

// P8.1: a style's numbers one by one, and together: at the edges, inside, and outside.
func TestCheckStyle(t *testing.T) {
	ask := func(s api.Style, ok bool) {
		t.Helper()
		for _, s.Lazy = range []bool{false, true} {
			if e := token.CheckStyle(s); (e == api.OK) != ok || e != api.OK && e != api.ErrBad {
				t.Error(s, e)
			}
		}
	}
	sizes := slices.Concat(least, great, []int{0, 1, 2, 3, 257, 4096, 32767, 32768, 32769, 65535, 65536})
	chains := slices.Concat(least, great, []int{0, 1, 2, 9, 255, 256, 257, 258, 32768, 65535})
	mosts := slices.Concat(least, great, []int{0, 1, 2, 257, 32768, 65534, 65535, 65536, 131072})
	for _, size := range sizes {
		for _, chain := range chains {
			for _, most := range mosts {
				ok := size >= 1 && size <= 32768 && chain >= 0 && chain <= 256 && most >= 1 && most <= 65535
				ask(api.Style{Size: size, Chain: chain, Most: most}, ok)
			}
		}
	}
	ask(api.Style{}, false)
}

// P8.1: bytes may be, whatever they are; copies at the edges, inside, and outside; what is neither.
func TestCheck(t *testing.T) {
	longs := slices.Concat(least, great, []int{0, 1, 2, 3, 4, 100, 257, 258, 259, 260, 514})
	dists := slices.Concat(least, great, []int{0, 1, 2, 3, 258, 32767, 32768, 32769, 65536})
	for lit := range 256 {
		for _, long := range longs {
			for _, dist := range dists {
				want := api.ErrBad
				if long == 0 && dist == 0 || long >= 3 && long <= 258 && dist >= 1 && dist <= 32768 && lit == 0 {
					want = api.OK
				}
				x := api.Token{Lit: uint8(lit), Dist: dist, Long: long}
				if e := token.Check(x); e != want {
					t.Fatal(x, e)
				}
			}
		}
	}
}

// P8.2: each small text, from each place on, in styles of small and great numbers.
func TestCutEachSmallText(t *testing.T) {
	styles := []api.Style{eager, lazy}
	for _, size := range []int{1, 2, 3, 5} {
		for _, chain := range []int{0, 1, 2} {
			styles = append(styles, api.Style{Size: size, Chain: chain, Most: 1}, api.Style{Size: size, Chain: chain, Most: 65535, Lazy: true})
		}
	}
	for n := range 11 {
		each(n, 2, func(b []byte) {
			for from := range n + 1 {
				for _, s := range styles {
					cut(t, b, from, s)
				}
			}
		})
	}
	for n := range 9 {
		each(n, 3, func(b []byte) {
			for _, s := range styles {
				cut(t, b, 0, s)
				cut(t, b, n/2, s)
			}
		})
	}
}

// P8.2: longer texts in which much is met again; in some of them the lazy style cuts otherwise than the other one.
func TestCutTexts(t *testing.T) {
	c := chance(88172645463325252)
	copies, others := 0, 0
	for range 40 {
		for _, b := range [][]byte{c.bytes(400, 2), c.bytes(400, 4), c.bytes(400, 256), c.words(600), c.words(900)} {
			for range 5 {
				s := c.style()
				l := cut(t, b, c.below(len(b)+1), s)
				cut(t, b, 0, s)
				for _, x := range l {
					if x.Long > 20 {
						copies++
					}
				}
				s.Lazy = false
				if first := cut(t, b, 0, s); !slices.Equal(first, cut(t, b, 0, api.Style{Size: s.Size, Chain: s.Chain, Most: s.Most, Lazy: true})) {
					others++
				}
			}
		}
	}
	if copies < 500 || others < 100 {
		t.Error("only", copies, "long copies, and", others, "texts that are cut otherwise")
	}
}

// P8.2: a byte's token is the byte, whichever it is, where nothing is met, and where the next match is longer.
func TestCutBytes(t *testing.T) {
	for x := range 256 {
		y := byte(x + 1)
		b := []byte{byte(x), y, byte(x), y}
		cuts(t, string(b), 0, eager, lit(string(b))...)
		cuts(t, string(b[:1]), 0, lazy, lit(string(b[:1]))...)
		// Three bytes of the place 9 stood at 0, four of the next one at 4.
		p, q, r, u, v, one, two := byte(x), byte(x+10), byte(x+20), byte(x+30), byte(x+40), byte(x+50), byte(x+60)
		text := string([]byte{p, q, r, one, q, r, u, v, two, p, q, r, u, v})
		cuts(t, text, 9, lazy, api.Token{Lit: p}, far(4, 6))
		cuts(t, text, 9, eager, far(3, 9), api.Token{Lit: u}, api.Token{Lit: v})
	}
}

// P8.2: the lazy style takes the byte just where the next match is longer, not where it is as long or shorter, and looks one place on alone.
func TestLazy(t *testing.T) {
	for i, x := range []struct {
		b    string
		from int
		want []api.Token
	}{
		{"abc-bcde-abcde", 9, []api.Token{{Lit: 'a'}, far(4, 6)}},
		{"abc-bcd-abcd", 8, []api.Token{far(3, 8), {Lit: 'd'}}},
		{"abcd-bcd-abcd", 9, []api.Token{far(4, 9)}},
		{"abcd-bcde-abcde", 10, []api.Token{far(4, 10), {Lit: 'e'}}},
		{"abcd-bcdef-abcdef", 11, []api.Token{{Lit: 'a'}, far(5, 7)}},
		{"abc-cdefg-abcdefg", 10, []api.Token{far(3, 10), far(4, 8)}},
		// Three bytes, then four, then five: one byte behind the other.
		{"abc-bcde-cdefg-abcdefg", 15, []api.Token{{Lit: 'a'}, {Lit: 'b'}, far(5, 8)}},
		// Nothing at the place itself: the byte, whatever stands at the next one, which is then asked itself.
		{"bcd-abcd", 4, []api.Token{{Lit: 'a'}, far(3, 5)}},
		{"abc-abc", 4, []api.Token{far(3, 4)}},
	} {
		cut(t, []byte(x.b), x.from, eager)
		if l := cut(t, []byte(x.b), x.from, lazy); !slices.Equal(l, x.want) {
			t.Error(i, l)
		}
	}
	cuts(t, "abc-bcde-abcde", 9, eager, far(3, 9), api.Token{Lit: 'd'}, api.Token{Lit: 'e'})
	// 258 bytes match at both places, and at the next one alone.
	z := strings.Repeat("z", 600)
	cuts(t, z, 1, lazy, far(258, 1), far(258, 1), far(83, 1))
	row := string(unlike(300))
	cuts(t, row[:257]+"-"+row[1:]+"!"+row, 558, lazy, api.Token{Lit: row[0]}, far(258, 301), far(41, 301))
}

// P8.2: window and chain are the style's, at the place and at the next one.
func TestCutWindowAndChain(t *testing.T) {
	abc := []api.Token{{Lit: 'a'}, {Lit: 'b'}, {Lit: 'c'}}
	cuts(t, "abc-abc", 4, api.Style{Size: 4, Chain: 1, Most: 1}, far(3, 4))
	cuts(t, "abc-abc", 4, api.Style{Size: 3, Chain: 1, Most: 1}, abc...)
	cuts(t, "abc-abc", 4, api.Style{Size: 4, Chain: 0, Most: 1}, abc...)
	cuts(t, "abcd-abc-abcd", 9, api.Style{Size: 9, Chain: 2, Most: 1}, far(4, 9))
	cuts(t, "abcd-abc-abcd", 9, api.Style{Size: 9, Chain: 1, Most: 1}, far(3, 4), api.Token{Lit: 'd'})
	cuts(t, "abcd-abc-abcd", 9, api.Style{Size: 8, Chain: 2, Most: 1}, far(3, 4), api.Token{Lit: 'd'})
	// What the next place's window, or chain, doesn't hold, makes nothing lazy.
	cuts(t, "bcde-abc-abcde", 9, api.Style{Size: 10, Chain: 9, Most: 1, Lazy: true}, api.Token{Lit: 'a'}, far(4, 10))
	cuts(t, "bcde-abc-abcde", 9, api.Style{Size: 9, Chain: 9, Most: 1, Lazy: true}, far(3, 4), api.Token{Lit: 'd'}, api.Token{Lit: 'e'})
	cuts(t, "bcdef-abcd-abcdef", 11, api.Style{Size: 12, Chain: 2, Most: 1, Lazy: true}, api.Token{Lit: 'a'}, far(5, 12))
	cuts(t, "bcdef-abcd-abcdef", 11, api.Style{Size: 12, Chain: 1, Most: 1, Lazy: true}, far(4, 5), api.Token{Lit: 'e'}, api.Token{Lit: 'f'})
	// The farthest, and one farther.
	for more := range 2 {
		b := slices.Concat([]byte("abc"), bytes.Repeat([]byte("-"), 32765+more), []byte("abc"))
		want := []api.Token{far(3, 32768)}
		if more == 1 {
			want = abc
		}
		cuts(t, string(b), 32768+more, eager, want...)
		cuts(t, string(b), 32768+more, lazy, want...)
	}
}

// P8.2: from the place on, by all the bytes: what stands ahead of it is looked at, and has no tokens.
func TestCutFrom(t *testing.T) {
	b := []byte("abcdefabcdefabcdef")
	for from := range len(b) + 1 {
		cut(t, b, from, eager)
		cut(t, b, from, lazy)
	}
	cuts(t, string(b), 6, eager, far(12, 6))
	cuts(t, string(b), 15, eager, far(3, 6))
	cuts(t, string(b), 16, eager, lit("ef")...)
	cuts(t, string(b), 18, eager)
	cuts(t, "", 0, lazy)
}

// P8.2: a copy ends behind 258 bytes, and the next one goes on there.
func TestCutLongCopies(t *testing.T) {
	for n := 250; n <= 270; n++ {
		row := string(unlike(n))
		b := []byte(row + "-" + row)
		want := []api.Token{far(min(n, 258), n+1)}
		if left := n - 258; left >= 3 {
			want = append(want, far(left, n+1))
		} else if left > 0 {
			want = append(want, lit(row[258:])...)
		}
		cuts(t, string(b), n+1, eager, want...)
		cuts(t, string(b), n+1, lazy, want...)
	}
}

// P8.2: the most of a block counts for nothing here.
func TestMostCountsForNothing(t *testing.T) {
	c := chance(6)
	for range 100 {
		b, s := c.words(300), c.style()
		l := cut(t, b, 0, s)
		for _, s.Most = range []int{1, 2, 3, 100, 65535} {
			if again := cut(t, b, 0, s); !slices.Equal(again, l) {
				t.Fatal(s, again, l)
			}
		}
	}
}

// wrongStyles are styles that may not be, by one number each.
var wrongStyles = []api.Style{
	{Size: 0, Chain: 9, Most: 100}, {Size: -1, Chain: 9, Most: 100}, {Size: 32769, Chain: 9, Most: 100}, {Size: math.MaxInt, Chain: 9, Most: 100},
	{Size: 32, Chain: -1, Most: 100}, {Size: 32, Chain: 257, Most: 100}, {Size: 32, Chain: math.MinInt, Most: 100},
	{Size: 32, Chain: 9, Most: 0}, {Size: 32, Chain: 9, Most: -1}, {Size: 32, Chain: 9, Most: 65536}, {Size: 32, Chain: 9, Most: math.MaxInt}, {},
}

// P8.2: a style that may not be ahead of too many bytes, and these ahead of a place that may not be; nothing beside an error.
func TestCutErrors(t *testing.T) {
	ask := func(b []byte, from int, s api.Style, want api.Errno) {
		t.Helper()
		for _, s.Lazy = range []bool{false, true} {
			if l, e := token.Cut(b, from, s); e != want || l != nil {
				t.Errorf("Cut(%d bytes, %d, %v) is %d tokens, %d, not error %d", len(b), from, s, len(l), e, want)
			}
		}
	}
	for _, many := range []int{0, 1, 3, 9, 1 << 17, 1<<17 + 1, 1 << 18} {
		b := make([]byte, many)
		froms := slices.Concat(least, great, []int{0, 1, many - 1, many, many + 1})
		for _, from := range froms {
			for _, s := range wrongStyles {
				ask(b, from, s, api.ErrBad)
			}
			if many > 1<<17 {
				ask(b, from, eager, api.ErrMany)
			} else if from < 0 || from > many {
				ask(b, from, eager, api.ErrArg)
			}
		}
	}
}

// P8.2: as many bytes as may be.
func TestCutMostBytes(t *testing.T) {
	for _, s := range []api.Style{eager, lazy} {
		l, e := token.Cut(make([]byte, 1<<17), 0, s)
		// A byte, and what is left by 258.
		want := append(slices.Concat([]api.Token{{}}, slices.Repeat([]api.Token{far(258, 1)}, 508)), far(7, 1))
		if e != api.OK || !slices.Equal(l, want) {
			t.Error(len(l), e)
		}
		cuts(t, string(make([]byte, 1<<17)), 1<<17-2, s, lit("\x00\x00")...)
		cuts(t, string(make([]byte, 1<<17)), 1<<17, s)
	}
	s := api.Style{Size: 1, Chain: 0, Most: 1}
	if l, e := token.Cut(make([]byte, 1<<17), 0, s); e != api.OK || !slices.Equal(l, make([]api.Token, 1<<17)) {
		t.Error(len(l), e)
	}
}

// P8.3: bytes, copies, and copies that run on into what they make.
func TestPlay(t *testing.T) {
	plays(t, "", nil, "")
	plays(t, "abc", nil, "")
	plays(t, "", lit("abc"), "abc")
	plays(t, "xyz", lit("abc"), "abc")
	plays(t, "abc", []api.Token{far(3, 3)}, "abc")
	plays(t, "abcdef", []api.Token{far(3, 6), far(3, 6)}, "abcdef")
	plays(t, "abcdef", []api.Token{far(3, 5), {Lit: '-'}, far(4, 4)}, "bcd-bcd-")
	plays(t, "abc", []api.Token{far(9, 2)}, "bcbcbcbcb")
	plays(t, "a", []api.Token{{Lit: 'b'}, far(5, 2)}, "bababa")
	for x := range 256 {
		plays(t, "", []api.Token{{Lit: uint8(x)}, far(3, 1)}, string(bytes.Repeat([]byte{byte(x)}, 4)))
	}
	for long := 3; long <= 258; long++ {
		for _, dist := range []int{1, 2, 3, 7, 257, 258, 259, 300} {
			row := unlike(300)
			want := slices.Clone(row)
			for range long {
				want = append(want, want[len(want)-dist])
			}
			plays(t, string(row), []api.Token{far(long, dist)}, string(want[300:]))
		}
	}
	row := unlike(32768)
	plays(t, string(row), []api.Token{far(258, 32768), {Lit: 7}, far(3, 32768)}, string(slices.Concat(row[:258], []byte{7}, row[259:262])))
}

// P8.3: a copy may reach up to the first byte there is, ahead and of the tokens, and no farther.
func TestPlayDist(t *testing.T) {
	for _, n := range []int{0, 1, 2, 3, 9, 300} {
		ahead := unlike(n)
		for _, dist := range []int{n, n + 1, n + 2, n + 100, 32768} {
			if dist > n {
				fails(t, ahead, []api.Token{far(3, dist)}, api.ErrDist)
			} else if n > 0 {
				plays(t, string(ahead), []api.Token{far(3, dist)}, string(slices.Concat(ahead, ahead, ahead)[:3]))
			}
		}
		// What came of tokens is there, too: 5 bytes, and 3 more of the first copy.
		l := append(lit("abcde"), far(3, n+5))
		made := "abcde" + string(slices.Concat(ahead, []byte("abc"))[:3])
		plays(t, string(ahead), l, made)
		fails(t, ahead, append(lit("abcde"), far(3, n+6)), api.ErrDist)
		plays(t, string(ahead), append(slices.Clone(l), far(3, n+8)), made+made[5:])
		fails(t, ahead, append(slices.Clone(l), far(3, n+9)), api.ErrDist)
	}
	// A distance beyond the window is nothing, however many bytes there are.
	fails(t, make([]byte, 40000), []api.Token{far(3, 32769)}, api.ErrBad)
}

// P8.3: too many bytes ahead, or too many tokens, before any token is looked at.
func TestPlayMany(t *testing.T) {
	bad := api.Token{Long: 2, Dist: 1}
	for _, n := range []int{1<<17 + 1, 1 << 18, 1 << 20} {
		fails(t, make([]byte, n), nil, api.ErrMany)
		fails(t, make([]byte, n), lit("a"), api.ErrMany)
		fails(t, make([]byte, n), []api.Token{bad}, api.ErrMany)
		fails(t, make([]byte, n), make([]api.Token, n), api.ErrMany)
		fails(t, nil, make([]api.Token, n), api.ErrMany)
		fails(t, nil, slices.Repeat([]api.Token{bad}, n), api.ErrMany)
		fails(t, nil, slices.Repeat([]api.Token{far(3, 1)}, n), api.ErrMany)
	}
	full := make([]byte, 1<<17)
	plays(t, string(full), nil, "")
	plays(t, string(full), lit("a"), "a")
	plays(t, string(full), make([]api.Token, 1<<17), string(full))
	plays(t, "", make([]api.Token, 1<<17), string(full))
	fails(t, full, []api.Token{bad}, api.ErrBad)
}

// P8.3: as many bytes as may come of tokens, and one more; those ahead don't count.
func TestPlayMakesMost(t *testing.T) {
	// A byte and 508 copies are 131065 bytes, 7 less than may be.
	most := append([]api.Token{{Lit: 7}}, slices.Repeat([]api.Token{far(258, 1)}, 508)...)
	for _, ahead := range []string{"", "a", string(make([]byte, 1<<17))} {
		for _, x := range []struct {
			more []api.Token
			e    api.Errno
		}{
			{[]api.Token{far(7, 1)}, api.OK}, {[]api.Token{far(6, 1), {Lit: 7}}, api.OK}, {slices.Repeat([]api.Token{{Lit: 7}}, 7), api.OK}, {[]api.Token{far(3, 1), far(4, 2)}, api.OK},
			{[]api.Token{far(8, 1)}, api.ErrMany}, {[]api.Token{far(258, 1)}, api.ErrMany}, {[]api.Token{far(7, 1), {Lit: 7}}, api.ErrMany}, {slices.Repeat([]api.Token{{Lit: 7}}, 8), api.ErrMany}, {[]api.Token{far(7, 1), far(3, 1)}, api.ErrMany},
			// Token by token: the first one that is wrong tells, and of it the first error.
			{[]api.Token{far(8, 1), {Long: 1}}, api.ErrMany}, {[]api.Token{{Long: 1}, far(8, 1)}, api.ErrBad}, {[]api.Token{far(7, 1), {Long: 259, Dist: 1}}, api.ErrBad},
		} {
			l := slices.Concat(most, x.more)
			if x.e == api.OK {
				plays(t, ahead, l, strings.Repeat("\x07", 1<<17))
			} else {
				fails(t, []byte(ahead), l, x.e)
			}
		}
	}
}

// P8.3: the first token that is wrong tells its error, and of several the one that is named first.
func TestPlayErrors(t *testing.T) {
	bad := []api.Token{
		{Long: 1}, {Long: 3}, {Long: -1}, {Dist: 1}, {Dist: -1}, far(2, 1), far(259, 1), far(3, 0), far(3, -1), far(3, 32769), far(-3, 1),
		{Lit: 1, Dist: 1, Long: 3}, {Lit: 255, Dist: 1, Long: 3}, {Lit: 1, Dist: 1}, {Lit: 1, Long: 3}, far(2, 9), far(259, 9),
		far(math.MaxInt, 1), far(math.MinInt, 1), far(3, math.MaxInt), far(3, math.MinInt), far(math.MaxInt, math.MaxInt), far(math.MinInt, math.MinInt),
	}
	for i, x := range bad {
		for _, ahead := range []string{"", "a", "abcdefgh"} {
			fails(t, []byte(ahead), []api.Token{x}, api.ErrBad)
			fails(t, []byte(ahead), []api.Token{{Lit: 1}, x, far(3, 20)}, api.ErrBad)
			fails(t, []byte(ahead), []api.Token{{Lit: 1}, far(3, 20), x}, api.ErrDist)
			fails(t, []byte(ahead), append(lit("abc"), x), api.ErrBad)
		}
		if e := token.Check(x); e != api.ErrBad {
			t.Error(i, e)
		}
	}
	for _, n := range []int{0, 1, 2, 100} {
		l := append(make([]api.Token, n), far(3, n+1))
		fails(t, nil, l, api.ErrDist)
		fails(t, nil, append(l, lit("abc")...), api.ErrDist)
	}
}

// P8.4: neither what is handed in, nor the memory behind it, is written to; a second call answers the same.
func TestReadingChangesNothing(t *testing.T) {
	c := chance(2)
	for range 300 {
		b, behind := c.words(200), c.bytes(50, 256)
		end := c.below(len(b) + 1)
		from, s := c.below(end+1), c.style()
		memory := slices.Concat(b[:end], behind)
		l := cut(t, memory[:end], from, s)
		cut(t, b, from, eager)
		if again := cut(t, memory[:end], from, s); !slices.Equal(again, l) || !bytes.Equal(memory, slices.Concat(b[:end], behind)) {
			t.Fatal(end, from, s, again, l)
		}
		ahead, more := slices.Concat(b[:from], behind), slices.Concat(l, []api.Token{far(3, 1), {Lit: 1}})
		for range 2 {
			made, e := token.Play(ahead[:from], more[:len(l)])
			if e != api.OK || !bytes.Equal(made, b[from:end]) {
				t.Fatal(end, from, s, e)
			}
			if !bytes.Equal(ahead, slices.Concat(b[:from], behind)) || !slices.Equal(more, slices.Concat(l, []api.Token{far(3, 1), {Lit: 1}})) {
				t.Fatal(end, from, s, "what was handed in is not as it was")
			}
			token.Play(behind, lit("other"))
		}
	}
}

// P8.4: what is answered is nobody else's: it, and the room behind it, is written over, and nothing else changes.
func TestAnswersAreNew(t *testing.T) {
	c := chance(7)
	for range 300 {
		b := c.words(200)
		from, s := c.below(len(b)+1), c.style()
		handed, ahead := slices.Clone(b), slices.Clone(b)
		first, second := cut(t, handed, from, s), cut(t, handed, from, s)
		l := slices.Clone(first)
		one, e := token.Play(ahead[:from], l)
		two, f := token.Play(ahead[:from], l)
		if e != api.OK || f != api.OK {
			t.Fatal(from, s, e, f)
		}
		for i := range first[:cap(first)] {
			first[:cap(first)][i] = api.Token{Lit: 9, Dist: 9, Long: 9}
		}
		for i := range one[:cap(one)] {
			one[:cap(one)][i] ^= 255
		}
		if !slices.Equal(second, l) || !bytes.Equal(two, b[from:]) || !bytes.Equal(handed, b) || !bytes.Equal(ahead, b) {
			t.Fatal(from, s, "what was handed in, or answered to another, is not as it was")
		}
		if three, e := token.Play(ahead[:from], l); e != api.OK || !bytes.Equal(three, b[from:]) {
			t.Fatal(from, s, e)
		}
	}
}

// P8.5: played behind what stands ahead, tokens of bytes make these bytes, in any style; no copy reaches farther than the window, and there are no more tokens than bytes.
func TestThereAndBack(t *testing.T) {
	c := chance(3)
	for i := range 600 {
		b := c.words(300 + c.below(300))
		switch i % 4 {
		case 0:
			b = c.bytes(300, 1+c.below(6))
		case 1:
			b = c.bytes(200, 256)
		}
		back(t, b, c.below(len(b)+1), c.style())
		back(t, b, 0, c.style())
	}
	// Larger ones, as many as may be among them.
	for _, n := range []int{5000, 40000, 1 << 17} {
		for _, b := range [][]byte{make([]byte, n), bytes.Repeat([]byte("abcabd"), n)[:n], unlike(n), c.words(n)} {
			for _, s := range []api.Style{{Size: 32768, Chain: 3, Most: 65535, Lazy: true}, {Size: 1000, Chain: 20, Most: 1}, {Size: 1, Chain: 1, Most: 1, Lazy: true}} {
				back(t, b, 0, s)
				back(t, b, n/3, s)
			}
		}
	}
}

// back cuts b from a place on, and plays what comes of it.
func back(t *testing.T, b []byte, from int, s api.Style) {
	t.Helper()
	l, e := token.Cut(b, from, s)
	if e != api.OK || len(l) > len(b)-from {
		t.Fatal(len(b), from, s, len(l), e)
	}
	for i, x := range l {
		if token.Check(x) != api.OK || x.Dist > s.Size {
			t.Fatal(len(b), from, s, i, x)
		}
	}
	if made, e := token.Play(b[:from], l); e != api.OK || !bytes.Equal(made, b[from:]) {
		t.Fatal(len(b), from, s, len(made), e)
	}
}

// P1: of whatever is handed in each call ends, and none panics.
func TestWhateverIsHandedIn(t *testing.T) {
	c := chance(8)
	numbers := slices.Concat(least, great, []int{0, 1, 2, 3, 4, 5, 9, 32, 255, 256, 257, 258, 259, 32767, 32768, 32769, 65535, 65536})
	pick := func() int { return numbers[c.below(len(numbers))] }
	for range 30000 {
		b := c.bytes(c.below(10), 2)
		from, s := pick(), api.Style{Size: pick(), Chain: pick(), Most: pick(), Lazy: c.below(2) == 0}
		l, e := token.Cut(b, from, s)
		if token.CheckStyle(s) == api.OK && from >= 0 && from <= len(b) {
			cut(t, b, from, s)
		} else if l != nil || e != api.ErrBad && e != api.ErrArg {
			t.Fatal(b, from, s, l, e)
		}
		var any []api.Token
		for range c.below(5) {
			any = append(any, []api.Token{{Lit: uint8(c.below(3)), Dist: pick(), Long: pick()}, {Lit: uint8(c.below(256))}, far(3+c.below(3), 1+c.below(9))}[c.below(3)])
		}
		made, e := token.Play(b, any)
		if want, f := played(b, any); e != f || !bytes.Equal(made, want) {
			t.Fatal(b, any, made, e, want, f)
		}
	}
}

// played is what comes of tokens, by the chapter's words.
func played(ahead []byte, l []api.Token) ([]byte, api.Errno) {
	text := string(ahead)
	for _, x := range l {
		if x.Long == 0 && x.Dist == 0 {
			text += string([]byte{x.Lit})
			continue
		}
		if x.Long < 3 || x.Long > 258 || x.Dist < 1 || x.Dist > 32768 || x.Lit != 0 {
			return nil, api.ErrBad
		}
		if x.Dist > len(text) {
			return nil, api.ErrDist
		}
		for range x.Long {
			text += text[len(text)-x.Dist:][:1]
		}
	}
	return []byte(text[len(ahead):]), api.OK
}

// The chapter's examples.
func TestExamples(t *testing.T) {
	s := api.Style{Size: 32, Chain: 9, Most: 100}
	slow := s
	slow.Lazy = true
	cuts(t, "abcabcab", 0, s, append(lit("abc"), far(5, 3))...)
	cuts(t, "xabcybcdezabcde", 0, s, append(lit("xabcybcdez"), far(3, 9), api.Token{Lit: 'd'}, api.Token{Lit: 'e'})...)
	cuts(t, "xabcybcdezabcde", 0, slow, append(lit("xabcybcdeza"), far(4, 6))...)
	cuts(t, "abcabc", 3, s, far(3, 3))
	cuts(t, "abcabc", 3, slow, far(3, 3))
	plays(t, "abc", []api.Token{far(5, 3), {Lit: 'x'}}, "abcabx")
	fails(t, nil, []api.Token{far(3, 1)}, api.ErrDist)
	fails(t, nil, []api.Token{far(2, 1)}, api.ErrBad)
}
