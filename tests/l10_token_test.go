package tests

import (
	"math"
	"slices"
	"strings"
	"testing"

	"loop.example/g00829/impl"
)

// expectedFold is what the document says of a stream's lines in a width, found
// without the program; unbroken has a number for each line, the last one too.
type expectedFold struct {
	lines    []int
	overfull []int
	unbroken []int
	blocks   []int
}

func expectedFoldOf(width int, list []impl.Token, stream expectedStream) expectedFold {
	paper := expectedLayout(width, list, stream.sizes)
	e := expectedFold{unbroken: []int{0}}
	for k, token := range list {
		if slices.Contains(paper.breaks, k) {
			e.unbroken = append(e.unbroken, 0)
		} else if token.Kind == impl.TokBlank {
			e.unbroken[len(e.unbroken)-1]++
		}
		e.lines = append(e.lines, len(e.unbroken)-1)
		if token.Kind == impl.TokBegin && slices.ContainsFunc(paper.breaks, func(at int) bool { return k < at && at < stream.matches[k] }) {
			e.blocks = append(e.blocks, k)
		}
	}
	for n, line := range expectedLines(paper.text) {
		if len(line) > width {
			e.overfull = append(e.overfull, n)
		}
	}
	return e
}

// checkFold holds every function of a stream's lines in a width against what is
// expected.
func checkFold(t *testing.T, width int, list []impl.Token, stream expectedStream) {
	t.Helper()
	e := expectedFoldOf(width, list, stream)
	if got := impl.LineOfTokens(width, list); !slices.Equal(got, e.lines) {
		t.Errorf("LineOfTokens(%d, %s) = %v, want %v", width, tokensShown(list), got, e.lines)
	}
	if got := impl.LinesOverfull(width, list); !slices.Equal(got, e.overfull) {
		t.Errorf("LinesOverfull(%d, %s) = %v, want %v", width, tokensShown(list), got, e.overfull)
	}
	if got := impl.BrokenBlocks(width, list); !slices.Equal(got, e.blocks) {
		t.Errorf("BrokenBlocks(%d, %s) = %v, want %v", width, tokensShown(list), got, e.blocks)
	}
	if !impl.TightKept(width, list) {
		t.Errorf("TightKept(%d, %s) is false", width, tokensShown(list))
	}
	for line, want := range e.unbroken {
		if got := impl.UnbrokenIn(width, list, line); got != want {
			t.Errorf("UnbrokenIn(%d, %s, %d) = %d, want %d", width, tokensShown(list), line, got, want)
		}
	}
	for _, line := range []int{-1, len(e.unbroken)} {
		if got := impl.UnbrokenIn(width, list, line); got != 0 {
			t.Errorf("UnbrokenIn(%d, %s, %d) = %d", width, tokensShown(list), line, got)
		}
	}
}

// checkNoFold expects of each function its answer for what is not as it is wanted.
func checkNoFold(t *testing.T, name string, width int, list []impl.Token) {
	t.Helper()
	if got := impl.LineOfTokens(width, list); len(got) != 0 {
		t.Errorf("%s: LineOfTokens(%d) = %v", name, width, got)
	}
	if got := impl.LinesOverfull(width, list); len(got) != 0 {
		t.Errorf("%s: LinesOverfull(%d) = %v", name, width, got)
	}
	if got := impl.BrokenBlocks(width, list); len(got) != 0 {
		t.Errorf("%s: BrokenBlocks(%d) = %v", name, width, got)
	}
	if impl.TightKept(width, list) {
		t.Errorf("%s: TightKept(%d)", name, width)
	}
	for _, line := range []int{math.MinInt, -1, 0, 1, len(list), math.MaxInt} {
		if got := impl.UnbrokenIn(width, list, line); got != -1 {
			t.Errorf("%s: UnbrokenIn(%d, %d) = %d", name, width, line, got)
		}
	}
}

// foldCase is a stream in a width as it should be laid out, with what should be
// told of its lines.
type foldCase struct {
	width    int
	text     string
	paper    string
	lines    []int
	unbroken []int
	blocks   []int
}

func checkFoldCase(t *testing.T, c foldCase) {
	t.Helper()
	list := tokens(t, c.text)
	if got, _ := impl.Layout(c.width, list); got != c.paper {
		t.Errorf("Layout(%d, %s) = %q, want %q", c.width, c.text, got, c.paper)
	}
	if got := impl.LineOfTokens(c.width, list); !slices.Equal(got, c.lines) {
		t.Errorf("LineOfTokens(%d, %s) = %v, want %v", c.width, c.text, got, c.lines)
	}
	for line, want := range c.unbroken {
		if got := impl.UnbrokenIn(c.width, list, line); got != want {
			t.Errorf("UnbrokenIn(%d, %s, %d) = %d, want %d", c.width, c.text, line, got, want)
		}
	}
	if got := impl.BrokenBlocks(c.width, list); !slices.Equal(got, c.blocks) {
		t.Errorf("BrokenBlocks(%d, %s) = %v, want %v", c.width, c.text, got, c.blocks)
	}
	checkFold(t, c.width, list, expectedOf(list))
}

func TestFoldsByHand(t *testing.T) {
	for _, c := range []foldCase{
		{5, ``, "", nil, []int{0, 0}, nil},
		{5, `"abc"`, "abc", []int{0}, []int{0, 0}, nil},
		{5, `<0 >`, "", []int{0, 0}, []int{0, 0}, nil},
		// The blank that breaks stands in the line behind it.
		{3, `"a" _1 "b"`, "a b", []int{0, 0, 0}, []int{1, 0}, nil},
		{2, `"a" _1 "b"`, "a\nb", []int{0, 1, 1}, []int{0, 0, 0}, nil},
		{4, `<1 "ab" _1 "cd" > _1 "e"`, "ab\n cd\ne", []int{0, 0, 1, 1, 1, 2, 2}, []int{0, 0, 0, 0}, []int{0}},
		{6, `<1 "ab" _1 "cd" > _1 "e"`, "ab cd\ne", []int{0, 0, 0, 0, 0, 1, 1}, []int{1, 0, 0}, nil},
		{7, `<1 "ab" _1 "cd" > _1 "e"`, "ab cd e", []int{0, 0, 0, 0, 0, 0, 0}, []int{2, 0}, nil},
		// The first token breaks: no token stands in line 0.
		{5, `|`, "\n", []int{1}, []int{0, 0, 0}, nil},
		{5, `| "a"`, "\na", []int{1, 1}, []int{0, 0, 0}, nil},
		{5, `|+3 "a" _1 "b"`, "\n   a\nb", []int{1, 1, 2, 2}, []int{0, 0, 0, 0}, nil},
		{6, `|+3 "a" _1 "b"`, "\n   a b", []int{1, 1, 1, 1}, []int{0, 1, 0}, nil},
		{2, `_3`, "\n", []int{1}, []int{0, 0, 0}, nil},
		{3, `_3`, "", []int{0}, []int{1, 0}, nil},
		{2, `_3 "a"`, "\na", []int{1, 1}, []int{0, 0, 0}, nil},
		// The last token breaks: the line behind it is empty.
		{5, `"a" |`, "a\n", []int{0, 1}, []int{0, 0, 0}, nil},
		{5, `"a" |+4`, "a\n", []int{0, 1}, []int{0, 0, 0}, nil},
		{5, `"a" _1 |`, "a\n", []int{0, 0, 1}, []int{1, 0, 0}, nil},
		{5, `"a" | _1`, "a\n", []int{0, 1, 1}, []int{0, 1, 0}, nil},
		{3, `"ab" _2`, "ab\n", []int{0, 1}, []int{0, 0, 0}, nil},
		{4, `"ab" _2`, "ab", []int{0, 0}, []int{1, 0}, nil},
		{5, `<1 "a" | >`, "a\n", []int{0, 0, 1, 1}, []int{0, 0, 0}, []int{0}},
		// Several lines one behind the other, with blanks between that are not written.
		{5, `"a" | | | "b"`, "a\n\n\nb", []int{0, 1, 2, 3, 3}, []int{0, 0, 0, 0, 0}, nil},
		{5, `| | |`, "\n\n\n", []int{1, 2, 3}, []int{0, 0, 0, 0, 0}, nil},
		{5, `_2 | _1 _1 | _0 | "b" _3`, "\n\n\nb", []int{0, 1, 1, 1, 2, 2, 3, 3, 3}, []int{1, 2, 1, 1, 0}, nil},
		{5, `| _6 | _4 "b"`, "\n\n\n    b", []int{1, 2, 3, 3, 3}, []int{0, 0, 0, 1}, nil},
		// A blank of Width 0 is one, too.
		{2, `"a" _0 "b" _0 "c" _0`, "ab\nc", []int{0, 0, 0, 1, 1, 1}, []int{1, 1, 0}, nil},
		{3, `"a" _0 "b" _0 "c" _0`, "abc", []int{0, 0, 0, 0, 0, 0}, []int{3, 0}, nil},
		// A break behind a block is not in it, nor is one ahead of it.
		{2, `"a" _1 <1 "b" > _1 "c"`, "a\nb\nc", []int{0, 1, 1, 1, 1, 2, 2}, []int{0, 0, 0}, nil},
		{9, `| <1 "b" > |`, "\nb\n", []int{1, 1, 1, 1, 2}, []int{0, 0, 0}, nil},
		{9, `<1 "a" > | [1 "b" >`, "a\nb", []int{0, 0, 0, 1, 1, 1, 1}, []int{0, 0, 0}, nil},
		{2, `<1 "abc" > <1 "d" _1 "e" >`, "abcd\n    e", []int{0, 0, 0, 0, 0, 1, 1, 1}, []int{0, 0, 0}, []int{3}},
		// A block with just a break in it.
		{9, `<0 | >`, "\n", []int{0, 1, 1}, []int{0, 0}, []int{0}},
		{9, `[0 | >`, "\n", []int{0, 1, 1}, []int{0, 0}, []int{0}},
		{1, `"a" <0 _1 >`, "a\n", []int{0, 0, 1, 1}, []int{0, 0}, []int{1}},
		{2, `"a" <0 _1 >`, "a", []int{0, 0, 0, 0}, []int{1, 0}, nil},
	} {
		checkFoldCase(t, c)
	}
}

// Blocks in blocks: each of the three kinds of marks within each other that can
// have it within.
func TestFoldsOfBlocksInBlocks(t *testing.T) {
	for _, c := range []foldCase{
		// Loose in loose, tight in loose, loose in tight, tight in tight: both break.
		{3, `<1 "a" _1 <1 "b" _1 "cc" > >`, "a\n b\n  cc", []int{0, 0, 1, 1, 1, 2, 2, 2, 2}, []int{0, 0, 0}, []int{0, 3}},
		{3, `<1 "a" _1 [1 "b" _1 "cc" > >`, "a\n b\n  cc", []int{0, 0, 1, 1, 1, 2, 2, 2, 2}, []int{0, 0, 0}, []int{0, 3}},
		{3, `[1 "a" _1 <1 "b" _1 "cc" > >`, "a\n b\n  cc", []int{0, 0, 1, 1, 1, 2, 2, 2, 2}, []int{0, 0, 0}, []int{0, 3}},
		{3, `[1 "a" _1 [1 "b" _1 "cc" > >`, "a\n b\n  cc", []int{0, 0, 1, 1, 1, 2, 2, 2, 2}, []int{0, 0, 0}, []int{0, 3}},
		// The outer one breaks, the inner one fits.
		{5, `<1 "a" _1 <1 "b" _1 "cc" > >`, "a\n b cc", []int{0, 0, 1, 1, 1, 1, 1, 1, 1}, []int{0, 1, 0}, []int{0}},
		{5, `[1 "a" _1 [1 "b" _1 "cc" > >`, "a\n b cc", []int{0, 0, 1, 1, 1, 1, 1, 1, 1}, []int{0, 1, 0}, []int{0}},
		{5, `[1 "a" _1 <1 "b" _1 "cc" > >`, "a\n b cc", []int{0, 0, 1, 1, 1, 1, 1, 1, 1}, []int{0, 1, 0}, []int{0}},
		{5, `<1 "a" _1 [1 "b" _1 "cc" > >`, "a\n b cc", []int{0, 0, 1, 1, 1, 1, 1, 1, 1}, []int{0, 1, 0}, []int{0}},
		// The outer one breaks in the inner one alone.
		{3, `<1 <1 "b" _1 "ccc" > >`, "b\n ccc", []int{0, 0, 0, 1, 1, 1, 1}, []int{0, 0}, []int{0, 1}},
		{3, `[1 <1 "b" _1 "ccc" > >`, "b\n ccc", []int{0, 0, 0, 1, 1, 1, 1}, []int{0, 0}, []int{0, 1}},
		// Both fit.
		{6, `[1 "a" _1 <1 "b" _1 "cc" > >`, "a b cc", []int{0, 0, 0, 0, 0, 0, 0, 0, 0}, []int{2, 0}, nil},
		{6, `<1 "a" _1 [1 "b" _1 "cc" > >`, "a b cc", []int{0, 0, 0, 0, 0, 0, 0, 0, 0}, []int{2, 0}, nil},
		// A loose one breaks at some of its blanks, a tight one at all.
		{5, `<1 "a" _1 "b" _1 "cccc" >`, "a b\n cccc", []int{0, 0, 0, 0, 1, 1, 1}, []int{1, 0, 0}, []int{0}},
		{5, `[1 "a" _1 "b" _1 "cccc" >`, "a\n b\n cccc", []int{0, 0, 1, 1, 2, 2, 2}, []int{0, 0, 0}, []int{0}},
		{4, `<1 [1 "a" _1 "b" > _1 "ccc" _1 "d" >`, "a b\n ccc\n d", []int{0, 0, 0, 0, 0, 0, 1, 1, 2, 2, 2}, []int{1, 0, 0}, []int{0}},
		// Three deep, and blocks side by side.
		{2, `<0 [0 <0 "a" _1 "bb" > > >`, "a\nbb", []int{0, 0, 0, 0, 1, 1, 1, 1, 1}, []int{0, 0}, []int{0, 1, 2}},
		{3, `<0 <0 "a" _1 "b" > _1 [0 "c" _1 "dd" > >`, "a b\nc\ndd", []int{0, 0, 0, 0, 0, 0, 1, 1, 1, 2, 2, 2, 2}, []int{1, 0, 0}, []int{0, 7}},
		{200, `<0 <0 "a" _1 "b" > _1 [0 "c" | "d" > >`, "a b\nc\nd", []int{0, 0, 0, 0, 0, 0, 1, 1, 1, 2, 2, 2, 2}, []int{1, 0, 0}, []int{0, 7}},
	} {
		checkFoldCase(t, c)
	}
}

// Tight blocks with blanks and lines of their own level, none, one or several,
// and with blocks within that break on their own.
func TestFoldsOfTightBlocks(t *testing.T) {
	for _, c := range []foldCase{
		{5, `[1 "abcdefg" >`, "abcdefg", []int{0, 0, 0}, []int{0}, nil},
		{5, `"abcd" [1 > "ef"`, "abcdef", []int{0, 0, 0, 0}, []int{0}, nil},
		{5, `[1 "abc" _1 "def" >`, "abc\n def", []int{0, 0, 1, 1, 1}, []int{0, 0}, []int{0}},
		{7, `[1 "abc" _1 "def" >`, "abc def", []int{0, 0, 0, 0, 0}, []int{1}, nil},
		{6, `[1 _0 "a" _9 "b" _0 >`, "\n a\n b\n", []int{0, 1, 1, 2, 2, 3, 3}, []int{0, 0, 0, 0}, []int{0}},
		// With a line in it all its blanks break, in every width.
		{200, `[1 "a" | "b" >`, "a\n b", []int{0, 0, 1, 1, 1}, []int{0, 0}, []int{0}},
		{200, `[1 | | | >`, "\n\n\n", []int{0, 1, 2, 3, 3}, []int{0, 0, 0, 0}, []int{0}},
		{200, `[1 "a" _1 "b" | "c" _1 >`, "a\n b\n c\n", []int{0, 0, 1, 1, 2, 2, 3, 3}, []int{0, 0, 0, 0}, []int{0}},
		// A block within it has a line, and its own blank breaks for that.
		{200, `[1 "a" _1 <0 "b" | > >`, "a\n b\n", []int{0, 0, 1, 1, 1, 2, 2, 2}, []int{0, 0, 0}, []int{0, 3}},
		// Without a break of its own: what breaks is a block within it.
		{200, `[1 "a" <0 "b" | "c" > "d" >`, "a" + "b\n cd", []int{0, 0, 0, 0, 1, 1, 1, 1, 1}, []int{0, 0}, []int{0, 2}},
		{4, `[1 "a" <0 "b" _1 "ccc" > >`, "ab\n ccc", []int{0, 0, 0, 0, 1, 1, 1, 1}, []int{0, 0}, []int{0, 2}},
		// It breaks, and of the blocks within it some break and some do not.
		{5, `[1 <0 "a" _1 "b" > _1 [0 "c" _1 "dddd" > _1 <0 "e" _1 "f" _1 "gg" > >`, "a b\n c\n dddd\n e f\n gg", []int{0, 0, 0, 0, 0, 0, 1, 1, 1, 2, 2, 2, 3, 3, 3, 3, 3, 4, 4, 4, 4}, []int{1, 0, 0, 1, 0}, []int{0, 7, 13}},
		// A loose one breaks, and a tight one within it does not; and that one breaks, and one behind it does not.
		{4, `<0 [1 "a" _1 "b" > _1 "cccc" >`, "a b\ncccc", []int{0, 0, 0, 0, 0, 0, 1, 1, 1}, []int{1, 0}, []int{0}},
		{4, `[1 "a" _1 "bcd" > _1 [1 "e" _1 "f" >`, "a\n bcd\ne f", []int{0, 0, 1, 1, 1, 2, 2, 2, 2, 2, 2}, []int{0, 0, 1}, []int{0}},
		// The blanks ahead of it and behind it are not its own.
		{7, `"a" _1 [1 "b" _1 "cccc" > _1 "d"`, "a\nb cccc\nd", []int{0, 1, 1, 1, 1, 1, 1, 2, 2}, []int{0, 1, 0}, nil},
		{5, `"a" _1 "b" [1 "c" _1 "cccc" >`, "a\nbc\n  cccc", []int{0, 1, 1, 1, 1, 2, 2, 2}, []int{0, 0, 0}, []int{3}},
	} {
		checkFoldCase(t, c)
	}
}

func TestLinesOverfullByHand(t *testing.T) {
	for _, c := range []struct {
		width int
		text  string
		want  []int
	}{
		{1, ``, nil},
		{6, `"abcdef"`, nil},
		{5, `"abcdef"`, []int{0}},
		{1, `<1 "ab" _1 "cd" > _1 "e"`, []int{0, 1}},
		{2, `<1 "ab" _1 "cd" > _1 "e"`, []int{1}},
		{3, `<1 "ab" _1 "cd" > _1 "e"`, nil},
		// Empty lines count for the numbers, and are never too long.
		{3, `| | "abcd" | | "efgh" |`, []int{2, 4}},
		{4, `| | "abcd" | | "efgh" |`, nil},
		{1, `| | |`, nil},
		{1, `_9 |+9 _9 |`, nil},
		// How far in a line is counts; blanks that are not written do not.
		{5, `|+3 "abc"`, []int{1}},
		{6, `|+3 "abc"`, nil},
		{3, `"abc" _9 | "d"`, nil},
		{3, `<0 "abc" _0 _0 > | "d"`, nil},
		{9, `"abc" |+9`, nil},
		{3, `<9 "a" | "b" >`, []int{1}},
		// Texts without a blank between them.
		{5, `"abc" "def"`, []int{0}},
		{5, `"abc" <0 "def" > "g" _1 "h"`, []int{0}},
	} {
		list := tokens(t, c.text)
		if got := impl.LinesOverfull(c.width, list); !slices.Equal(got, c.want) {
			t.Errorf("LinesOverfull(%d, %s) = %v, want %v", c.width, c.text, got, c.want)
		}
		checkFold(t, c.width, list, expectedOf(list))
	}
	// The blanks of a text are no TokBlanks.
	list := []impl.Token{{Text: "a b c"}, {Kind: impl.TokLine}, {Text: "d e"}}
	if got := impl.LinesOverfull(4, list); !slices.Equal(got, []int{0}) || impl.UnbrokenIn(4, list, 0) != 0 || impl.UnbrokenIn(4, list, 1) != 0 {
		t.Errorf("LinesOverfull(4, %s) = %v, with blanks that do not break", tokensShown(list), got)
	}
}

func TestLinesThatAreNone(t *testing.T) {
	list := tokens(t, `_1 | "a" _1 "b" | _1`)
	for line, want := range []int{1, 1, 1} {
		if got := impl.UnbrokenIn(9, list, line); got != want {
			t.Errorf("UnbrokenIn line %d = %d, want %d", line, got, want)
		}
	}
	for _, line := range []int{math.MinInt, math.MinInt + 1, -1 << 32, -3, -2, -1, 3, 4, 7, 400, 1 << 32, math.MaxInt - 1, math.MaxInt} {
		if got := impl.UnbrokenIn(9, list, line); got != 0 {
			t.Errorf("UnbrokenIn line %d = %d", line, got)
		}
		if got := impl.UnbrokenIn(9, nil, line); got != 0 {
			t.Errorf("UnbrokenIn line %d of no tokens = %d", line, got)
		}
		checkNoFold(t, "a good stream", 0, list)
	}
	if got := impl.UnbrokenIn(9, nil, 0); got != 0 {
		t.Errorf("UnbrokenIn line 0 of no tokens = %d", got)
	}
}

func TestFoldsInWidthsThatAreNone(t *testing.T) {
	list := tokens(t, `[1 "a" _1 <0 "b" | "c" > > _1 "d"`)
	for _, width := range []int{math.MinInt, math.MinInt + 1, -1 << 32, -200, -2, -1, 0, 201, 202, 1000000, 1 << 32, math.MaxInt - 1, math.MaxInt} {
		checkNoFold(t, "a good stream", width, list)
		checkNoFold(t, "an empty stream", width, nil)
	}
	for _, width := range []int{1, 2, 199, 200} {
		checkFold(t, width, list, expectedOf(list))
		checkFold(t, width, nil, expectedOf(nil))
		checkFold(t, width, []impl.Token{}, expectedOf(nil))
	}
}

func TestFoldsOfNoStreams(t *testing.T) {
	for name, list := range badLists(t) {
		for _, width := range []int{-1, 0, 1, 40, 200, 201} {
			checkNoFold(t, name, width, list)
		}
	}
}

func TestFoldsAtTheLimits(t *testing.T) {
	text := impl.Token{Text: strings.Repeat("x", 40)}
	blank := impl.Token{Kind: impl.TokBlank, Width: 9, Off: 9}
	lines := repeated(impl.Token{Kind: impl.TokLine, Off: 9}, 400)
	empty := slices.Repeat([]impl.Token{{Kind: impl.TokBegin, Width: 1, Off: 9}, {Kind: impl.TokEnd}}, 200)
	tight, _ := impl.WrapStream(slices.Repeat([]impl.Token{text, blank}, 199), true, 9)
	for _, list := range [][]impl.Token{repeated(text, 400), repeated(blank, 400), slices.Repeat([]impl.Token{text, blank}, 200), lines, empty, tight, nested(12)} {
		for _, width := range []int{1, 49, 98, 199, 200} {
			checkFold(t, width, list, expectedOf(list))
		}
	}
	if got := impl.LineOfTokens(200, lines); len(got) != 400 || got[0] != 1 || got[399] != 400 {
		t.Errorf("LineOfTokens of 400 lines = %v", got)
	}
	if got := impl.LinesOverfull(1, repeated(text, 400)); !slices.Equal(got, []int{0}) {
		t.Errorf("LinesOverfull of 400 texts = %v", got)
	}
	if got := impl.UnbrokenIn(1, repeated(impl.Token{Kind: impl.TokBlank}, 400), 0); got != 400 {
		t.Errorf("UnbrokenIn of 400 blanks = %d", got)
	}
	checkNoFold(t, "401 lines", 200, append(lines, lines[0]))
	checkNoFold(t, "13 blocks", 200, nested(13))
}
