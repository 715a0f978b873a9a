package tests

import (
	"fmt"
	"math/rand"
	"slices"
	"strings"
	"testing"

	"loop.example/g00829/impl"
)

// foldCounts says how often a promise had something to hold of: lines that are
// too long, those with breaks of blanks at their ends, lines just as long as the
// width with a blank that stays, tight blocks with more than one break of their
// own, and those with more than one blank that stays, blocks that break, and
// widths in which all fits.
type foldCounts struct {
	long, longAtBlank, full, tightBroken, tightWhole, broken, fits int
}

// expectedReaches gives for each token the column ahead of it, pending blanks
// counted.
func expectedReaches(width int, list []impl.Token, sizes []int) []int {
	p := expectedPrinter{width, []string{""}, []expectedMark{{"loose", 0}}}
	reaches := []int{}
	for k, token := range list {
		reaches = append(reaches, len(*p.last()))
		p.put(token, sizes[k])
	}
	return reaches
}

// checkLongLines: in a line that is longer than the width no TokBlank stands
// that did not break, and no line ends with a blank. The lines are those that
// Layout gives, cut at each byte 10.
func checkLongLines(t *testing.T, width int, list []impl.Token, counts *foldCounts) {
	t.Helper()
	text, _ := impl.Layout(width, list)
	if !impl.TrailOk(text) {
		t.Errorf("Layout(%d, %s) = %q: a line ends with a blank", width, tokensShown(list), text)
	}
	at, breaks := impl.LineOfTokens(width, list), impl.BreaksOf(width, list)
	lines := strings.Split(text, "\n")
	stays := make([]int, len(lines))
	for k, token := range list {
		if token.Kind == impl.TokBlank && !slices.Contains(breaks, k) {
			stays[at[k]]++
		}
	}
	overfull, numbers := []int{}, []int{}
	for n, line := range lines {
		if got := impl.UnbrokenIn(width, list, n); got != stays[n] || len(line) > width && got != 0 {
			t.Errorf("UnbrokenIn(%d, %s, %d) = %d, and the line is %q", width, tokensShown(list), n, got, line)
		}
		if len(line) > width {
			overfull, numbers = append(overfull, n), append(numbers, n+1)
			counts.long++
			if n > 0 && list[breaks[n-1]].Kind == impl.TokBlank || n < len(breaks) && list[breaks[n]].Kind == impl.TokBlank {
				counts.longAtBlank++
			}
		}
		if len(line) == width && stays[n] > 0 {
			counts.full++
		}
	}
	if got := impl.LinesOverfull(width, list); !slices.Equal(got, overfull) {
		t.Errorf("LinesOverfull(%d, %s) = %v, want %v", width, tokensShown(list), got, overfull)
	}
	if got := impl.LongLines(text, width); !slices.Equal(got, numbers) {
		t.Errorf("LongLines(%q, %d) = %v, want %v", text, width, got, numbers)
	}
}

// checkTightBlocks: of the blanks and lines that are a tight block's own all
// break or none does.
func checkTightBlocks(t *testing.T, width int, list []impl.Token, stream expectedStream, counts *foldCounts) {
	t.Helper()
	breaks := impl.BreaksOf(width, list)
	for k, token := range list {
		if token.Kind != impl.TokBegin || token.Width != 1 {
			continue
		}
		own, broken := 0, 0
		for at := k + 1; at < stream.matches[k]; at++ {
			if stream.levels[at] == stream.levels[k]+1 && (list[at].Kind == impl.TokBlank || list[at].Kind == impl.TokLine) {
				own++
				if slices.Contains(breaks, at) {
					broken++
				}
			}
		}
		switch {
		case broken > 0 && broken < own:
			t.Errorf("BreaksOf(%d, %s) = %v: of the tight block at %d only %d of %d break", width, tokensShown(list), breaks, k, broken, own)
		case broken > 1:
			counts.tightBroken++
		case own > 1 && broken == 0:
			counts.tightWhole++
		}
	}
	if !impl.TightKept(width, list) {
		t.Errorf("TightKept(%d, %s) is false", width, tokensShown(list))
	}
}

// checkBrokenBlocks: a block that is broken is one whose size did not fit.
func checkBrokenBlocks(t *testing.T, width int, list []impl.Token, stream expectedStream, counts *foldCounts) {
	t.Helper()
	reaches := expectedReaches(width, list, stream.sizes)
	for _, k := range impl.BrokenBlocks(width, list) {
		counts.broken++
		if list[k].Kind != impl.TokBegin || stream.sizes[k] <= width-reaches[k] {
			t.Errorf("BrokenBlocks(%d, %s) has %d, where its size %d fits behind %d", width, tokensShown(list), k, stream.sizes[k], reaches[k])
		}
	}
}

// checkNothingBreaksButLines: each blank stays, the lines are those of the
// TokLines, and only what has one is broken.
func checkNothingBreaksButLines(t *testing.T, width int, list []impl.Token, stream expectedStream) {
	t.Helper()
	lines, blocks, line := []int{}, []int{}, 0
	blanks := []int{0}
	for k, token := range list {
		switch token.Kind {
		case impl.TokLine:
			line++
			blanks = append(blanks, 0)
		case impl.TokBlank:
			blanks[line]++
		case impl.TokBegin:
			if slices.ContainsFunc(list[k:stream.matches[k]], func(in impl.Token) bool { return in.Kind == impl.TokLine }) {
				blocks = append(blocks, k)
			}
		}
		lines = append(lines, line)
	}
	if got := impl.LineOfTokens(width, list); !slices.Equal(got, lines) {
		t.Errorf("LineOfTokens(%d, %s) = %v, where all fits", width, tokensShown(list), got)
	}
	if got := impl.BrokenBlocks(width, list); !slices.Equal(got, blocks) {
		t.Errorf("BrokenBlocks(%d, %s) = %v, where all fits", width, tokensShown(list), got)
	}
	for n, want := range blanks {
		if got := impl.UnbrokenIn(width, list, n); got != want {
			t.Errorf("UnbrokenIn(%d, %s, %d) = %d, where all fits and it has %d blanks", width, tokensShown(list), n, got, want)
		}
	}
}

// checkFoldIn holds promise 12, promise 3 in the words of this chapter, and all
// that is expected of the lines, for one stream in some widths.
func checkFoldIn(t *testing.T, widths []int, list []impl.Token, counts *foldCounts) {
	t.Helper()
	stream, narrowest := expectedOf(list), impl.NarrowestOf(list)
	for _, width := range widths {
		checkFold(t, width, list, stream)
		checkLongLines(t, width, list, counts)
		checkTightBlocks(t, width, list, stream, counts)
		checkBrokenBlocks(t, width, list, stream, counts)
		if narrowest != -1 && width >= narrowest {
			counts.fits++
			checkNothingBreaksButLines(t, width, list, stream)
		}
	}
}

// widthsUpTo has each width from 1 on.
func widthsUpTo(last int) []int {
	widths := []int{}
	for width := 1; width <= last; width++ {
		widths = append(widths, width)
	}
	return widths
}

// checkEnough fails when a promise had too little to hold of.
func (c foldCounts) checkEnough(t *testing.T, least int) {
	t.Helper()
	if !t.Failed() && min(c.long, c.longAtBlank, c.full, c.tightBroken, c.tightWhole, c.broken, c.fits) < least {
		t.Errorf("the promise had too little to hold of: %+v", c)
	}
}

func TestPromiseOfLinesOfAllShortStreams(t *testing.T) {
	alphabet := []impl.Token{
		{Text: "ab"}, {Kind: impl.TokBlank}, {Kind: impl.TokBlank, Width: 2, Off: 3}, {Kind: impl.TokBegin, Off: 2}, {Kind: impl.TokBegin, Width: 1, Off: 1}, {Kind: impl.TokEnd}, {Kind: impl.TokLine, Off: -1},
	}
	counts := foldCounts{}
	eachShortStream(t, alphabet, oftenOrShort(6, 5), func(list []impl.Token) {
		checkFoldIn(t, []int{1, 2, 3, 4, 5, 6, 8, 200}, list, &counts)
	})
	counts.checkEnough(t, 50)
}

func TestPromiseOfLinesOfRandomStreams(t *testing.T) {
	counts := foldCounts{}
	for i, list := range randomStreams() {
		checkFoldIn(t, []int{1, 2 + i%40, 42 + i%157, 199, 200}, list, &counts)
		if t.Failed() {
			return
		}
	}
	counts.checkEnough(t, 5)
}

// Streams of short texts, in narrow widths and around the narrowest in which
// all fits.
func TestPromiseOfLinesOfMildStreams(t *testing.T) {
	r := rand.New(rand.NewSource(12))
	counts := foldCounts{}
	for range oftenOrShort(400, 20) {
		list := mildStream(r, 1+r.Intn(30))
		widths := append(widthsUpTo(40), 199, 200)
		if narrowest := impl.NarrowestOf(list); narrowest > 40 && narrowest < 199 {
			widths = append(widths, narrowest-1, narrowest, narrowest+1)
		}
		checkFoldIn(t, widths, list, &counts)
		if t.Failed() {
			return
		}
	}
	counts.checkEnough(t, oftenOrShort(50, 5))
}

// Streams as they come of trees, in styles of all sorts.
func TestPromiseOfLinesOfTrees(t *testing.T) {
	r := rand.New(rand.NewSource(13))
	styles := everyStyle()
	counts := foldCounts{}
	for done := 0; done < oftenOrShort(300, 20) && !t.Failed(); {
		list := expectedTokens(styles[r.Intn(512)], randomTree(r, nil, 0, 1+r.Intn(40)))
		if len(list) <= 400 && expectedDepth(list) <= 12 {
			done++
			checkFoldIn(t, []int{1, 2 + r.Intn(10), 12 + r.Intn(30), 42 + r.Intn(100), 200}, list, &counts)
		}
	}
	counts.checkEnough(t, oftenOrShort(20, 1))
}

func TestPromiseOfLinesInEveryWidth(t *testing.T) {
	r := rand.New(rand.NewSource(14))
	counts := foldCounts{}
	lists := [][]impl.Token{
		tokens(t, `[2 "aa" _1 <5 "b" _1 "c" > _1 [1 "dddd" | > >`),
		tokens(t, `"aa" _1 [5 "b" _1 "c" _1 <1 "dddd" > > | "e" _1 "ff"`),
	}
	for range oftenOrShort(8, 1) {
		lists = append(lists, mildStream(r, 100), randomStream(r, 60))
	}
	for _, list := range lists {
		checkFoldIn(t, widthsUpTo(200), list, &counts)
	}
	counts.checkEnough(t, 1)
}

// lineCalls asks each function of the chapter something, some of them what is
// refused; each tells what it was answered.
func lineCalls(t *testing.T) []func() string {
	calls := []func() string{}
	for _, text := range []string{"", "\n", "ab\n  c \n\n d", "ab\n  cd"} {
		calls = append(calls,
			func() string {
				return fmt.Sprint(impl.LineWidths(text), impl.IndentsOf(text), impl.TrailOk(text), impl.WidestLine(text))
			},
			func() string {
				return fmt.Sprint(impl.LongLines(text, -1), impl.LongLines(text, 2), impl.CountText(text, 10), impl.CountText(text, 256))
			},
		)
	}
	for _, text := range []string{``, `[2 "aa" _1 <5 "b" _1 "c" > _1 "dddd" >`, `<0 "a" | "b" > |`, `<0 "a"`} {
		list := tokens(t, text)
		for _, width := range []int{0, 1, 4, 6, 200, 201} {
			calls = append(calls,
				func() string {
					return fmt.Sprint(impl.LineOfTokens(width, list), impl.LinesOverfull(width, list), impl.BrokenBlocks(width, list))
				},
				func() string {
					return fmt.Sprint(impl.UnbrokenIn(width, list, 0), impl.UnbrokenIn(width, list, 1), impl.TightKept(width, list))
				},
			)
		}
	}
	return calls
}

// checkAnyOrder: whatever was asked ahead, each call is answered as it was.
func checkAnyOrder(t *testing.T, calls []func() string) {
	t.Helper()
	first := []string{}
	for _, call := range calls {
		first = append(first, call())
	}
	r := rand.New(rand.NewSource(15))
	for range 20 {
		for _, k := range r.Perm(len(calls)) {
			if got := calls[k](); got != first[k] {
				t.Fatalf("call %d is answered %s, and was %s", k, textShown(got), textShown(first[k]))
			}
		}
	}
}

func TestLinesDoNotHangOnEarlierCalls(t *testing.T) { checkAnyOrder(t, lineCalls(t)) }

func TestLineArgumentsAreNotWrittenInto(t *testing.T) {
	for _, text := range []string{``, `"a"`, `[1 "a" _1 "b" > | "c"`, `[2 "aa" _1 <5 "b" _1 "c" > _1 "dddd" >`, `<0 "a"`, `"a" >`} {
		want := tokens(t, text)
		list, spare := roomy(want)
		for _, width := range []int{-1, 0, 1, 3, 200, 201} {
			impl.LineOfTokens(width, list)
			impl.LinesOverfull(width, list)
			impl.BrokenBlocks(width, list)
			impl.TightKept(width, list)
			for line := -1; line <= len(list)+1; line++ {
				impl.UnbrokenIn(width, list, line)
			}
		}
		checkUntouched(t, "a function of lines", list, want, spare)
	}
}

// Numbers that are written into or appended to one answer show in no other and
// in no argument, and an answer stays when its argument is changed.
func TestLineAnswersAreNewMemory(t *testing.T) {
	want := tokens(t, `[2 "aa" _1 <5 "b" _1 "c" > _1 "dddd" >`)
	list, spare := roomy(want)
	text := "ab\n  c\n\n   defg"
	for name, ask := range map[string]func() []int{
		"LineWidths":    func() []int { return impl.LineWidths(text) },
		"IndentsOf":     func() []int { return impl.IndentsOf(text) },
		"LongLines":     func() []int { return impl.LongLines(text, 1) },
		"LineOfTokens":  func() []int { return impl.LineOfTokens(4, list) },
		"LinesOverfull": func() []int { return impl.LinesOverfull(1, list) },
		"BrokenBlocks":  func() []int { return impl.BrokenBlocks(4, list) },
	} {
		checkNumbersAreNew(t, name, ask)
		checkUntouched(t, name, list, want, spare)
		again := ask()
		kept := slices.Clone(again)
		for k := range list {
			list[k] = impl.Token{Kind: impl.TokLine}
		}
		if !slices.Equal(again, kept) {
			t.Errorf("%s: an answer changes with the argument", name)
		}
		copy(list, want)
	}
}
