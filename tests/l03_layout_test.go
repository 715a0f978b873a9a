package tests

import (
	"math"
	"math/rand"
	"regexp"
	"slices"
	"strconv"
	"strings"
	"testing"

	"loop.example/g00829/impl"
)

// expectedPaper is what the document says of a stream in a width, found without
// the program; marks[k] has the columns behind the first k tokens.
type expectedPaper struct {
	text   string
	breaks []int
	marks  [][]int
}

type expectedMark struct {
	kind   string
	column int
}

// expectedPrinter writes pending blanks at once and takes them away again where
// a line ends, so that the length of its last line is the column with the
// pending blanks counted.
type expectedPrinter struct {
	width int
	lines []string
	marks []expectedMark
}

func (p *expectedPrinter) last() *string { return &p.lines[len(p.lines)-1] }

func (p *expectedPrinter) endLine() { *p.last() = strings.TrimRight(*p.last(), " ") }

func (p *expectedPrinter) columns() []int {
	list := []int{}
	for _, m := range p.marks {
		list = append(list, m.column)
	}
	return list
}

func (p *expectedPrinter) put(k impl.Token, size int) bool {
	room := p.width - len(*p.last())
	top := p.marks[len(p.marks)-1]
	switch k.Kind {
	case impl.TokText:
		*p.last() += k.Text
	case impl.TokBegin:
		next := expectedMark{"fits", top.column}
		if size > room {
			next = expectedMark{[]string{"loose", "tight"}[k.Width], len(*p.last()) + k.Off}
		}
		p.marks = append(p.marks, next)
	case impl.TokEnd:
		p.marks = p.marks[:len(p.marks)-1]
	}
	if k.Kind == impl.TokBlank && (top.kind == "fits" || top.kind == "loose" && size <= room) {
		*p.last() += strings.Repeat(" ", k.Width)
		return false
	}
	if k.Kind != impl.TokBlank && k.Kind != impl.TokLine {
		return false
	}
	p.endLine()
	p.lines = append(p.lines, strings.Repeat(" ", max(0, top.column+k.Off)))
	return true
}

func expectedLayout(width int, list []impl.Token, sizes []int) expectedPaper {
	p := expectedPrinter{width, []string{""}, []expectedMark{{"loose", 0}}}
	e := expectedPaper{marks: [][]int{{0}}}
	for k, token := range list {
		if p.put(token, sizes[k]) {
			e.breaks = append(e.breaks, k)
		}
		e.marks = append(e.marks, p.columns())
	}
	p.endLine()
	e.text = strings.Join(p.lines, "\n")
	return e
}

var blanksAtEnds = regexp.MustCompile(` +(\n|$)`)

// plainTrimmed is what Layout has to be where FitsAll is true.
func plainTrimmed(e expectedStream) string {
	return blanksAtEnds.ReplaceAllString(e.plain, "$1")
}

// checkLayout holds every function of a stream and a width against what is expected.
func checkLayout(t *testing.T, width int, list []impl.Token, stream expectedStream) {
	t.Helper()
	e := expectedLayout(width, list, stream.sizes)
	if got, ok := impl.Layout(width, list); !ok || got != e.text {
		t.Errorf("Layout(%d, %s) = %q, %v, want %q", width, tokensShown(list), got, ok, e.text)
	}
	if got := impl.BreaksOf(width, list); !slices.Equal(got, e.breaks) {
		t.Errorf("BreaksOf(%d, %s) = %v, want %v", width, tokensShown(list), got, e.breaks)
	}
	if got, want := impl.FitsAll(width, list), e.text == plainTrimmed(stream); got != want {
		t.Errorf("FitsAll(%d, %s) = %v", width, tokensShown(list), got)
	}
	if got, want := impl.LinesIn(width, list), strings.Count(e.text, "\n"); got != want {
		t.Errorf("LinesIn(%d, %s) = %d, want %d", width, tokensShown(list), got, want)
	}
	for k := -1; k <= len(list)+1; k++ {
		want := e.marks[min(max(k, 0), len(list))]
		if got := impl.MarksAt(width, list, k); !slices.Equal(got, want) {
			t.Errorf("MarksAt(%d, %s, %d) = %v, want %v", width, tokensShown(list), k, got, want)
		}
	}
}

// checkNoLayout expects of each function its answer for what is not as it is wanted.
func checkNoLayout(t *testing.T, name string, width int, list []impl.Token) {
	t.Helper()
	if got, ok := impl.Layout(width, list); ok || got != "" {
		t.Errorf("%s: Layout(%d) = %q, %v", name, width, got, ok)
	}
	if got := impl.BreaksOf(width, list); len(got) != 0 {
		t.Errorf("%s: BreaksOf(%d) = %v", name, width, got)
	}
	if impl.FitsAll(width, list) {
		t.Errorf("%s: FitsAll(%d)", name, width)
	}
	if got := impl.LinesIn(width, list); got != -1 {
		t.Errorf("%s: LinesIn(%d) = %d", name, width, got)
	}
	for _, k := range []int{math.MinInt, -1, 0, 1, len(list), len(list) + 1, math.MaxInt} {
		if got := impl.MarksAt(width, list, k); len(got) != 0 {
			t.Errorf("%s: MarksAt(%d, %d) = %v", name, width, k, got)
		}
	}
}

func placesOfLines(list []impl.Token) []int {
	places := []int{}
	for k, token := range list {
		if token.Kind == impl.TokLine {
			places = append(places, k)
		}
	}
	return places
}

// textsInOrder says whether text is the texts of list, with blanks and bytes 10
// between them and at both ends.
func textsInOrder(text string, list []impl.Token) bool {
	for _, token := range list {
		if token.Kind == impl.TokText {
			rest, found := strings.CutPrefix(strings.TrimLeft(text, " \n"), token.Text)
			if !found {
				return false
			}
			text = rest
		}
	}
	return strings.Trim(text, " \n") == ""
}

// checkPaper holds a layout against what follows of it in any width, without a
// layout from elsewhere.
func checkPaper(t *testing.T, width int, list []impl.Token) {
	t.Helper()
	text, ok := impl.Layout(width, list)
	if !ok {
		t.Fatalf("Layout(%d, %s) is false", width, tokensShown(list))
	}
	for line := range strings.SplitSeq(text, "\n") {
		if strings.HasSuffix(line, " ") {
			t.Errorf("Layout(%d, %s) = %q: a line ends with a blank", width, tokensShown(list), text)
		}
	}
	if !textsInOrder(text, list) {
		t.Errorf("Layout(%d, %s) = %q: not its texts in their order", width, tokensShown(list), text)
	}
	if got := impl.LinesIn(width, list); got != strings.Count(text, "\n") || got != len(impl.BreaksOf(width, list)) {
		t.Errorf("LinesIn(%d, %s) = %d, and Layout is %q", width, tokensShown(list), got, text)
	}
}

// checkNarrowest holds promise 3 against a stream in every width, and gives
// what NarrowestOf gave.
func checkNarrowest(t *testing.T, list []impl.Token) int {
	t.Helper()
	narrowest := impl.NarrowestOf(list)
	least := narrowest
	if narrowest == -1 {
		least = impl.MaxWidth + 1
	}
	lines := placesOfLines(list)
	for width := 1; width <= impl.MaxWidth; width++ {
		checkPaper(t, width, list)
		if got := impl.FitsAll(width, list); got != (width >= least) {
			t.Errorf("NarrowestOf(%s) = %d, but FitsAll is %v in %d", tokensShown(list), narrowest, got, width)
		}
		if width >= least {
			if got := impl.BreaksOf(width, list); !slices.Equal(got, lines) {
				t.Errorf("NarrowestOf(%s) = %d, but in %d the breaks are %v", tokensShown(list), narrowest, width, got)
			}
		}
	}
	return narrowest
}

// mildStream is a stream that often fits all in some width: its texts are short
// and all different, and its lines are seldom within blocks and never further in
// by their own Off.
func mildStream(r *rand.Rand, count int) []impl.Token {
	list := []impl.Token{}
	open := 0
	for left := count; left > 0; left-- {
		kind := r.Intn(8)
		switch {
		case open == left || kind == 0 && open > 0:
			list = append(list, impl.Token{Kind: impl.TokEnd})
			open--
		case kind <= 1 && open < 12 && open+2 <= left:
			list = append(list, impl.Token{Kind: impl.TokBegin, Width: r.Intn(2), Off: r.Intn(4)})
			open++
		case kind == 2 && (open == 0 || r.Intn(8) == 0):
			list = append(list, impl.Token{Kind: impl.TokLine, Off: -r.Intn(10)})
		case kind <= 4:
			list = append(list, impl.Token{Kind: impl.TokBlank, Width: r.Intn(4), Off: r.Intn(7) - 3})
		default:
			list = append(list, impl.Token{Text: strconv.Itoa(left) + []string{"", "a", " b", "  c d"}[r.Intn(4)]})
		}
	}
	return list
}

func TestMaxWidth(t *testing.T) {
	if impl.MaxWidth != 200 {
		t.Errorf("MaxWidth is %d", impl.MaxWidth)
	}
}

func TestLayoutByHand(t *testing.T) {
	for _, c := range []struct {
		width  int
		text   string
		want   string
		breaks []int
	}{
		// A size that is just the room stays, one more breaks.
		{3, `"a" _1 "b"`, "a b", nil},
		{2, `"a" _1 "b"`, "a\nb", []int{1}},
		{1, `"a" _1 "b"`, "a\nb", []int{1}},
		{200, `"a" _9 "b"`, "a         b", nil},
		{1, `"a" _0 "b"`, "a\nb", []int{1}},
		{2, `"a" _0 "b"`, "ab", nil},
		{3, `"aa" _1+3 "bb"`, "aa\n   bb", []int{1}},
		{3, `"aa" _1-3 "bb"`, "aa\nbb", []int{1}},
		// Blanks that are pending at a break are dropped.
		{5, `"a" _3 _9 "bbb"`, "a\nbbb", []int{2}},
		{9, `"a" _3 | "b"`, "a\nb", []int{2}},
		{9, `_3 | "b"`, "\nb", []int{1}},
		{9, `"a" |+4 | "b"`, "a\n\nb", []int{1, 2}},
		{9, `"a" |+4 _2 |+1 "b"`, "a\n\n b", []int{1, 3}},
		{9, `"a" <0 _2 > | "b"`, "a\nb", []int{4}},
		// Blanks that are pending at the end are not written.
		{9, `"a" _3`, "a", nil},
		{9, `_3`, "", nil},
		{2, `_3`, "\n", []int{0}},
		{2, `_3+5`, "\n", []int{0}},
		{9, `"a" |+4`, "a\n", []int{1}},
		{9, `"a" [1 _2 >`, "a", nil},
		// Blanks that are pending count for the room of a blank and of a block, and for the column of a mark.
		{6, `"a" _2 _2 "bb"`, "a\nbb", []int{2}},
		{7, `"a" _2 _2 "bb"`, "a    bb", nil},
		{6, `<0 "a" _1 > <2 "b" _1 "cccc" >`, "a b\n    cccc", []int{6}},
		{7, `<0 "a" _1 > <2 "b" _1 "cccc" >`, "a b\n    cccc", []int{6}},
		{8, `<0 "a" _1 > <2 "b" _1 "cccc" >`, "a b cccc", nil},
		{8, `|+3 <1 "c" _1 "dddd" >`, "\n   c\n    dddd", []int{0, 3}},
		{9, `|+3 <1 "c" _1 "dddd" >`, "\n   c dddd", []int{0}},
		// A block that fits within one that does not.
		{6, `[2 "aa" _1 <5 "b" _1 "c" > _1 "dddd" >`, "aa\n  b c\n  dddd", []int{2, 8}},
		{5, `[2 "aa" _1 <5 "b" _1 "c" > _1 "dddd" >`, "aa\n  b c\n  dddd", []int{2, 8}},
		{4, `[2 "aa" _1 <5 "b" _1 "c" > _1 "dddd" >`, "aa\n  b\n       c\n  dddd", []int{2, 5, 8}},
		{6, `<1 "a" _1 [3 "b" _1 "c" > _1 "dddd" >`, "a b c\n dddd", []int{8}},
		// What stands behind a block up to the next break has to fit with it.
		{4, `[0 "a" _1 "b" > "c"`, "a bc", nil},
		{3, `[0 "a" _1 "b" > "c"`, "a\nbc", []int{2}},
		// A tight block breaks at each of its blanks, a loose one where it must.
		{5, `[1 "a" _1 "b" _1 "cccc" >`, "a\n b\n cccc", []int{2, 4}},
		{5, `<1 "a" _1 "b" _1 "cccc" >`, "a b\n cccc", []int{4}},
		{8, `[1 "a" _1 "b" _1 "cccc" >`, "a b cccc", nil},
		{7, `[1 "a" _1 "b" _1 "cccc" >`, "a\n b\n cccc", []int{2, 4}},
		{7, `<1 "a" _1 "b" _1 "cccc" >`, "a b\n cccc", []int{4}},
		{7, `<1 "a" _1 "b" _1 "cccc" _1 "d" >`, "a b\n cccc d", []int{4}},
		{5, `[0 "a" _0 _0 "bbbbb" >`, "a\n\nbbbbb", []int{2, 3}},
		// Behind a block its mark is gone.
		{6, `<5 "a" _1 "bbbbb" > _1 "c"`, "a\n     bbbbb\nc", []int{2, 5}},
		{6, `[1 "a" _1 "bbbbbb" > "c" _1+2 "d"`, "a\n bbbbbbc\n  d", []int{2, 6}},
		// A column and an Off that are together below 0 are none.
		{9, `"a" |-1 "b"`, "a\nb", []int{1}},
		{9, `<2 "a" |-9 "b" >`, "a\nb", []int{2}},
		{9, `<2 "a" |-3 "b" >`, "a\nb", []int{2}},
		{9, `<2 "a" |-2 "b" >`, "a\nb", []int{2}},
		{9, `<2 "a" |-1 "b" >`, "a\n b", []int{2}},
		{9, `<2 "a" |+1 "b" >`, "a\n   b", []int{2}},
		{9, `"a" |-5 _3 "b"`, "a\n   b", []int{1}},
		{9, `"a" |-5 <2 "b" | "c" >`, "a\nb\n  c", []int{1, 4}},
		{4, `"aa" _1-9 <2 "b" _1 "ccc" >`, "aa\nb\n  ccc", []int{1, 4}},
		// A block with a line in it fits in no width, nor does a blank ahead of it.
		{200, `[1 "a" _1 "b" | "c" >`, "a\n b\n c", []int{2, 4}},
		{200, `<1 "a" _1 "b" | "c" >`, "a b\n c", []int{4}},
		{200, `"x" _1 <0 "a" | "b" >`, "x\na\nb", []int{1, 4}},
		{200, `"x" _1 | <0 "a" | "b" >`, "x\na\nb", []int{2, 5}},
		{200, `[1 "a" _1 <3 "b" _1 "c" > _1 <3 "d" | > >`, "a\n b c\n d\n", []int{2, 8, 11}},
		// Beyond the width nothing has room, not even what has no size.
		{6, `"abcdef" _0 | "x"`, "abcdef\nx", []int{2}},
		{5, `"abcdef" _0 | "x"`, "abcdef\n\nx", []int{1, 2}},
		{1, `"abcdef" "g"`, "abcdefg", nil},
		{2, `<9 "a" _0 <9 "b" _0 "c" > >`, "a\n         b\n                  c", []int{2, 5}},
	} {
		list := tokens(t, c.text)
		if got, ok := impl.Layout(c.width, list); !ok || got != c.want {
			t.Errorf("Layout(%d, %s) = %q, %v, want %q", c.width, c.text, got, ok, c.want)
		}
		if got := impl.BreaksOf(c.width, list); !slices.Equal(got, c.breaks) {
			t.Errorf("BreaksOf(%d, %s) = %v, want %v", c.width, c.text, got, c.breaks)
		}
		if got := impl.LinesIn(c.width, list); got != len(c.breaks) {
			t.Errorf("LinesIn(%d, %s) = %d, want %d", c.width, c.text, got, len(c.breaks))
		}
		checkLayout(t, c.width, list, expectedOf(list))
	}
}

func TestMarksByHand(t *testing.T) {
	for _, c := range []struct {
		width int
		text  string
		k     int
		want  []int
	}{
		{9, ``, 0, []int{0}},
		{9, ``, 3, []int{0}},
		{9, `"a" _1 "b"`, 2, []int{0}},
		{9, `"aa" <5 "b" >`, 1, []int{0}},
		{9, `"aa" <5 "b" >`, 2, []int{0, 0}},
		{2, `"aa" <5 "b" >`, 2, []int{0, 7}},
		{2, `"aa" <5 "b" >`, 3, []int{0, 7}},
		{2, `"aa" <5 "b" >`, 4, []int{0}},
		{2, `"aa" [5 "b" >`, 2, []int{0, 7}},
		// A mark that fits has the column of the one below.
		{6, `[2 "aa" _1 <5 "b" _1 "c" > _1 "dddd" >`, 4, []int{0, 2, 2}},
		{4, `[2 "aa" _1 <5 "b" _1 "c" > _1 "dddd" >`, 4, []int{0, 2, 7}},
		{11, `[2 "aa" _1 <5 "b" _1 "c" > _1 "dddd" >`, 4, []int{0, 0, 0}},
		{6, `[2 "aa" _1 <5 [1 "b" > _1 "c" > _1 "dddd" >`, 5, []int{0, 2, 2, 2}},
		// Pending blanks count.
		{7, `<0 "a" _1 > <2 "b" _1 "cccc" >`, 5, []int{0, 4}},
		{8, `<0 "a" _1 > <2 "b" _1 "cccc" >`, 5, []int{0, 0}},
		{4, `|+3 <1 "c" _1 "dddd" >`, 2, []int{0, 4}},
		// A break leaves the marks as they are.
		{200, `<3 "a" | "b" >`, 1, []int{0, 3}},
		{200, `<3 "a" | "b" >`, 3, []int{0, 3}},
		{200, `<3 "a" |+5 <1 | > >`, 4, []int{0, 3, 9}},
		// A block without size has no room beyond the width.
		{6, `"abcdef" <3 >`, 2, []int{0, 0}},
		{5, `"abcdef" <3 >`, 2, []int{0, 9}},
		// k below 0, and k beyond the list.
		{2, `<3 "abc" >`, -1, []int{0}},
		{2, `<3 "abc" >`, math.MinInt, []int{0}},
		{2, `<3 "abc" >`, 0, []int{0}},
		{2, `<3 "abc" >`, 1, []int{0, 3}},
		{2, `<3 "abc" >`, 2, []int{0, 3}},
		{2, `<3 "abc" >`, 3, []int{0}},
		{2, `<3 "abc" >`, 4, []int{0}},
		{2, `<3 "abc" >`, math.MaxInt, []int{0}},
	} {
		list := tokens(t, c.text)
		if got := impl.MarksAt(c.width, list, c.k); !slices.Equal(got, c.want) {
			t.Errorf("MarksAt(%d, %s, %d) = %v, want %v", c.width, c.text, c.k, got, c.want)
		}
		checkLayout(t, c.width, list, expectedOf(list))
	}
}

// The size of a token is that of the whole stream, whatever k is.
func TestMarksLookAheadOfK(t *testing.T) {
	list := tokens(t, `<2 "a" _1 "bbbbbbbb" >`)
	for k, want := range [][]int{{0}, {0, 2}, {0, 2}, {0, 2}, {0, 2}, {0}} {
		if got := impl.MarksAt(5, list, k); !slices.Equal(got, want) {
			t.Errorf("MarksAt(5, .., %d) = %v, want %v", k, got, want)
		}
	}
}

func TestDeepestMarks(t *testing.T) {
	list := repeated(impl.Token{Kind: impl.TokBegin, Off: 9}, 12)
	list = append(list, impl.Token{Kind: impl.TokLine, Off: 9}, impl.Token{Text: "a"})
	list = append(list, repeated(impl.Token{Kind: impl.TokEnd}, 12)...)
	want := append([]int{0}, slices.Repeat([]int{9}, 12)...)
	if got := impl.MarksAt(200, list, 13); !slices.Equal(got, want) {
		t.Errorf("MarksAt of 12 blocks = %v", got)
	}
	if got, _ := impl.Layout(200, list); got != "\n"+strings.Repeat(" ", 18)+"a" {
		t.Errorf("Layout of 12 blocks = %q", got)
	}
	checkLayout(t, 200, list, expectedOf(list))
}

// eachShortStream shows every stream of at most so many tokens of an alphabet,
// as long as the test has not failed.
func eachShortStream(t *testing.T, alphabet []impl.Token, most int, show func(list []impl.Token)) {
	t.Helper()
	var grow func(list []impl.Token, open int)
	grow = func(list []impl.Token, open int) {
		if open == 0 {
			show(list)
		}
		for _, k := range alphabet {
			next := open
			switch k.Kind {
			case impl.TokBegin:
				next++
			case impl.TokEnd:
				next--
			}
			if next >= 0 && len(list)+1+next <= most && !t.Failed() {
				grow(append(slices.Clone(list), k), next)
			}
		}
	}
	grow(nil, 0)
}

func TestLayoutOfAllShortStreams(t *testing.T) {
	alphabet := []impl.Token{
		{Text: "ab"}, {Kind: impl.TokBlank, Width: 1}, {Kind: impl.TokBlank, Width: 2, Off: 1}, {Kind: impl.TokBegin, Off: 1}, {Kind: impl.TokBegin, Width: 1, Off: 2}, {Kind: impl.TokEnd}, {Kind: impl.TokLine, Off: -1},
	}
	eachShortStream(t, alphabet, 6, func(list []impl.Token) {
		stream := expectedOf(list)
		for _, width := range []int{1, 2, 3, 4, 5, 6, 8, 200} {
			checkLayout(t, width, list, stream)
			checkPaper(t, width, list)
		}
	})
}

func TestLayoutOfRandomStreams(t *testing.T) {
	for i, list := range randomStreams() {
		if t.Failed() {
			return
		}
		stream := expectedOf(list)
		for _, width := range []int{1, 2 + i%40, 42 + i%157, 199, 200} {
			checkLayout(t, width, list, stream)
			checkPaper(t, width, list)
		}
	}
}

func TestPromiseOfNarrowest(t *testing.T) {
	r := rand.New(rand.NewSource(3))
	wide, withLines, linesInBlocks, none := 0, 0, 0, 0
	for i := 0; i < 400 && !t.Failed(); i++ {
		list := mildStream(r, 1+r.Intn(24))
		narrowest := checkNarrowest(t, list)
		levels := expectedOf(list).levels
		lines := placesOfLines(list)
		switch {
		case narrowest == -1:
			none++
		case slices.ContainsFunc(lines, func(k int) bool { return levels[k] > 0 }):
			linesInBlocks++
		case narrowest > 1 && len(lines) > 0:
			withLines++
		case narrowest > 1:
			wide++
		}
		for width := 1; width <= 30; width++ {
			checkLayout(t, width, list, expectedOf(list))
		}
	}
	if !t.Failed() && (wide < 20 || withLines < 20 || linesInBlocks < 5 || none < 20) {
		t.Errorf("too few streams of one sort: %d wide, %d with lines, %d with lines in blocks, %d that never fit", wide, withLines, linesInBlocks, none)
	}
}

func TestNarrowestByHand(t *testing.T) {
	for text, want := range map[string]int{
		``:                                  1,
		`<0 >`:                              1,
		`"abc"`:                             1,
		`"abc" "def"`:                       1,
		`|`:                                 1,
		`_0`:                                1,
		`_1`:                                1,
		`_5`:                                5,
		`"a" _2`:                            3,
		`"a" _0 "b"`:                        2,
		`"ab" _1 "cd"`:                      5,
		`"ab" _1 "cd" | "e" _1 "fghi"`:      6,
		`"e" _1 "fghi" | "ab" _1 "cd"`:      6,
		`[3 "ab" _1 <2 "cd" _1 "e" > "f" >`: 8,
		`<3 "ab" _1 [2 "cd" _1 "e" > > "f"`: 8,
		// Where it is the last of a line, a line may be further in.
		`"a" |+3`:             1,
		`"a" |+3 | "b"`:       1,
		`"a" |+3 _2 |-1 "b"`:  5,
		`"a" | _2 "b"`:        3,
		`<2 "a" |-2 "b" >`:    1,
		`<2 "a" _1 "b" |-2 >`: 3,
		`<0 "a" | "b" >`:      1,
		`[0 "a" | "b" >`:      1,
		// A text that is further in than PlainOf has it, and a blank that breaks in every width.
		`"a" |+1 "b"`:           -1,
		`<2 "a" |-1 "b" >`:      -1,
		`<1 "a" | "b" >`:        -1,
		`[0 "a" _1 "b" | "c" >`: -1,
		`"x" _1 <0 "a" | "b" >`: -1,
		`"x" _0 <0 | >`:         -1,
	} {
		list := tokens(t, text)
		if got := checkNarrowest(t, list); got != want {
			t.Errorf("NarrowestOf(%s) = %d, want %d", text, got, want)
		}
	}
}

// Five texts and their blanks are 200 wide, and then one more.
func TestNarrowestAtMaxWidth(t *testing.T) {
	for last, want := range map[int]int{35: 199, 36: 200, 37: -1, 40: -1} {
		list := []impl.Token{}
		for range 4 {
			list = append(list, impl.Token{Text: strings.Repeat("x", 40)}, impl.Token{Kind: impl.TokBlank, Width: 1})
		}
		list = append(list, impl.Token{Text: strings.Repeat("y", last)})
		for _, tight := range []bool{false, true} {
			block, _ := impl.WrapStream(list, tight, 2)
			for _, stream := range [][]impl.Token{list, block} {
				if got := checkNarrowest(t, stream); got != want {
					t.Errorf("NarrowestOf a line of %d = %d, want %d", 164+last, got, want)
				}
			}
		}
	}
	// Without a break even the longest line fits in every width.
	if got := impl.NarrowestOf(repeated(impl.Token{Text: strings.Repeat("x", 40)}, 400)); got != 1 {
		t.Errorf("NarrowestOf a line without blanks = %d", got)
	}
}

func TestWidthsThatAreNone(t *testing.T) {
	list := tokens(t, `<0 "a" _1 "b" > | "c"`)
	for _, width := range []int{math.MinInt, math.MinInt + 1, -1000, -200, -2, -1, 0, 201, 202, 1000000, 1 << 32, math.MaxInt - 1, math.MaxInt} {
		checkNoLayout(t, "a good stream", width, list)
		checkNoLayout(t, "an empty stream", width, nil)
	}
	for _, width := range []int{1, 2, 199, 200} {
		checkLayout(t, width, list, expectedOf(list))
	}
}

func TestLayoutOfTheEmptyStream(t *testing.T) {
	for _, list := range [][]impl.Token{nil, {}} {
		for _, width := range []int{1, 40, 200} {
			checkLayout(t, width, list, expectedOf(list))
			if text, ok := impl.Layout(width, list); !ok || text != "" || !impl.FitsAll(width, list) || impl.LinesIn(width, list) != 0 {
				t.Errorf("an empty stream in %d is %q, %v", width, text, ok)
			}
		}
		if got := impl.NarrowestOf(list); got != 1 {
			t.Errorf("NarrowestOf an empty stream = %d", got)
		}
	}
}

func TestLayoutOfNoStreams(t *testing.T) {
	for name, list := range badLists(t) {
		for _, width := range []int{-1, 0, 1, 40, 200, 201} {
			checkNoLayout(t, name, width, list)
		}
		if got := impl.NarrowestOf(list); got != -1 {
			t.Errorf("%s: NarrowestOf = %d", name, got)
		}
	}
}

func TestLayoutAtTheLimits(t *testing.T) {
	text := impl.Token{Text: strings.Repeat("x", 40)}
	blank := impl.Token{Kind: impl.TokBlank, Width: 9, Off: 9}
	pairs := slices.Repeat([]impl.Token{text, blank}, 200)
	lines := repeated(impl.Token{Kind: impl.TokLine, Off: 9}, 400)
	for _, list := range [][]impl.Token{repeated(text, 400), pairs, lines, nested(12)} {
		for _, width := range []int{1, 49, 98, 199, 200} {
			checkLayout(t, width, list, expectedOf(list))
			checkPaper(t, width, list)
		}
	}
	if got := impl.LinesIn(1, lines); got != 400 {
		t.Errorf("LinesIn of 400 lines = %d", got)
	}
	checkNoLayout(t, "401 lines", 1, append(lines, lines[0]))
	checkNoLayout(t, "13 blocks", 1, nested(13))
}

func TestLayoutArgumentsAreNotWrittenInto(t *testing.T) {
	for _, text := range []string{``, `"a"`, `<0 "a" _1 "b" > | "c"`, `[2 "aa" _1 <5 "b" _1 "c" > _1 "dddd" >`, `<0 "a"`, `"a" >`} {
		want := tokens(t, text)
		list, spare := roomy(want)
		for _, width := range []int{-1, 0, 1, 3, 200, 201} {
			impl.Layout(width, list)
			impl.BreaksOf(width, list)
			impl.FitsAll(width, list)
			impl.LinesIn(width, list)
			for k := -1; k <= len(list)+1; k++ {
				impl.MarksAt(width, list, k)
			}
		}
		impl.NarrowestOf(list)
		checkUntouched(t, "a function of a width and a list", list, want, spare)
	}
}

// checkNumbersAreNew writes into one answer and behind it, which must not show
// in another, nor in one that is asked for later.
func checkNumbersAreNew(t *testing.T, name string, ask func() []int) {
	t.Helper()
	kept := slices.Clone(ask())
	one, two := ask(), ask()
	for k := range one {
		one[k] = -7
	}
	_ = append(one, -7)
	if len(kept) == 0 || !slices.Equal(two, kept) || !slices.Equal(ask(), kept) {
		t.Errorf("%s: two answers share memory", name)
	}
}

func TestLayoutAnswersAreNewMemory(t *testing.T) {
	want := tokens(t, `[2 "aa" _1 <5 "b" _1 "c" > _1 "dddd" >`)
	list, spare := roomy(want)
	for name, ask := range map[string]func() []int{
		"BreaksOf": func() []int { return impl.BreaksOf(4, list) },
		"MarksAt":  func() []int { return impl.MarksAt(4, list, 5) },
	} {
		checkNumbersAreNew(t, name, ask)
		checkUntouched(t, name, list, want, spare)
	}
}

// What was answered stays when the argument is changed.
func TestLayoutAnswersAreKept(t *testing.T) {
	list := tokens(t, `[2 "aa" _1 <5 "b" _1 "c" > _1 "dddd" >`)
	text, _ := impl.Layout(4, list)
	breaks := impl.BreaksOf(4, list)
	marks := impl.MarksAt(4, list, 5)
	for k := range list {
		list[k] = impl.Token{Kind: impl.TokLine}
	}
	if text != "aa\n  b\n       c\n  dddd" || !slices.Equal(breaks, []int{2, 5, 8}) || !slices.Equal(marks, []int{0, 2, 7}) {
		t.Errorf("answers change with the argument: %q, %v, %v", text, breaks, marks)
	}
}
