package tests

import (
	"math"
	"math/rand"
	"strings"
	"testing"

	"loop.example/g00829/impl"
)

// expectedFit counts the lines that are expected in every width. It gives the
// least width with no more than the widest one has, and the counts, that of
// width 1 at place 1.
func expectedFit(p readText, s impl.Style) (int, []int) {
	if _, name, _ := expectedForm(p, 200, s); name != "fine" {
		return -1, nil
	}
	list := expectedTokens(s, p.list)
	sizes := expectedOf(list).sizes
	counts := make([]int, 201)
	for width := 1; width <= 200; width++ {
		counts[width] = strings.Count(expectedLayout(width, list, sizes).text, "\n")
	}
	for width := 1; ; width++ {
		if counts[width] <= counts[200] {
			return width, counts
		}
	}
}

// checkFit holds NarrowFit against what is expected, and promise 11 with what
// Format gives. It gives what NarrowFit gave.
func checkFit(t *testing.T, p readText, s impl.Style) int {
	t.Helper()
	want, counts := expectedFit(p, s)
	fit := impl.NarrowFit(p.text, s)
	if fit != want {
		t.Fatalf("NarrowFit(%q, %v) = %d, want %d", textShown(p.text), s, fit, want)
	}
	if fit == -1 {
		return fit
	}
	end := min(1, len(p.list))
	for _, width := range []int{fit - 1, fit, fit + 1, 1, 200, 1 + len(p.text)%200} {
		if width < 1 || width > 200 {
			continue
		}
		if got := linesFormed(t, p.text, width, s); got != counts[width]+end {
			t.Fatalf("Format(%q, %d, %v) has %d lines, want %d", textShown(p.text), width, s, got, counts[width]+end)
		}
	}
	return fit
}

// linesFormed is how many bytes 10 Format gives.
func linesFormed(t *testing.T, text string, width int, s impl.Style) int {
	t.Helper()
	got, code, at := impl.Format(text, width, s)
	if code != 0 || at != -1 {
		t.Fatalf("Format(%q, %d, %v) is %q", textShown(text), width, s, formShown(got, code, at))
	}
	return strings.Count(got, "\n")
}

// checkFitPromise is promise 11 in every width, with nothing that is expected
// of the program.
func checkFitPromise(t *testing.T, text string, s impl.Style) {
	t.Helper()
	fit := impl.NarrowFit(text, s)
	if fit < 1 || fit > 200 {
		t.Fatalf("NarrowFit(%q, %v) = %d", textShown(text), s, fit)
	}
	most := linesFormed(t, text, 200, s)
	if got := linesFormed(t, text, fit, s); got > most {
		t.Fatalf("NarrowFit(%q, %v) = %d, which gives %d lines, and the widest width %d", textShown(text), s, fit, got, most)
	}
	for width := 1; width < fit; width++ {
		if got := linesFormed(t, text, width, s); got <= most {
			t.Fatalf("NarrowFit(%q, %v) = %d, but %d gives %d lines, and the widest width %d", textShown(text), s, fit, width, got, most)
		}
	}
}

// The numbers are found by hand: the length of what must stay on a line.
func TestNarrowFitByHand(t *testing.T) {
	atom := strings.Repeat("x", 40)
	for _, c := range []struct {
		style string
		text  string
		want  int
	}{
		{"2 1 1 1 0", "", 1},
		{"2 1 1 1 0", " \n,", 1},
		{"2 1 1 1 1", "\n", 1},
		{"2 1 1 1 0", "a", 1},
		{"2 1 1 1 0", atom, 1},
		{"2 1 1 1 0", "''" + atom, 1},
		{"2 1 1 1 0", "a b", 1},
		{"2 1 1 1 1", "a b " + atom, 1},
		{"2 1 1 1 0", "(((a)))", 1},
		{"2 1 1 1 0", "()[]{}", 1},
		{"2 1 1 1 0", "(a b)", 5},
		{"2 1 1 1 0", "[a b]", 5},
		{"2 1 1 1 0", "{a b}", 5},
		{"2 1 1 1 0", "'(a b)", 6},
		{"2 1 1 1 0", "((a b))", 7},
		{"2 1 1 1 0", "(aa bb cc)", 10},
		{"2 1 1 1 0", "(a b) (cc dd)", 7},
		{"2 1 1 1 1", "(cc dd) (a b)", 7},
		{"2 1 1 1 0", "(a b) " + atom, 5},
		// A tight block with a note breaks at every width; a loose one keeps "(a ;n" on a line, and "  bb c)".
		{"2 1 1 1 0", "[a ;n\n b c]", 1},
		{"2 1 1 1 0", "(a ;n\n)", 5},
		{"2 1 1 1 0", "(a ;n\n bb c)", 7},
		{"3 1 1 1 0", "(a ;n\n bb c)", 1},
		// Within what breaks at every width, what fits by itself decides.
		{"2 1 1 1 0", "[(a b) ;n\n (c d)]", 7},
		{"2 1 1 1 0", "[[a b] ;n\n c]", 6},
		{"2 1 1 1 0", "[;n\n [[a bb] c]]", 12},
		{"2 1 1 1 0", "(;n\n [a bb])", 9},
		{"2 1 1 1 0", "[;n\n (a bb)]", 8},
		{"0 0 0 0 0", "(;n\n [a bb])", 8},
		// Too wide for any width: a tight block breaks in all of them, a loose one has four atoms a line.
		{"2 1 1 1 0", "[" + strings.Repeat(atom+" ", 5) + "]", 1},
		{"3 1 1 1 0", "(" + strings.Repeat(atom+" ", 10) + ")", 1},
		{"2 1 1 1 0", "(" + strings.Repeat(atom+" ", 10) + ")", 164},
		{"2 1 1 1 0", "(" + strings.Repeat(atom+" ", 12) + ")", 166},
		{"2 1 1 1 0", "[" + strings.Repeat(atom+" ", 5) + "(a b)]", 7},
		{"2 1 1 1 0", "{" + strings.Repeat(atom+" ", 5) + "[a b c]}", 10},
		// As wide as can be.
		{"2 1 1 1 0", "(" + strings.Repeat(atom+" ", 4) + atom[:34] + ")", 200},
		{"0 1 1 0 0", "(" + strings.Repeat(atom+" ", 4) + atom[:33] + ")", 199},
		{"2 1 1 1 0", "[" + strings.Repeat(atom+" ", 4) + atom[:35] + "]", 1},
		// Codes, and what is no stream.
		{"2 1 1 1 0", "(", -1},
		{"2 1 1 1 0", "{a}", -1},
		{"2 1 1 1 0", strings.Repeat(" ", 2001), -1},
		{"2 1 1 1 0", strings.Repeat("(", 12) + strings.Repeat(")", 12), 1},
		{"2 1 1 1 0", strings.Repeat("(", 13) + strings.Repeat(")", 13), -1},
		{"2 1 1 1 0", strings.Repeat("()", 80), 1},
		{"2 1 1 1 1", strings.Repeat("()", 80), -1},
	} {
		s := styleOf(t, c.style)
		p := readTextOf(newLexReader(), c.text)
		if got := checkFit(t, p, s); got != c.want {
			t.Errorf("NarrowFit(%q, %s) = %d, want %d", textShown(c.text), c.style, got, c.want)
		}
		if c.want != -1 {
			checkFitPromise(t, c.text, s)
		}
	}
}

// A tight and a loose block, one in the other, in each way and in each style.
func TestNarrowFitOfBlocksInBlocks(t *testing.T) {
	reader := newLexReader()
	seen := map[int]bool{}
	for _, text := range []string{
		"(aa [b cc d] e)", "[aa (b cc d) e]", "([b cc d] aa [e f])", "[(b cc d) (e ff) ggg]", "(a [b (c [d (e [f g])])])",
		"{k (a b [c d]) key [v (w x)]}", "[a (b ;n\n c) [d e f] g]", "(a [b ;n\n c] (d e f) g)", "'([a b] '(c '[d e]))", "((a b) [c d]) [(e f) {g h}] (i j)",
	} {
		p := readTextOf(reader, text)
		for k, s := range everyStyle() {
			if k%4 == len(text)%4 {
				seen[checkFit(t, p, s)] = true
			}
		}
	}
	if len(seen) < 10 || seen[-1] {
		t.Errorf("the narrowest fits are %v", seen)
	}
}

func TestNarrowFitInNoStyle(t *testing.T) {
	for _, text := range []string{"", "a", "(a b)", "(", strings.Repeat("()", 100)} {
		for _, s := range wrongStyles() {
			if got := impl.NarrowFit(text, s); got != -1 {
				t.Errorf("NarrowFit(%q, %v) = %d", textShown(text), s, got)
			}
		}
	}
}

// Blocks of each width, and of more than the widest: all on one line where they
// have room.
func TestNarrowFitOfEachWidth(t *testing.T) {
	reader := newLexReader()
	for size := 5; size <= 204; size++ {
		words := []string{}
		left := size - 2
		for left > 44 {
			words = append(words, strings.Repeat("x", 40))
			left -= 41
		}
		words = append(words, strings.Repeat("y", left/2), strings.Repeat("z", left-left/2-1))
		text := "[" + strings.Join(words, " ") + "]"
		want := size
		if size > 200 {
			want = 1
		}
		if got := checkFit(t, readTextOf(reader, text), impl.DefaultStyle()); got != want || len(text) != size {
			t.Errorf("NarrowFit of a block of %d bytes = %d", len(text), got)
		}
	}
}

func TestPromiseOfNarrowFitOfRandomTexts(t *testing.T) {
	r := rand.New(rand.NewSource(91))
	reader := newLexReader()
	styles := everyStyle()
	fine, wide, seen := 0, 0, map[int]bool{}
	for range oftenOrShort(1500, 40) {
		p := readTextOf(reader, shortOrLongText(r))
		fit := checkFit(t, p, styles[r.Intn(512)])
		if fit > 0 {
			fine++
		}
		if fit > 100 {
			wide++
		}
		seen[fit] = true
	}
	if fine < oftenOrShort(700, 10) || wide < oftenOrShort(50, 1) || len(seen) < oftenOrShort(100, 10) {
		t.Errorf("%d texts are formatted, %d of them fit in more than 100; %d numbers are seen", fine, wide, len(seen))
	}
	for range oftenOrShort(60, 4) {
		s, text := styles[r.Intn(512)], shortOrLongText(r)
		if _, code, _ := impl.Format(text, 200, s); code == 0 {
			checkFitPromise(t, text, s)
		}
	}
}

// shortOrLongText is the text of a random tree, a random text that may fail, or
// long words in blocks.
func shortOrLongText(r *rand.Rand) string {
	switch r.Intn(6) {
	case 0, 1:
		return randomTreeText(r, r.Intn(1+r.Intn(60)))
	case 2:
		return longWords(r, 0)
	}
	return expectedPlainTree(randomTree(r, nil, 0, r.Intn(1+r.Intn(120))))
}

func longWords(r *rand.Rand, depth int) string {
	words := []string{}
	for range 1 + r.Intn(5) {
		if depth < 3 && r.Intn(4) == 0 {
			words = append(words, longWords(r, depth+1))
		}
		words = append(words, strings.Repeat("x", 1+r.Intn(40)))
	}
	kind := r.Intn(2)
	return "(["[kind:kind+1] + strings.Join(words, " ") + ")]"[kind:kind+1]
}

// checkPrefixes feeds the tokens of a text to the expected engine, and holds
// FormatPrefix of each number of them against what is written by then.
func checkPrefixes(t *testing.T, p readText, width int, s impl.Style) {
	t.Helper()
	layout, _, _ := expectedForm(p, width, s)
	got, _, _ := impl.Format(p.text, width, s)
	e, written := impl.Engine{Width: width, Marks: marksOf(1)}, ""
	list := expectedTokens(s, p.list)
	for k := 0; ; k++ {
		early, ok := impl.FormatPrefix(p.text, width, s, k)
		if !ok || early != written {
			t.Fatalf("FormatPrefix(%q, %d, %v, %d) = %q, %v, want %q", textShown(p.text), width, s, k, textShown(early), ok, textShown(written))
		}
		if !strings.HasPrefix(layout, early) || !strings.HasPrefix(got, early) {
			t.Fatalf("FormatPrefix(%q, %d, %v, %d) = %q is no beginning of %q", textShown(p.text), width, s, k, textShown(early), textShown(got))
		}
		if k == len(list) {
			break
		}
		var text string
		e, text, _ = expectedFeed(e, list[k])
		written += text
	}
	for _, k := range []int{len(list) + 1, len(list) + 2, 400, 401, 1 << 32, math.MaxInt - 1, math.MaxInt} {
		if early, ok := impl.FormatPrefix(p.text, width, s, k); k > len(list) && (!ok || early != written) {
			t.Fatalf("FormatPrefix(%q, %d, %v, %d) = %q, %v, want %q", textShown(p.text), width, s, k, textShown(early), ok, textShown(written))
		}
	}
	for _, k := range []int{-1, -2, -400, -1 << 32, math.MinInt + 1, math.MinInt} {
		if early, ok := impl.FormatPrefix(p.text, width, s, k); ok || early != "" {
			t.Fatalf("FormatPrefix(%q, %d, %v, %d) = %q, %v", textShown(p.text), width, s, k, textShown(early), ok)
		}
	}
}

func TestFormatPrefixByHand(t *testing.T) {
	for _, c := range []struct {
		width int
		text  string
		want  []string // behind 0, 1, 2 .. tokens
	}{
		{6, "", []string{"", ""}},
		{6, "a", []string{"", "a", "a"}},
		{6, "'a", []string{"", "'", "'a", "'a"}},
		{6, "a b", []string{"", "a", "a\n", "a\nb"}},
		{6, "()", []string{"", "", "", "", ""}},
		{6, "() a", []string{"", "", "", "", "", "()\n", "()\na", "()\na"}},
		{6, "(aa bb cc)", []string{"", "", "", "", "", "", "(aa bb\n", "(aa bb\n  cc", "(aa bb\n  cc)", "(aa bb\n  cc)"}},
		{60, "(aa bb cc)", []string{"", "", "", "", "", "", "", "", "", ""}},
		// The bracket has room in a width of 1; what comes behind it is too much.
		{1, "[a b]", []string{"", "", "", "[a", "[a\n", "[a\n b", "[a\n b]", "[a\n b]"}},
		{60, "(a ;n\n b)", []string{"", "", "", "", "", "", "(a ;n\n", "(a ;n\n  b", "(a ;n\n  b)"}},
	} {
		s := impl.DefaultStyle()
		for k, want := range c.want {
			if got, ok := impl.FormatPrefix(c.text, c.width, s, k); !ok || got != want {
				t.Errorf("FormatPrefix(%q, %d, %d) = %q, %v, want %q", c.text, c.width, k, got, ok, want)
			}
		}
		checkPrefixes(t, readTextOf(newLexReader(), c.text), c.width, s)
	}
}

func TestFormatPrefixOfFaultyTexts(t *testing.T) {
	for text := range faultyTexts() {
		for _, width := range []int{1, 40, 200} {
			checkNoForm(t, text, width, impl.DefaultStyle())
			checkNoForm(t, text, width, impl.Style{Gap: 1})
		}
	}
	for _, width := range wrongWidths() {
		checkNoForm(t, "(a b)", width, impl.DefaultStyle())
		checkNoForm(t, "", width, impl.DefaultStyle())
	}
	for _, s := range wrongStyles() {
		checkNoForm(t, "(a b)", 40, s)
		checkNoForm(t, "", 40, s)
	}
}

// What was not fed is looked at all the same: Format of the whole has to be.
func TestFormatPrefixAsksForTheWholeText(t *testing.T) {
	for _, text := range []string{"(a b) (", "(a b) {c}", "(a b) \"", "(a b) " + strings.Repeat("()", 97), "(a b) " + strings.Repeat("(", 13) + strings.Repeat(")", 13)} {
		for k := range 7 {
			if got, ok := impl.FormatPrefix(text, 40, impl.DefaultStyle(), k); ok || got != "" {
				t.Errorf("FormatPrefix(%q, 40, %d) = %q, %v", textShown(text), k, got, ok)
			}
		}
	}
}

func TestFormatPrefixOfRandomTexts(t *testing.T) {
	r := rand.New(rand.NewSource(92))
	reader := newLexReader()
	styles := everyStyle()
	for _, text := range []string{"(f 'a \"s\" (g b c) [1 2 ;n\n 3 4]) {k v {} ''[x y]} z", strings.Repeat("()", 67), "[" + strings.Repeat("a ", 196) + ";n\n;m\n]"} {
		for _, width := range []int{1, 7, 30, 200} {
			checkPrefixes(t, readTextOf(reader, text), width, impl.DefaultStyle())
			checkPrefixes(t, readTextOf(reader, text), width, impl.Style{Round: 1, Curly: 2, Gap: 1})
		}
	}
	done := 0
	for range oftenOrShort(300, 10) {
		p := readTextOf(reader, shortOrLongText(r))
		width, s := []int{1 + r.Intn(12), 1 + r.Intn(60), 1 + r.Intn(200)}[r.Intn(3)], styles[r.Intn(512)]
		if _, name, _ := expectedForm(p, width, s); name == "fine" {
			checkPrefixes(t, p, width, s)
			done++
		}
	}
	if done < oftenOrShort(150, 3) {
		t.Errorf("only %d texts are formatted", done)
	}
}
