package tests

import (
	"math"
	"math/rand"
	"slices"
	"strings"
	"testing"

	"loop.example/g00829/impl"
)

// expectedLines goes byte by byte; only a byte 10 ends a line that is empty.
func expectedLines(text string) []string {
	lines, line := []string{}, []byte{}
	for i := range len(text) {
		if text[i] == 10 {
			lines = append(lines, string(line))
			line = nil
			continue
		}
		line = append(line, text[i])
	}
	if len(line) > 0 {
		lines = append(lines, string(line))
	}
	return lines
}

func expectedIndent(line string) int {
	count := 0
	for count < len(line) && line[count] == 32 {
		count++
	}
	return count
}

// widthsAround has each number as it is, one less and one more, and the ends of
// int.
func widthsAround(numbers []int) []int {
	list := []int{math.MinInt, math.MinInt + 1, -200, -2, -1, 0, 1, 200, 201, math.MaxInt - 1, math.MaxInt}
	for _, n := range numbers {
		list = append(list, n-1, n, n+1)
	}
	slices.Sort(list)
	return slices.Compact(list)
}

// checkLines holds every function of a text against what is expected.
func checkLines(t *testing.T, text string) {
	t.Helper()
	widths, indents, trail, widest := []int{}, []int{}, true, 0
	for _, line := range expectedLines(text) {
		widths = append(widths, len(line))
		indents = append(indents, expectedIndent(line))
		trail = trail && (line == "" || line[len(line)-1] != 32)
		widest = max(widest, len(line))
	}
	if got := impl.LineWidths(text); !slices.Equal(got, widths) {
		t.Errorf("LineWidths(%q) = %v, want %v", textShown(text), got, widths)
	}
	if got := impl.IndentsOf(text); !slices.Equal(got, indents) {
		t.Errorf("IndentsOf(%q) = %v, want %v", textShown(text), got, indents)
	}
	if got := impl.TrailOk(text); got != trail {
		t.Errorf("TrailOk(%q) = %v", textShown(text), got)
	}
	if got := impl.WidestLine(text); got != widest {
		t.Errorf("WidestLine(%q) = %d, want %d", textShown(text), got, widest)
	}
	for _, width := range widthsAround(widths) {
		want := []int{}
		for k, size := range widths {
			if size > width {
				want = append(want, k+1)
			}
		}
		if got := impl.LongLines(text, width); !slices.Equal(got, want) {
			t.Errorf("LongLines(%q, %d) = %v, want %v", textShown(text), width, got, want)
		}
	}
}

// checkCountText holds CountText against the bytes of a text, one by one, and
// against numbers that are no byte.
func checkCountText(t *testing.T, text string) {
	t.Helper()
	var counts [256]int
	for i := range len(text) {
		counts[text[i]]++
	}
	for b := -300; b <= 600; b++ {
		want := 0
		if b >= 0 && b < 256 {
			want = counts[b]
		}
		if got := impl.CountText(text, b); got != want {
			t.Errorf("CountText(%q, %d) = %d, want %d", textShown(text), b, got, want)
		}
	}
}

func TestLinesByHand(t *testing.T) {
	for _, c := range []struct {
		text    string
		widths  []int
		indents []int
		trail   bool
		widest  int
	}{
		{"", nil, nil, true, 0},
		// Bytes 10 alone: each ends a line that is empty.
		{"\n", []int{0}, []int{0}, true, 0},
		{"\n\n", []int{0, 0}, []int{0, 0}, true, 0},
		{"\n\n\n", []int{0, 0, 0}, []int{0, 0, 0}, true, 0},
		// The last line, with and without a byte 10 behind it.
		{"a", []int{1}, []int{0}, true, 1},
		{"a\n", []int{1}, []int{0}, true, 1},
		{"abc\nab", []int{3, 2}, []int{0, 0}, true, 3},
		{"abc\nab\n", []int{3, 2}, []int{0, 0}, true, 3},
		{"ab\nabc", []int{2, 3}, []int{0, 0}, true, 3},
		{"ab\n  c\n", []int{2, 3}, []int{0, 2}, true, 3},
		// Empty lines at the beginning, in the middle and at the end.
		{"\na", []int{0, 1}, []int{0, 0}, true, 1},
		{"\n\n a", []int{0, 0, 2}, []int{0, 0, 1}, true, 2},
		{"a\n\nb", []int{1, 0, 1}, []int{0, 0, 0}, true, 1},
		{"a\n\n\n b\n", []int{1, 0, 0, 2}, []int{0, 0, 0, 1}, true, 2},
		{"a\n\n", []int{1, 0}, []int{0, 0}, true, 1},
		{"a\n\n\n", []int{1, 0, 0}, []int{0, 0, 0}, true, 1},
		{"\na\n\nbb\n\n", []int{0, 1, 0, 2, 0}, []int{0, 0, 0, 0, 0}, true, 2},
		// Lines of blanks alone begin and end with them.
		{" ", []int{1}, []int{1}, false, 1},
		{"   ", []int{3}, []int{3}, false, 3},
		{"   \n", []int{3}, []int{3}, false, 3},
		{"\n ", []int{0, 1}, []int{0, 1}, false, 1},
		{" \n", []int{1}, []int{1}, false, 1},
		{" \n  \n\n   ", []int{1, 2, 0, 3}, []int{1, 2, 0, 3}, false, 3},
		{" \n\na", []int{1, 0, 1}, []int{1, 0, 0}, false, 1},
		// A blank at the end of the first line, of one between, and of the last.
		{"a \nb\nc", []int{2, 1, 1}, []int{0, 0, 0}, false, 2},
		{"a\nb \nc", []int{1, 2, 1}, []int{0, 0, 0}, false, 2},
		{"a\nb\nc ", []int{1, 1, 2}, []int{0, 0, 0}, false, 2},
		{"a\nb\nc \n", []int{1, 1, 2}, []int{0, 0, 0}, false, 2},
		{" a\n  b\n   c d", []int{2, 3, 6}, []int{1, 2, 3}, true, 6},
		{"  a  ", []int{5}, []int{2}, false, 5},
		// Other white bytes are no blanks, and no ends of lines.
		{"\t", []int{1}, []int{0}, true, 1},
		{"\ta\t", []int{3}, []int{0}, true, 3},
		{" \ta", []int{3}, []int{1}, true, 3},
		{"\t a", []int{3}, []int{0}, true, 3},
		{"a\t ", []int{3}, []int{0}, false, 3},
		{"a \t", []int{3}, []int{0}, true, 3},
		{"\r", []int{1}, []int{0}, true, 1},
		{"\r a\rb", []int{5}, []int{0}, true, 5},
		{" a\r\n b \r\n", []int{3, 4}, []int{1, 1}, true, 4},
		{"\r\n\r\n", []int{1, 1}, []int{0, 0}, true, 1},
		{"\n\r", []int{0, 1}, []int{0, 0}, true, 1},
		{"a \r \n", []int{4}, []int{0}, false, 4},
		{"\v\n\f\n\x00\n,\n", []int{1, 1, 1, 1}, []int{0, 0, 0, 0}, true, 1},
		{" \v\f\x00,", []int{5}, []int{1}, true, 5},
		// Bytes above 127 count one by one; none of them is a blank or ends a line.
		{"\u00e9\n \u00e9", []int{2, 3}, []int{0, 1}, true, 3},
		{"\u00a0a\u00a0", []int{5}, []int{0}, true, 5},
		{"\u0085a\u2028b\u2029c\u3000", []int{14}, []int{0}, true, 14},
		{"\x80\n\xff\n \xa0 ", []int{1, 1, 3}, []int{0, 0, 1}, false, 3},
		{"\xc2\n\xa0", []int{1, 1}, []int{0, 0}, true, 1},
		{"\U0001f600", []int{4}, []int{0}, true, 4},
		{" \xe2\x80 ", []int{4}, []int{1}, false, 4},
	} {
		if got := impl.LineWidths(c.text); !slices.Equal(got, c.widths) {
			t.Errorf("LineWidths(%q) = %v, want %v", c.text, got, c.widths)
		}
		if got := impl.IndentsOf(c.text); !slices.Equal(got, c.indents) {
			t.Errorf("IndentsOf(%q) = %v, want %v", c.text, got, c.indents)
		}
		if got := impl.TrailOk(c.text); got != c.trail {
			t.Errorf("TrailOk(%q) = %v", c.text, got)
		}
		if got := impl.WidestLine(c.text); got != c.widest {
			t.Errorf("WidestLine(%q) = %d, want %d", c.text, got, c.widest)
		}
		checkLines(t, c.text)
		checkCountText(t, c.text)
	}
}

func TestLongLinesByHand(t *testing.T) {
	text := "a\n\nbbb\ncc\n\n dd "
	all := []int{1, 2, 3, 4, 5, 6}
	for _, c := range []struct {
		text  string
		width int
		want  []int
	}{
		{text, math.MinInt, all},
		{text, -200, all},
		{text, -1, all},
		{text, 0, []int{1, 3, 4, 6}},
		{text, 1, []int{3, 4, 6}},
		{text, 2, []int{3, 6}},
		{text, 3, []int{6}},
		{text, 4, nil},
		{text, 5, nil},
		{text, 200, nil},
		{text, 201, nil},
		{text, math.MaxInt, nil},
		{"", math.MinInt, nil},
		{"", -1, nil},
		{"", 0, nil},
		{"\n", math.MinInt, []int{1}},
		{"\n", -1, []int{1}},
		{"\n", 0, nil},
		{"\n\n", -1, []int{1, 2}},
		{"a", -1, []int{1}},
		{"a\n", -1, []int{1}},
		{"a\n\n", -1, []int{1, 2}},
		{"a", 0, []int{1}},
		{"a", 1, nil},
		{"\na", 0, []int{2}},
		{"\u00e9", 1, []int{1}},
		{"\u00e9", 2, nil},
		{"   \n", 2, []int{1}},
		{"   \n", 3, nil},
		// A width is not held against MaxWidth.
		{strings.Repeat("x", 201) + "\n" + strings.Repeat("y", 300), 200, []int{1, 2}},
		{strings.Repeat("x", 201) + "\n" + strings.Repeat("y", 300), 201, []int{2}},
		{strings.Repeat("x", 201) + "\n" + strings.Repeat("y", 300), 299, []int{2}},
		{strings.Repeat("x", 201) + "\n" + strings.Repeat("y", 300), 300, nil},
	} {
		if got := impl.LongLines(c.text, c.width); !slices.Equal(got, c.want) {
			t.Errorf("LongLines(%q, %d) = %v, want %v", textShown(c.text), c.width, got, c.want)
		}
	}
}

// All short texts over a byte, a blank, the end of a line and a tab.
func TestLinesOfAllShortTexts(t *testing.T) {
	longest := oftenOrShort(7, 4)
	var grow func(text string)
	grow = func(text string) {
		checkLines(t, text)
		if len(text) == longest || t.Failed() {
			return
		}
		for _, next := range []string{"a", " ", "\n", "\t"} {
			grow(text + next)
		}
	}
	grow("")
}

func TestLinesOfRandomTexts(t *testing.T) {
	r := rand.New(rand.NewSource(10))
	for range oftenOrShort(3000, 100) {
		text := make([]byte, r.Intn(1+r.Intn(120)))
		for i := range text {
			text[i] = byte(r.Intn(256))
			if r.Intn(3) > 0 {
				text[i] = "  \n\n\tab\x80"[r.Intn(8)]
			}
		}
		checkLines(t, string(text))
		checkCountText(t, string(text))
		if t.Failed() {
			return
		}
	}
}

// A byte 10 behind the last line changes nothing, unless it ends an empty one.
func TestLinesWithAByte10Behind(t *testing.T) {
	for _, text := range []string{"a", " ", "a\n b", "\na", "\n\n  x ", "a\n\n\t", "\u00e9"} {
		ended := text + "\n"
		if !slices.Equal(impl.LineWidths(text), impl.LineWidths(ended)) || !slices.Equal(impl.IndentsOf(text), impl.IndentsOf(ended)) || impl.TrailOk(text) != impl.TrailOk(ended) || impl.WidestLine(text) != impl.WidestLine(ended) || !slices.Equal(impl.LongLines(text, 0), impl.LongLines(ended, 0)) {
			t.Errorf("%q and %q do not have the same lines", text, ended)
		}
		want := append(impl.LineWidths(text), 0)
		if got := impl.LineWidths(ended + "\n"); !slices.Equal(got, want) {
			t.Errorf("LineWidths(%q) = %v, want %v", ended+"\n", got, want)
		}
	}
}

func TestLinesOfLongTexts(t *testing.T) {
	const count = 200000
	if got := impl.LineWidths(strings.Repeat("\n", count)); !slices.Equal(got, make([]int, count)) {
		t.Errorf("%d empty lines are %d", count, len(got))
	}
	long := strings.Repeat(" ", count) + "a\n"
	if !slices.Equal(impl.LineWidths(long), []int{count + 1}) || !slices.Equal(impl.IndentsOf(long), []int{count}) || !impl.TrailOk(long) || impl.WidestLine(long) != count+1 || impl.CountText(long, 32) != count {
		t.Errorf("a line of %d blanks is not told right", count)
	}
	if !slices.Equal(impl.LongLines(long, count), []int{1}) || len(impl.LongLines(long, count+1)) != 0 {
		t.Errorf("a line of %d blanks is not told to be long", count)
	}
}

func TestCountTextByHand(t *testing.T) {
	every := []byte{}
	for b := range 256 {
		every = append(every, slices.Repeat([]byte{byte(b)}, 1+b%3)...)
	}
	for b := range 256 {
		if got := impl.CountText(string(every), b); got != 1+b%3 {
			t.Errorf("CountText of the byte %d = %d, want %d", b, got, 1+b%3)
		}
	}
	checkCountText(t, string(every))
	for _, c := range []struct {
		text string
		b    int
		want int
	}{
		{"", 0, 0}, {"", 10, 0}, {"", 255, 0}, {"", -1, 0}, {"", 256, 0},
		{"abc", 'd', 0}, {"aba", 'a', 2}, {"aaaa", 'a', 4}, {"aba", 'b', 1},
		{"a\x00b\x00", 0, 2}, {"ab", 0, 0},
		{"\n\na\n", 10, 3}, {"a\r", 10, 0},
		{"  a ", 32, 3}, {"\t\u00a0\u3000", 32, 0},
		{"\x7fa\x7f", 127, 2}, {"\xff", 127, 0},
		{"\x80", 128, 1}, {"\x80\x80a", 128, 2}, {"\x00", 128, 0}, {"\u2028", 128, 1},
		{"\xff\xff", 255, 2}, {"\x7f", 255, 0}, {"\xfe", 255, 0}, {"\u00ff", 255, 0},
		// The bytes of a rune count, the rune does not.
		{"\u00e9", 0xc3, 1}, {"\u00e9", 0xa9, 1}, {"\u00e9", 0xe9, 0}, {"\xe9", 0xe9, 1}, {"\xff", 0xfffd, 0}, {"\ufffd", 0xfffd, 0}, {"\xff", 0xef, 0}, {"\u2028", 0x2028, 0},
	} {
		if got := impl.CountText(c.text, c.b); got != c.want {
			t.Errorf("CountText(%q, %d) = %d, want %d", c.text, c.b, got, c.want)
		}
	}
}

// No such number is a byte, whatever its last eight bits are.
func TestCountTextOfNoBytes(t *testing.T) {
	every := []byte{}
	for b := range 256 {
		every = append(every, byte(b))
	}
	wrong := []int{math.MinInt, math.MinInt + 1, -1 << 32, -512, -256, -255, -129, -128, -127, -2, -1, 256, 257, 300, 511, 512, 1 << 16, 1 << 32, math.MaxInt - 1, math.MaxInt}
	for b := range 256 {
		wrong = append(wrong, b-256, b+256, b+1<<32, math.MinInt+b, math.MaxInt-b)
	}
	for _, b := range wrong {
		if got := impl.CountText(string(every), b); got != 0 {
			t.Errorf("CountText of %d = %d", b, got)
		}
	}
}
