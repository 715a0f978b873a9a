package tests

import (
	"fmt"
	"math"
	"slices"
	"strings"
	"testing"

	"loop.example/g00829/impl"
)

// wrongWidths has numbers that are no width.
func wrongWidths() []int {
	widths := []int{201, 202, 400, 1 << 31, 1<<32 + 1, 1<<32 + 40}
	for _, number := range edgeNumbers() {
		if number < 1 || number > 200 {
			widths = append(widths, number)
		}
	}
	return widths
}

// faultyTexts has texts that are not formatted in any style, with the name of
// the code and the place.
func faultyTexts() map[string]string {
	return map[string]string{
		`"`:                               "lex 0",
		`a "b`:                            "lex 2",
		"(a\x01)":                         "lex 2",
		"(a) \u00e9":                      "lex 4",
		";n\tm":                           "lex 2",
		"(" + strings.Repeat("x", 41):     "lex 1",
		strings.Repeat(" ", 2001):         "lex 0",
		"(a)" + strings.Repeat(" ", 1998): "lex 0",
		strings.Repeat("a ", 201):         "lex 400",
		strings.Repeat("()", 101):         "lex 200",
		") \x7f":                          "lex 2",
		")":                               "shut 0",
		"(a]":                             "shut 2",
		"a b )":                           "shut 4",
		"(a ')":                           "shut 4",
		"(a) ) {b}":                       "shut 4",
		"(":                               "open 0",
		"(a [b":                           "open 3",
		"(a [b] (c) ;d)":                  "open 0",
		"'":                               "quote 0",
		"(a) ''":                          "quote 5",
		"[a ';n\n b]":                     "quote 4",
		"{a}":                             "odd 2",
		"{k v {k ;n\n}}":                  "odd 11",
		strings.Repeat("(", 13) + "a":     "deep 13",
		strings.Repeat("[ ", 14):          "deep 26",
		strings.Repeat("'", 13) + "a":     "deep 13",
		strings.Repeat("(", 13) + strings.Repeat(")", 13):                      "big -1",
		strings.Repeat("[", 13) + strings.Repeat("]", 13):                      "big -1",
		"a " + strings.Repeat("([", 6) + "{}" + strings.Repeat("])", 6) + " b": "big -1",
		strings.Repeat("()", 80) + "a":                                         "big -1",
		strings.Repeat("[]", 100):                                              "big -1",
	}
}

func TestFormatOfFaultyTexts(t *testing.T) {
	styles := everyStyle()
	reader := newLexReader()
	seen := map[string]int{}
	for text, want := range faultyTexts() {
		p := readTextOf(reader, text)
		for k := range 60 {
			width, s := []int{1, 2, 40, 199, 200}[k%5], styles[(37*k+len(text))%512]
			name := checkForm(t, p, width, s)
			if got := formShown(impl.Format(text, width, s)); got != want {
				t.Errorf("Format(%q, %d, %v) is %q, want %q", textShown(text), width, s, got, want)
			}
			seen[name]++
		}
		if got := impl.NarrowFit(text, styles[len(text)%512]); got != -1 {
			t.Errorf("NarrowFit(%q) = %d", textShown(text), got)
		}
	}
	for _, name := range []string{"lex", "shut", "open", "quote", "odd", "deep", "big"} {
		if seen[name] < 120 {
			t.Errorf("only %d texts are %s", seen[name], name)
		}
	}
}

// What is no width or no style counts ahead of all that is wrong with a text.
func TestFormatInNoWidthOrStyle(t *testing.T) {
	reader := newLexReader()
	texts := []string{"", " \n", "a", "a\n", "(a  b)", strings.Repeat("x", 3000), strings.Repeat("a ", 201)}
	for text := range faultyTexts() {
		texts = append(texts, text)
	}
	wrong := wrongStyles()
	for k, text := range texts {
		p := readTextOf(reader, text)
		for i, width := range wrongWidths() {
			for _, s := range []impl.Style{{}, impl.DefaultStyle(), {Round: 3, Square: 3, Curly: 3, Head: 3, Gap: 1}, wrong[(i*len(texts)+k)%len(wrong)]} {
				if got := checkForm(t, p, width, s); got != "width" {
					t.Errorf("Format(%q, %d, %v) is %s", textShown(text), width, s, got)
				}
			}
		}
		for i := range 40 {
			s := wrong[(41*i+k)%len(wrong)]
			if got := checkForm(t, p, []int{1, 40, 200}[i%3], s); got != "width" {
				t.Errorf("Format(%q) in %v is %s", textShown(text), s, got)
			}
			if got := impl.NarrowFit(text, s); got != -1 {
				t.Errorf("NarrowFit(%q, %v) = %d", textShown(text), s, got)
			}
		}
	}
	for _, s := range wrong {
		if got := formShown(impl.Format("(a)", 40, s)); got != "width -1" || impl.NarrowFit("(a)", s) != -1 {
			t.Errorf("Format of (a) in %v is %q", s, got)
		}
	}
}

func TestFormatAtBothEndsOfTheWidths(t *testing.T) {
	p := readTextOf(newLexReader(), "(a {k v} [b ;n\n '(c d)]) e")
	for width, want := range map[int]string{
		math.MinInt: "width", -1: "width", 0: "width", 1: "fine", 2: "fine", 199: "fine", 200: "fine", 201: "width", 202: "width", math.MaxInt: "width",
	} {
		if got := checkForm(t, p, width, impl.DefaultStyle()); got != want {
			t.Errorf("in %d: %s", width, got)
		}
	}
	for width := 1; width <= 200; width++ {
		checkForm(t, p, width, impl.DefaultStyle())
	}
}

// A block of just 200 bytes stays on its line in the widest width, and one of
// 201 does not; both break in width 1.
func TestFormatOfBlocksAsWideAsCanBe(t *testing.T) {
	atom := strings.Repeat("x", 40)
	words := []string{atom, atom, atom, atom, strings.Repeat("y", 34)}
	fits := "[" + strings.Join(words, " ") + "]"
	if len(fits) != 200 {
		t.Fatalf("%d bytes", len(fits))
	}
	broken := "[" + strings.Join(words, "\n ") + "]\n"
	checkFormShown(t, "2 1 1 1 0", 200, fits, fits+"\n")
	checkFormShown(t, "2 1 1 1 0", 199, fits, broken)
	checkFormShown(t, "2 1 1 1 0", 1, fits, broken)
	wider := strings.Replace(fits, "]", "y]", 1)
	checkFormShown(t, "2 1 1 1 0", 200, wider, strings.Replace(broken, "]", "y]", 1))
	if got := impl.NarrowFit(fits, impl.DefaultStyle()); got != 200 {
		t.Errorf("NarrowFit of a block of 200 bytes = %d", got)
	}
	if got := impl.NarrowFit(wider, impl.DefaultStyle()); got != 1 {
		t.Errorf("NarrowFit of a block of 201 bytes = %d", got)
	}
}

// checkStreamLimit checks a text whose tree gives so many tokens in all styles
// of a Gap: it is formatted, or FormBig.
func checkStreamLimit(t *testing.T, gap int, text string, count int) {
	t.Helper()
	p := readTextOf(newLexReader(), text)
	styles := everyStyle()
	for k := 256 * gap; k < 256*(gap+1); k += 19 {
		want := "fine"
		if count > 400 {
			want = "big"
		}
		if got := len(expectedTokens(styles[k], p.list)); got != count {
			t.Fatalf("%q has %d tokens, not %d", textShown(text), got, count)
		}
		if got := checkForm(t, p, 1+k%200, styles[k]); got != want {
			t.Errorf("%d tokens with Gap %d: %s", count, gap, got)
		}
		if fit := impl.NarrowFit(text, styles[k]); (fit == -1) != (count > 400) {
			t.Errorf("%d tokens with Gap %d: NarrowFit is %d", count, gap, fit)
		}
	}
}

func TestFormatOfMaxTokens(t *testing.T) {
	blocks := func(count int) string { return strings.Repeat("()", count) }
	flat := func(open string, end string) string { return open + strings.Repeat("a ", 196) + end }
	checkStreamLimit(t, 0, blocks(80), 399)
	checkStreamLimit(t, 0, blocks(80)+"a", 401)
	checkStreamLimit(t, 0, blocks(81), 404)
	checkStreamLimit(t, 0, blocks(100), 499)
	checkStreamLimit(t, 1, blocks(67), 400)
	checkStreamLimit(t, 1, blocks(66)+"a 'a", 401)
	checkStreamLimit(t, 1, blocks(67)+"a", 403)
	checkStreamLimit(t, 1, blocks(80), 478)
	checkStreamLimit(t, 0, strings.Repeat("a ", 200), 399)
	checkStreamLimit(t, 1, strings.Repeat("a ", 134), 400)
	checkStreamLimit(t, 1, strings.Repeat("a ", 135), 403)
	for gap := range 2 {
		checkStreamLimit(t, gap, flat("(", ")"), 395)
		checkStreamLimit(t, gap, flat("(", ";n\n;m\n)"), 400)
		checkStreamLimit(t, gap, flat("[", ";n\n;m\n]"), 400)
		checkStreamLimit(t, gap, flat("{", ";n\n;m\n}"), 400)
	}
}

func TestFormatOfMaxDepth(t *testing.T) {
	around := func(open string, leaf string, end string, count int) string {
		return strings.Repeat(open, count) + leaf + strings.Repeat(end, count)
	}
	for text, want := range map[string]string{
		around("(", "", ")", 12):                 "fine",
		around("(", "a", ")", 12):                "fine",
		around("(", "a ;n\n", ")", 12):           "fine",
		around("[", "a b", "]", 12):              "fine",
		around("{k ", "v", "}", 12):              "fine",
		around("(a ", "b", " c)", 12):            "fine",
		around("'", "a", "", 12):                 "fine",
		around("('", "a", ")", 6):                "fine",
		around("('", "[]", ")", 6):               "fine",
		around("'", "[]", "", 12):                "fine",
		around("(", "", ")", 13):                 "big",
		around("[", "", "]", 13):                 "big",
		around("{k ", "{}", "}", 12):             "big",
		around("(a ", "()", " c)", 12):           "big",
		around("(", "a [] b", ")", 12):           "big",
		around("(", "a", ")", 13):                "deep",
		around("'", "a", "", 13):                 "deep",
		around("{k ", "v", "}", 13):              "deep",
		around("(", "", ")", 14):                 "deep",
		"a " + around("(", "", ")", 13) + " {b}": "odd",
		"a " + around("(", "", ")", 13) + " b":   "big",
	} {
		p := readTextOf(newLexReader(), text)
		for k, s := range everyStyle() {
			if k%7 != len(text)%7 {
				continue
			}
			if got := checkForm(t, p, 1+k%40, s); got != want {
				t.Errorf("Format(%q) in %v is %s, not %s", text, s, got, want)
			}
		}
	}
}

func TestFormatOfMaxInput(t *testing.T) {
	reader := newLexReader()
	long := strings.Repeat(strings.Repeat("x", 40)+" ", 48)
	for size := 1990; size <= 2004; size++ {
		want := "fine"
		if size > 2000 {
			want = "lex"
		}
		for _, text := range []string{
			strings.Repeat(" ", size),
			strings.Repeat("\n", size-1) + "a",
			"(a)" + strings.Repeat(",", size-3),
			long + strings.Repeat("y", size-len(long)),
			"(" + long + strings.Repeat("z", size-len(long)-2) + ")",
			long + ";" + strings.Repeat(" ", size-len(long)-1),
		} {
			if len(text) != size {
				t.Fatalf("a text of %d bytes, not of %d", len(text), size)
			}
			p := readTextOf(reader, text)
			for _, width := range []int{1, 100, 200} {
				if got := checkForm(t, p, width, impl.DefaultStyle()); got != want {
					t.Errorf("%d bytes are %s", size, got)
				}
				checkForm(t, p, width, impl.Style{Round: 1, Gap: 1})
			}
		}
	}
}

func TestFormatOfTextsWithoutNodes(t *testing.T) {
	texts := []string{"", " ", "\n", "\t", "\r", ",", "\n\n", " \t\n\r,", strings.Repeat(",\n", 1000), strings.Repeat(" ", 2000)}
	for _, s := range everyStyle() {
		for k, text := range texts {
			width := []int{1, 2, 17, 199, 200}[(k+s.Head+s.Gap)%5]
			checkNoNodes(t, text, width, s)
		}
	}
	for _, text := range texts {
		if got, at := impl.Squeeze(text); got != "" || at != -1 {
			t.Errorf("Squeeze(%q) = %q, %d", textShown(text), textShown(got), at)
		}
	}
	p := readTextOf(newLexReader(), " ,")
	for width := 1; width <= 200; width++ {
		checkForm(t, p, width, impl.DefaultStyle())
	}
}

func checkNoNodes(t *testing.T, text string, width int, s impl.Style) {
	t.Helper()
	if got, code, at := impl.Format(text, width, s); got != "" || code != 0 || at != -1 {
		t.Fatalf("Format(%q, %d, %v) = %q, %d, %d", textShown(text), width, s, textShown(got), code, at)
	}
	if impl.IsFormatted(text, width, s) != (text == "") {
		t.Errorf("IsFormatted(%q, %d, %v) is not %v", textShown(text), width, s, text == "")
	}
	if twice, ok := impl.FormatTwice(text, width, s); !ok || twice != "" {
		t.Errorf("FormatTwice(%q, %d, %v) = %q, %v", textShown(text), width, s, textShown(twice), ok)
	}
	if got := impl.NarrowFit(text, s); got != 1 {
		t.Errorf("NarrowFit(%q, %v) = %d", textShown(text), s, got)
	}
	for k, want := range map[int]bool{math.MinInt: false, -1: false, 0: true, 1: true, 400: true, math.MaxInt: true} {
		if early, ok := impl.FormatPrefix(text, width, s, k); ok != want || early != "" {
			t.Errorf("FormatPrefix(%q, %d, %v, %d) = %q, %v", textShown(text), width, s, k, textShown(early), ok)
		}
	}
}

// Every style, with nodes of all Kinds.
func TestFormatInEveryStyle(t *testing.T) {
	p := readTextOf(newLexReader(), "(f 'a \"s\" (g b c) [1 2 ;n\n 3 4]) {k v {} ''[x y]} z")
	seen := map[string]bool{}
	for k, s := range everyStyle() {
		for _, width := range []int{1, 8, 9 + k%15, 40, 200} {
			if got := checkForm(t, p, width, s); got != "fine" {
				t.Fatalf("Format in %v is %s", s, got)
			}
		}
		text, _, _ := impl.Format(p.text, 12, s)
		seen[text] = true
	}
	if len(seen) < 150 {
		t.Errorf("all styles give %d texts in width 12", len(seen))
	}
}

func TestCodeName(t *testing.T) {
	want := strings.Fields("fine lex shut open quote odd deep width big")
	codes := []int{impl.TreeFine, impl.TreeLex, impl.TreeShut, impl.TreeOpen, impl.TreeQuote, impl.TreeOdd, impl.TreeDeep, impl.FormWidth, impl.FormBig}
	for k, code := range codes {
		if code != k || impl.CodeName(code) != want[k] {
			t.Errorf("CodeName(%d) = %q, want %q", code, impl.CodeName(code), want[k])
		}
	}
	if impl.CodeName(impl.FormOk) != "fine" {
		t.Errorf("CodeName(FormOk) = %q", impl.CodeName(impl.FormOk))
	}
	for _, code := range append(edgeNumbers(), 1<<32+1, -1<<32, 1<<63-8) {
		name := ""
		if code >= 0 && code <= 8 {
			name = want[code]
		}
		if got := impl.CodeName(code); got != name {
			t.Errorf("CodeName(%d) = %q, want %q", code, got, name)
		}
	}
}

// formCalls has a call of each function with each of some texts, widths and
// styles, written with what it answers.
func formCalls() []func() string {
	calls := []func() string{}
	texts := []string{"", "a", "(aa bb cc)", "(a [b ;n\n c] 'd) e", "(", "{a}", strings.Repeat("(", 13) + strings.Repeat(")", 13)}
	for k, text := range texts {
		next := texts[(k+1)%len(texts)]
		calls = append(calls,
			func() string { return fmt.Sprint(impl.Squeeze(text)) },
			func() string { return fmt.Sprint(impl.SameMeaning(text, next), impl.SameMeaning(text, text+" ")) },
			func() string { return fmt.Sprint(impl.NarrowFit(text, impl.DefaultStyle())) },
			func() string { return fmt.Sprint(impl.NarrowFit(text, impl.Style{Round: 1, Gap: 2})) },
		)
		for _, width := range []int{0, 4, 60} {
			for _, s := range []impl.Style{impl.DefaultStyle(), {Round: 1, Square: 2, Gap: 1}} {
				calls = append(calls,
					func() string { return formShown(impl.Format(text, width, s)) },
					func() string { return fmt.Sprint(impl.IsFormatted(text, width, s)) },
					func() string { return fmt.Sprint(impl.FormatTwice(text, width, s)) },
					func() string { return fmt.Sprint(impl.FormatPrefix(text, width, s, 7)) },
				)
			}
		}
	}
	return calls
}

// Nothing is kept: what one call answers leaves every other answer as it was.
func TestFormatInAnyOrder(t *testing.T) {
	calls := formCalls()
	want := []string{}
	for _, call := range calls {
		want = append(want, call())
	}
	for i := range calls {
		for k := range calls {
			if first, second := calls[i](), calls[k](); first != want[i] || second != want[k] {
				t.Fatalf("answers %d and %d change with their order: %q, %q", i, k, first, second)
			}
		}
	}
	if len(slices.Compact(slices.Sorted(slices.Values(want)))) < 15 {
		t.Errorf("the answers are too few: %q", want)
	}
}

// checkSideBySide: side by side with other callers each call answers the same.
func checkSideBySide(t *testing.T, calls []func() string) {
	t.Helper()
	want := []string{}
	for _, call := range calls {
		want = append(want, call())
	}
	t.Run("callers", func(t *testing.T) {
		for caller := range 8 {
			t.Run(fmt.Sprint(caller), func(t *testing.T) {
				t.Parallel()
				for k := range 4 * len(calls) {
					at := (k*(2*caller+1) + caller) % len(calls)
					if got := calls[at](); got != want[at] {
						t.Fatalf("answer %d is %q, want %q", at, textShown(got), textShown(want[at]))
					}
				}
			})
		}
	})
}

func TestFormatSideBySide(t *testing.T) { checkSideBySide(t, formCalls()) }
