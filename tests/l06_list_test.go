package tests

import (
	"math"
	"slices"
	"strings"
	"testing"

	"loop.example/g00829/impl"
)

func lexemesOf(t *testing.T, text string) []impl.Lexeme {
	t.Helper()
	list, bad := impl.LexText(text)
	if bad != -1 {
		t.Fatalf("LexText(%q) fails at %d", text, bad)
	}
	return list
}

func checkPlainLex(t *testing.T, list []impl.Lexeme, want string) {
	t.Helper()
	if got := impl.PlainLex(list); got != want {
		t.Errorf("PlainLex(%q) = %q, want %q", textShown(lexesShown(list, -1)), textShown(got), textShown(want))
	}
}

// What stands behind a lexeme of each Kind (in rows) and ahead of one (in
// columns): atom, string, note, open, close, quote.
func TestPlainLexOfEachTwo(t *testing.T) {
	texts := []string{"a", `"s"`, ";n", "(", ")", "'"}
	between := [6][6]string{
		{" ", " ", " ", " ", "", " "},
		{" ", " ", " ", " ", "", " "},
		{"\n", "\n", "\n", "\n", "\n", "\n"},
		{"", "", "", "", "", ""},
		{" ", " ", " ", " ", "", " "},
		{"", "", "", "", "", ""},
	}
	for ahead, row := range between {
		for behind, parts := range row {
			one := impl.Lexeme{Kind: ahead, Text: texts[ahead], At: 7}
			two := impl.Lexeme{Kind: behind, Text: texts[behind], At: -3}
			want := texts[ahead] + parts + texts[behind]
			checkPlainLex(t, []impl.Lexeme{one, two}, want)
			list, bad := impl.LexText(want)
			if bad != -1 || len(list) != 2 || !sameButAt(list[0], one) || !sameButAt(list[1], two) {
				t.Errorf("%q has other lexemes: %q", want, lexesShown(list, bad))
			}
			for last := range row {
				three := impl.Lexeme{Kind: last, Text: texts[last]}
				checkPlainLex(t, []impl.Lexeme{one, two, three}, want+between[behind][last]+texts[last])
			}
		}
	}
}

func TestPlainLexByHand(t *testing.T) {
	for text, want := range map[string]string{
		"":                          "",
		" ,\n":                      "",
		"a":                         "a",
		" a ":                       "a",
		"a,b":                       "a b",
		"(a \"b c\" ;n \n'd)":       "(a \"b c\" ;n\n'd)",
		"( )":                       "()",
		"( ' ( a ) )":               "('(a))",
		"''' a":                     "'''a",
		"' )":                       "')",
		"(a)(b)":                    "(a) (b)",
		"a(b)c":                     "a (b) c",
		"[1,2,{a 1}]":               "[1 2 {a 1}]",
		"\"a\"\"b\"c":               "\"a\" \"b\" c",
		";n":                        ";n",
		";n \n":                     ";n",
		";n\n\n;m\n":                ";n\n;m",
		";n\n)":                     ";n\n)",
		"(;n\n)":                    "(;n\n)",
		"';n\na":                    "';n\na",
		"a;n\n(b;m\n)":              "a ;n\n(b ;m\n)",
		"\"s\"'a":                   "\"s\" 'a",
		")'a":                       ") 'a",
		"a'b 'c":                    "a'b 'c",
		"((a) (b ;n, ,\n))\r\n;end": "((a) (b ;n\n)) ;end",
	} {
		checkPlainLex(t, lexemesOf(t, text), want)
	}
}

// No chapter refuses a list: what no text has is told the same way.
func TestPlainLexOfListsThatNoTextHas(t *testing.T) {
	checkPlainLex(t, nil, "")
	checkPlainLex(t, []impl.Lexeme{}, "")
	checkPlainLex(t, []impl.Lexeme{{}}, "")
	checkPlainLex(t, []impl.Lexeme{{}, {}, {}}, "  ")
	checkPlainLex(t, []impl.Lexeme{{Kind: 2}, {Kind: 2}}, "\n")
	checkPlainLex(t, []impl.Lexeme{{Kind: 3}, {Kind: 5}, {Kind: 4}}, "")
	checkPlainLex(t, []impl.Lexeme{{Text: "a b"}, {Text: "\x01\xff"}}, "a b \x01\xff")
	checkPlainLex(t, []impl.Lexeme{{Text: "("}, {Text: ")"}}, "( )")
	checkPlainLex(t, []impl.Lexeme{{Text: ";n"}, {Text: ")"}}, ";n )")
	for _, kind := range []int{math.MinInt, -256, -1, 6, 7, 256, 258, 1 << 32, 1<<32 + 2, math.MaxInt} {
		none := impl.Lexeme{Kind: kind, Text: "?"}
		checkPlainLex(t, []impl.Lexeme{none, none}, "? ?")
		checkPlainLex(t, []impl.Lexeme{none, {Kind: 4, Text: ")"}, none}, "?) ?")
		checkPlainLex(t, []impl.Lexeme{{Kind: 3, Text: "("}, none, {Kind: 2, Text: ";"}, none}, "(? ;\n?")
	}
	long := slices.Repeat([]impl.Lexeme{{Text: strings.Repeat("x", 41)}}, 201)
	checkPlainLex(t, long, strings.Repeat(strings.Repeat("x", 41)+" ", 200)+strings.Repeat("x", 41))
}

func TestSameLexes(t *testing.T) {
	base := lexemesOf(t, "(a \"b c\" ;n \n'd)")
	changed := func(k int, change func(*impl.Lexeme)) []impl.Lexeme {
		list := slices.Clone(base)
		change(&list[k])
		return list
	}
	check := func(name string, a []impl.Lexeme, b []impl.Lexeme, want bool) {
		t.Helper()
		if impl.SameLexes(a, b) != want || impl.SameLexes(b, a) != want {
			t.Errorf("%s: SameLexes is not %v both ways", name, want)
		}
	}
	check("itself", base, base, true)
	check("another text", base, lexemesOf(t, "( a,\"b c\";n\n'\nd )"), true)
	check("none", nil, nil, true)
	check("none and nil", nil, []impl.Lexeme{}, true)
	check("one and none", nil, base[:1], false)
	check("an empty one and none", nil, make([]impl.Lexeme, 1), false)
	check("a beginning", base, base[:len(base)-1], false)
	check("an end", base, base[1:], false)
	check("one more", base, append(slices.Clone(base), impl.Lexeme{}), false)
	for k := range base {
		check("another At", base, changed(k, func(l *impl.Lexeme) { l.At += 5 }), true)
		check("an At below 0", base, changed(k, func(l *impl.Lexeme) { l.At = math.MinInt }), true)
		check("another Kind", base, changed(k, func(l *impl.Lexeme) { l.Kind++ }), false)
		check("a Kind that is none", base, changed(k, func(l *impl.Lexeme) { l.Kind += 256 }), false)
		check("another Text", base, changed(k, func(l *impl.Lexeme) { l.Text = "x" }), false)
		check("a longer Text", base, changed(k, func(l *impl.Lexeme) { l.Text += "x" }), false)
		check("no Text", base, changed(k, func(l *impl.Lexeme) { l.Text = "" }), false)
	}
	odd := []impl.Lexeme{{Kind: -9, Text: "\xff", At: 1}, {Kind: math.MaxInt, At: -1}}
	check("lists that no text has", odd, []impl.Lexeme{{Kind: -9, Text: "\xff"}, {Kind: math.MaxInt}}, true)
	check("other order", odd, []impl.Lexeme{odd[1], odd[0]}, false)
	long := slices.Repeat([]impl.Lexeme{{Text: "a"}}, 1000)
	check("long lists", long, slices.Clone(long), true)
	check("long lists, one longer", long, long[:999], false)
}

func TestLexAtEachPlace(t *testing.T) {
	for _, text := range []string{"", " ", "a", " a ", "(a \"b c\" ;n \n'd)", "a,,b", ";note \t\n;", "''([])", "  \"\\\"\" "} {
		list := lexemesOf(t, text)
		want := slices.Repeat([]int{-1}, len(text))
		for k, one := range list {
			for i := range len(one.Text) {
				want[one.At+i] = k
			}
		}
		for at := -3; at < len(text)+3; at++ {
			expected := -1
			if at >= 0 && at < len(text) {
				expected = want[at]
			}
			if got := impl.LexAt(list, at); got != expected {
				t.Errorf("LexAt of %q at %d = %d, want %d", text, at, got, expected)
			}
		}
		for _, at := range []int{math.MinInt, math.MinInt + 1, -2000, 2000, math.MaxInt - 1, math.MaxInt} {
			if got := impl.LexAt(list, at); got != -1 {
				t.Errorf("LexAt of %q at %d = %d", text, at, got)
			}
		}
	}
}

func TestLexAtByHand(t *testing.T) {
	list := lexemesOf(t, "(a \"b c\" ;n \n'd)")
	for at, want := range map[int]int{-1: -1, 0: 0, 1: 1, 2: -1, 3: 2, 4: 2, 7: 2, 8: -1, 9: 3, 10: 3, 11: -1, 12: -1, 13: 4, 14: 5, 15: 6, 16: -1} {
		if got := impl.LexAt(list, at); got != want {
			t.Errorf("LexAt at %d = %d, want %d", at, got, want)
		}
	}
}

func TestLexAtOfListsThatNoTextHas(t *testing.T) {
	list := []impl.Lexeme{
		{Text: "", At: 5},
		{Text: "abc", At: 4},
		{Text: "abcdef", At: 2},
		{Text: "abc", At: 4},
		{Text: "ab", At: -6},
		{Text: "abc", At: math.MaxInt - 1},
		{Text: "ab", At: math.MinInt},
		{Kind: 99, Text: "x", At: 0},
	}
	for at, want := range map[int]int{
		0: 7, 1: -1, 2: 2, 3: 2, 4: 1, 5: 1, 6: 1, 7: 2, 8: -1, -1: -1,
		-7: -1, -6: 4, -5: 4, -4: -1,
		math.MaxInt - 2: -1, math.MaxInt - 1: 5, math.MaxInt: 5,
		math.MinInt: 6, math.MinInt + 1: 6, math.MinInt + 2: -1,
	} {
		if got := impl.LexAt(list, at); got != want {
			t.Errorf("LexAt at %d = %d, want %d", at, got, want)
		}
	}
	for _, at := range edgeNumbers() {
		if got := impl.LexAt(nil, at); got != -1 {
			t.Errorf("LexAt of none at %d = %d", at, got)
		}
		if got := impl.LexAt([]impl.Lexeme{{At: at}}, at); got != -1 {
			t.Errorf("LexAt of a lexeme without bytes at %d = %d", at, got)
		}
	}
	long := make([]impl.Lexeme, 500)
	long[499] = impl.Lexeme{Text: "a", At: 3}
	if got := impl.LexAt(long, 3); got != 499 {
		t.Errorf("LexAt of a long list = %d", got)
	}
}

func checkCounts(t *testing.T, list []impl.Lexeme, want ...int) {
	t.Helper()
	if got := impl.CountKinds(list); !slices.Equal(got, want) {
		t.Errorf("CountKinds(%q) = %v, want %v", textShown(lexesShown(list, -1)), got, want)
	}
}

func TestCountKinds(t *testing.T) {
	checkCounts(t, nil, 0, 0, 0, 0, 0, 0)
	checkCounts(t, []impl.Lexeme{}, 0, 0, 0, 0, 0, 0)
	checkCounts(t, lexemesOf(t, "(a \"b c\" ;n \n'd)"), 2, 1, 1, 1, 1, 1)
	checkCounts(t, lexemesOf(t, "'''([{a b c d \"\""), 4, 1, 0, 3, 0, 3)
	checkCounts(t, lexemesOf(t, ";a\n;b\n)]"), 0, 0, 2, 0, 2, 0)
	for kind := range 6 {
		want := make([]int, 6)
		want[kind] = 1
		checkCounts(t, []impl.Lexeme{{Kind: kind}}, want...)
		want[kind] = 300
		checkCounts(t, slices.Repeat([]impl.Lexeme{{Kind: kind, Text: "?", At: -1}}, 300), want...)
	}
	for _, kind := range []int{math.MinInt, -257, -256, -2, -1, 6, 7, 255, 256, 257, 1 << 32, math.MaxInt} {
		checkCounts(t, []impl.Lexeme{{Kind: kind}}, 0, 0, 0, 0, 0, 0)
		checkCounts(t, []impl.Lexeme{{Kind: 5}, {Kind: kind}, {Kind: 0}, {Kind: kind}}, 1, 0, 0, 0, 0, 1)
	}
}

func TestIsWhite(t *testing.T) {
	white := []int{9, 10, 13, 32, 44}
	numbers := edgeNumbers()
	for b := -600; b <= 1200; b++ {
		numbers = append(numbers, b)
	}
	for _, b := range white {
		numbers = append(numbers, b+1<<16, b+1<<32, b-1<<32, b-1<<40, math.MinInt+b)
	}
	for _, b := range numbers {
		if got := impl.IsWhite(b); got != slices.Contains(white, b) {
			t.Errorf("IsWhite(%d) = %v", b, got)
		}
	}
}

// roomyLexemes is a copy of list that an append would write behind; spare is
// what stands there.
func roomyLexemes(list []impl.Lexeme) (again []impl.Lexeme, spare []impl.Lexeme) {
	room := append(slices.Clone(list), slices.Repeat([]impl.Lexeme{{Kind: 77, Text: "spare"}}, 9)...)
	return room[:len(list)], room[len(list):]
}

func TestLexArgumentsAreNotWrittenInto(t *testing.T) {
	lists := [][]impl.Lexeme{nil, lexemesOf(t, "a"), lexemesOf(t, "(a \"b c\" ;n \n'd)"), {{Kind: -1}, {Kind: 9, Text: "\xff", At: -4}}}
	for _, want := range lists {
		list, spare := roomyLexemes(want)
		other, otherSpare := roomyLexemes(want)
		impl.PlainLex(list)
		impl.SameLexes(list, other)
		impl.LexAt(list, 1)
		impl.CountKinds(list)
		if !slices.Equal(list, want) || !slices.Equal(other, want) {
			t.Errorf("an argument is written into: %v, %v, was %v", list, other, want)
		}
		for k := range spare {
			if spare[k] != (impl.Lexeme{Kind: 77, Text: "spare"}) || otherSpare[k] != spare[k] {
				t.Errorf("behind an argument is written: %v, %v", spare, otherSpare)
			}
		}
	}
}

// What is written into one answer, or behind it, shows in no other.
func TestLexAnswersAreNewMemory(t *testing.T) {
	const text = "(a \"b c\" ;n \n'd)"
	one, _ := impl.LexText(text)
	two, _ := impl.LexText(text)
	want := slices.Clone(two)
	counts, plain := impl.CountKinds(two), impl.PlainLex(two)
	for k := range one {
		one[k] = impl.Lexeme{Kind: 55, Text: "other", At: 55}
	}
	_ = append(one, impl.Lexeme{Kind: 55})
	three, _ := impl.LexText(text)
	if !slices.Equal(two, want) || !slices.Equal(three, want) {
		t.Errorf("two answers of LexText share memory: %v, %v", two, three)
	}
	countsAgain := impl.CountKinds(two)
	for k := range two {
		two[k] = impl.Lexeme{Kind: 55, Text: "other", At: 55}
	}
	for k := range countsAgain {
		countsAgain[k] = 55
	}
	_ = append(countsAgain, 55)
	if !slices.Equal(counts, []int{2, 1, 1, 1, 1, 1}) || plain != "(a \"b c\" ;n\n'd)" {
		t.Errorf("an answer changes with another or with its argument: %v, %q", counts, plain)
	}
	checkCounts(t, three, 2, 1, 1, 1, 1, 1)
}

// Nothing is kept: a text that fails leaves the next one as it was.
func TestLexTextsInAnyOrder(t *testing.T) {
	texts := []string{"", "a b", "\"x", "a\x01", strings.Repeat("(", 201), "(a \"b c\" ;n \n'd)", strings.Repeat(" ", 2001), ";n"}
	want := []string{}
	for _, text := range texts {
		want = append(want, lexesShown(impl.LexText(text)))
	}
	for i := range texts {
		for k := range texts {
			first, second := lexesShown(impl.LexText(texts[i])), lexesShown(impl.LexText(texts[k]))
			if first != want[i] || second != want[k] {
				t.Errorf("LexText of %q and then of %q: %q, %q", textShown(texts[i]), textShown(texts[k]), textShown(first), textShown(second))
			}
		}
	}
}
