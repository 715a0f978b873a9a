package tests

import (
	"fmt"
	"slices"
	"strings"
	"testing"

	"loop.example/g00829/impl"
)

// fieldsOf has a pointer to each field, and the greatest number that it may be.
func fieldsOf(s *impl.Style) ([]*int, []int) {
	return []*int{&s.Round, &s.Square, &s.Curly, &s.Head, &s.Gap}, []int{3, 3, 3, 3, 1}
}

// wrongStyles has styles with one or more numbers that may not be.
func wrongStyles() []impl.Style {
	styles := []impl.Style{{Round: 4, Square: 4, Curly: 4, Head: 4, Gap: 2}, {Round: -1, Square: -1, Curly: -1, Head: -1, Gap: -1}}
	for _, start := range []impl.Style{{}, {Round: 2, Square: 1, Curly: 1, Head: 1}, {Round: 3, Square: 3, Curly: 3, Head: 3, Gap: 1}} {
		for k := range 5 {
			for _, number := range append(edgeNumbers(), 1<<32+1, -1<<32) {
				s := start
				fields, most := fieldsOf(&s)
				*fields[k] = number
				if number < 0 || number > most[k] {
					styles = append(styles, s)
				}
			}
		}
	}
	return styles
}

// styleTexts has the text of each style.
func styleTexts() map[string]impl.Style {
	texts := map[string]impl.Style{}
	for _, s := range everyStyle() {
		texts[fmt.Sprintf("%d %d %d %d %d", s.Round, s.Square, s.Curly, s.Head, s.Gap)] = s
	}
	return texts
}

func TestStyleOkInAllRanges(t *testing.T) {
	count, styles := 0, everyStyle()
	for n := range 7 * 7 * 7 * 7 * 7 {
		s := impl.Style{Round: n%7 - 1, Square: n/7%7 - 1, Curly: n/49%7 - 1, Head: n/343%7 - 1, Gap: n/2401 - 1}
		want := slices.Contains(styles, s)
		if impl.StyleOk(s) != want {
			t.Errorf("StyleOk(%v) is not %v", s, want)
		}
		if want {
			count++
		}
	}
	if count != 512 {
		t.Errorf("there are %d styles", count)
	}
	for _, s := range wrongStyles() {
		if impl.StyleOk(s) {
			t.Errorf("StyleOk(%v) is true", s)
		}
	}
}

func TestStyleOkAtTheEnds(t *testing.T) {
	for k := range 5 {
		for number := -2; number <= 6; number++ {
			s := impl.DefaultStyle()
			fields, most := fieldsOf(&s)
			*fields[k] = number
			if want := number >= 0 && number <= most[k]; impl.StyleOk(s) != want {
				t.Errorf("StyleOk(%v) is not %v", s, want)
			}
		}
	}
}

func TestDefaultStyle(t *testing.T) {
	if s := impl.DefaultStyle(); s != (impl.Style{Round: 2, Square: 1, Curly: 1, Head: 1, Gap: 0}) || !impl.StyleOk(s) {
		t.Errorf("DefaultStyle() = %v", s)
	}
}

func TestCountBlocksAndHasNoteByHand(t *testing.T) {
	for text, want := range map[string]struct {
		blocks int
		note   bool
	}{
		"":                      {0, false},
		"0a":                    {0, false},
		`0"s"`:                  {0, false},
		`0";n"`:                 {0, false},
		"0;n":                   {0, true},
		"0a 0;n":                {0, true},
		"0;n 0a":                {0, true},
		"0' 1a":                 {0, false},
		"0' 1' 2' 3a":           {0, false},
		"0(":                    {1, false},
		"0[":                    {1, false},
		"0{":                    {1, false},
		"0( 0[ 0{":              {3, false},
		"0( 1[ 2{":              {3, false},
		"0' 1(":                 {1, false},
		"0( 1;n":                {1, true},
		"0[ 1a 1;n":             {1, true},
		"0{ 1k 1;n 1v":          {1, true},
		"0( 1( 2( 3( 4;n":       {4, true},
		"0' 1[ 2;n 0a":          {1, true},
		"0( 1a 1[ 2b 1' 2c 0;x": {2, true},
		"0( 1a 1[ 2b 1' 2c 0x":  {2, false},
		"0{ 1( 2a 1[ 2b 0'":     {-1, false},
		"1a":                    {-1, false},
		"0;n 0'":                {-1, false},
		"0( 1;n 0' 1;n":         {-1, false},
		"0{ 1;n 1a":             {-1, false},
		"0;n 1a":                {-1, false},
		"0( 2;n":                {-1, false},
		"0( 1( 2( 0;":           {3, true},
	} {
		list := nodes(t, text)
		if got := impl.CountBlocks(list); got != want.blocks {
			t.Errorf("CountBlocks(%q) = %d, want %d", text, got, want.blocks)
		}
		if got := impl.HasNote(list); got != want.note {
			t.Errorf("HasNote(%q) is not %v", text, want.note)
		}
	}
}

func TestCountBlocksAndHasNoteAtTheLimits(t *testing.T) {
	for name, list := range notTrees(t) {
		if got := impl.CountBlocks(list); got != -1 {
			t.Errorf("%s: CountBlocks = %d", name, got)
		}
		for _, more := range [][]impl.Node{list, append(nodes(t, "0;n"), list...)} {
			if impl.HasNote(more) != impl.TreeOk(more) {
				t.Errorf("%s: HasNote(%q) is not %v", name, shownNodes(more), impl.TreeOk(more))
			}
		}
	}
	// More blocks, and deeper ones, than a stream may have.
	for _, one := range []struct {
		list []impl.Node
		want int
	}{
		{nil, 0}, {[]impl.Node{}, 0}, {chain(3, 13), 13}, {chain(4, 14), -1}, {chain(6, 12), -1},
		{slices.Repeat(nodes(t, "0("), 200), 200}, {slices.Repeat(nodes(t, "0["), 201), -1}, {slices.Repeat(nodes(t, "0a"), 200), 0},
		{slices.Repeat(nodes(t, "0;n"), 200), 0}, {slices.Repeat(nodes(t, "0;n"), 201), -1},
	} {
		if got := impl.CountBlocks(one.list); got != one.want {
			t.Errorf("CountBlocks(%q) = %d, want %d", shownNodes(one.list), got, one.want)
		}
		isNote := len(one.list) == 200 && one.list[0].Kind == 2
		if got := impl.HasNote(one.list); got != isNote {
			t.Errorf("HasNote(%q) = %v", shownNodes(one.list), got)
		}
	}
	late := append(slices.Repeat(nodes(t, "0a"), 199), nodes(t, "0;n")...)
	if !impl.HasNote(late) || impl.HasNote(late[:199]) || impl.HasNote(append(late, late[0])) {
		t.Errorf("HasNote with a note as the last node is wrong")
	}
}

func TestTextOnlyByHand(t *testing.T) {
	for text, want := range map[string]string{
		``:                                    "",
		`"a"`:                                 "a",
		`"a" "b"`:                             "ab",
		`"a" _3 "b" | "c" |-2`:                "abc",
		`_1`:                                  "",
		`|`:                                   "",
		`<0 >`:                                "",
		`<2 "(" "a" _1+2 "b" ")" >`:           "(ab)",
		`[1 "{" "k" _1+1 ""v"" _1 ";n" | "}"`: "",
		`"a" >`:                               "",
		`<1 "a"`:                              "",
		`> "a" <1`:                            "",
		`"_2" ">" "|"`:                        "_2>|",
		`[9 "a" <0 "b" _9-9 > "c" > "d"`:      "abcd",
	} {
		if got := impl.TextOnly(tokens(t, text)); got != want {
			t.Errorf("TextOnly(%s) = %q, want %q", text, got, want)
		}
	}
	if got := impl.TextOnly([]impl.Token{{Text: "a b"}, {Kind: 1, Width: 1}, {Text: `"c  d"`}}); got != `a b"c  d"` {
		t.Errorf("TextOnly with blanks within Texts = %q", got)
	}
	if impl.TextOnly(nil) != "" || impl.TextOnly([]impl.Token{}) != "" {
		t.Errorf("TextOnly of no token is not empty")
	}
}

func TestTextOnlyAtTheLimits(t *testing.T) {
	for name, list := range badLists(t) {
		for _, more := range [][]impl.Token{list, append([]impl.Token{{Text: "a"}}, list...)} {
			if got := impl.TextOnly(more); got != "" {
				t.Errorf("%s: TextOnly = %q", name, textShown(got))
			}
		}
	}
	long := impl.Token{Text: strings.Repeat("x", 40)}
	if got := impl.TextOnly(repeated(long, 400)); got != strings.Repeat("x", 16000) {
		t.Errorf("TextOnly of 400 tokens has %d bytes", len(got))
	}
	if impl.TextOnly(repeated(long, 401)) != "" || impl.TextOnly(nested(12)) != "a" || impl.TextOnly(nested(13)) != "" {
		t.Errorf("TextOnly takes what is no stream, or not what is one")
	}
	for _, list := range randomStreams() {
		want := ""
		for _, k := range list {
			if k.Kind == impl.TokText {
				want += k.Text
			}
		}
		if got := impl.TextOnly(list); got != want {
			t.Errorf("TextOnly(%s) = %q, want %q", tokensShown(list), textShown(got), textShown(want))
		}
	}
}

func TestStylesAreReadAsTheyWereWritten(t *testing.T) {
	texts := styleTexts()
	if len(texts) != 512 {
		t.Fatalf("there are %d texts", len(texts))
	}
	for want, s := range texts {
		if text, ok := impl.StyleText(s); !ok || text != want {
			t.Errorf("StyleText(%v) = %q, %v", s, text, ok)
		}
		checkParseStyle(t, texts, want)
	}
	for _, s := range wrongStyles() {
		if text, ok := impl.StyleText(s); ok || text != "" {
			t.Errorf("StyleText(%v) = %q, %v", s, text, ok)
		}
	}
}

func checkParseStyle(t *testing.T, texts map[string]impl.Style, text string) {
	t.Helper()
	want, wantOk := texts[text]
	if s, ok := impl.ParseStyle(text); s != want || ok != wantOk {
		t.Errorf("ParseStyle(%q) = %v, %v, want %v, %v", textShown(text), s, ok, want, wantOk)
	}
}

func TestParseStyleRefuses(t *testing.T) {
	texts := styleTexts()
	for _, text := range []string{
		"", " ", "2", "2 1", "2 1 1", "2 1 1 1", "2 1 1 1 ", " 2 1 1 1", "2 1 1 1 0 0", "2 1 1 1 0 0 0",
		"+2 1 1 1 0", "-2 1 1 1 0", "2 +1 1 1 0", "2 1 1 1 +0", "2 1 1 1 -0", "-0 1 1 1 0", "2 1 1 1 -1", "-1 1 1 1 0",
		"02 1 1 1 0", "2 01 1 1 0", "2 1 1 1 00", "2 1 1 1 01", "00 0 0 0 0",
		"2  1 1 1 0", "2 1  1 1 0", "2 1 1 1  0", "2  1 1 1", "2 1 1  1", " 2 1 1 1 0", "2 1 1 1 0 ", "\n2 1 1 1 0", "2 1 1 1 0\n",
		"2\t1 1 1 0", "2 1 1 1\n0", "2,1,1,1,0", "2_1_1_1_0", "211 1 1 0", "21110", "2 1 1 110", "2 1 1 1\x000",
		"4 1 1 1 0", "2 4 1 1 0", "2 1 4 1 0", "2 1 1 4 0", "2 1 1 1 2", "2 1 1 1 3", "9 9 9 9 9", "2 1 1 1 9", "10 1 1 1 0", "2 1 1 1 10",
		"a 1 1 1 0", "2 1 1 1 a", "/ 1 1 1 0", ": 1 1 1 0", "2 1 1 1 /", "2 1 1 1 :", "2 1 1 1 \xff", "\u0662 1 1 1 0", "\u0662 1 1 0", "0x2 1 1 1 0", "2. 1 1 1 0", "1e0 1 1 1 0",
		"18446744073709551618 1 1 1 0", "4294967298 1 1 1 0", "258 1 1 1 0", strings.Repeat("2 1 1 1 0", 1000), strings.Repeat("0", 9), strings.Repeat(" ", 9),
	} {
		if _, ok := texts[text]; ok {
			t.Fatalf("%q is a style", text)
		}
		checkParseStyle(t, texts, text)
	}
}

// Every byte of texts that are styles changed into every other one, left out,
// or one more put ahead of it.
func TestParseStyleOfChangedTexts(t *testing.T) {
	texts := styleTexts()
	for _, text := range []string{"0 0 0 0 0", "2 1 1 1 0", "3 3 3 3 1", "1 2 0 3 1"} {
		for i := 0; i <= len(text); i++ {
			for b := range 256 {
				checkParseStyle(t, texts, text[:i]+string([]byte{byte(b)})+text[i:])
				if i < len(text) {
					checkParseStyle(t, texts, text[:i]+string([]byte{byte(b)})+text[i+1:])
				}
			}
			checkParseStyle(t, texts, text[:i])
			checkParseStyle(t, texts, text[i:])
			if i < len(text) {
				checkParseStyle(t, texts, text[:i]+text[i+1:])
			}
		}
	}
}

// Up to six numbers, one of them in several forms, with several things between.
func TestParseStyleOfManyTexts(t *testing.T) {
	texts := styleTexts()
	read := 0
	for _, between := range []string{" ", "  ", "", ",", "\t"} {
		for count := range 7 {
			for _, word := range []string{"0", "1", "2", "3", "4", "9", "-1", "+1", "01", "10", "", "a"} {
				for place := range max(1, count) {
					words := slices.Repeat([]string{"1"}, count)
					if count > 0 {
						words[place] = word
					}
					text := strings.Join(words, between)
					checkParseStyle(t, texts, text)
					if _, ok := impl.ParseStyle(text); ok {
						read++
					}
				}
			}
		}
	}
	if read != 4*4+2 {
		t.Errorf("%d texts are styles", read)
	}
}

func TestStyleArgumentsAreNotWrittenInto(t *testing.T) {
	lists := notTrees(t)
	lists["none"] = nil
	lists["one"] = nodes(t, "0a")
	lists["a tree"] = nodes(t, "0( 1a 1[ 2b 1' 2c 1;n 0;x 0{ 1k 1v")
	lists["too deep for a stream"] = chain(3, 13)
	lists["too many for a stream"] = slices.Repeat(nodes(t, "0("), 200)
	for name, want := range lists {
		list, spare := roomyNodes(want)
		impl.TokensOf(impl.DefaultStyle(), list)
		impl.TokensOf(impl.Style{Round: 3, Square: 2, Curly: 2, Head: 3, Gap: 1}, list)
		impl.TokensOf(impl.Style{Gap: 2}, list)
		impl.CountBlocks(list)
		impl.HasNote(list)
		if !slices.Equal(list, want) {
			t.Errorf("%s: an argument is written into", name)
		}
		for _, n := range spare {
			if n != (impl.Node{Depth: 77, Kind: 77, Text: "spare"}) {
				t.Errorf("%s: behind an argument is written: %v", name, spare)
			}
		}
	}
	for _, text := range []string{``, `"a"`, `<0 "a" _1 "b" > | "c"`, `<0 "a"`, `"a" >`} {
		want := tokens(t, text)
		list, spare := roomy(want)
		impl.TextOnly(list)
		checkUntouched(t, "TextOnly", list, want, spare)
	}
}

// What is written into one answer, or behind it, shows in no other and not in
// its argument.
func TestStyleAnswersAreNewMemory(t *testing.T) {
	for _, text := range []string{"0a", "0' 1a", "0(", "0( 1a", "0a 0b", "0( 1a 1[ 2b 1' 2c 1;n 0;x 0{ 1k 1v"} {
		want := nodes(t, text)
		list := nodes(t, text)
		for _, s := range everyStyle() {
			wantTokens := expectedTokens(s, want)
			first, _ := impl.TokensOf(s, list)
			second, _ := impl.TokensOf(s, list)
			for k := range first {
				first[k] = impl.Token{Kind: 55, Text: "other"}
			}
			_ = append(first, first[0], first[0])
			third, _ := impl.TokensOf(s, list)
			if !slices.Equal(second, wantTokens) || !slices.Equal(third, wantTokens) || !slices.Equal(list, want) {
				t.Fatalf("answers of TokensOf(%v, %q) share memory: %s; %s", s, text, tokensShown(second), tokensShown(third))
			}
		}
		kept, _ := impl.TokensOf(impl.DefaultStyle(), list)
		for k := range list {
			list[k] = impl.Node{Depth: 55}
		}
		if !slices.Equal(kept, expectedTokens(impl.DefaultStyle(), want)) {
			t.Errorf("TokensOf(%q) changes with its argument: %s", text, tokensShown(kept))
		}
	}
}

// Nothing is kept: what is refused leaves the next answer as it was.
func TestStylesInAnyOrder(t *testing.T) {
	texts := []string{"", "0a", "0( 1a 1b 1;n", "0{ 1k 1v 0' 1[", "0'", "0( 2a"}
	styles := []impl.Style{{}, impl.DefaultStyle(), {Round: 3, Square: 3, Curly: 3, Head: 3, Gap: 1}, {Round: 4}}
	answer := func(k int) string {
		list, ok := impl.TokensOf(styles[k%len(styles)], nodes(t, texts[k/len(styles)]))
		return fmt.Sprint(tokensShown(list), ok)
	}
	want := []string{}
	for k := range len(texts) * len(styles) {
		want = append(want, answer(k))
	}
	for i := range want {
		for k := range want {
			if first, second := answer(i), answer(k); first != want[i] || second != want[k] {
				t.Errorf("answers %d and %d change with their order: %q, %q", i, k, first, second)
			}
		}
	}
}
