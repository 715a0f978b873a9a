package tests

import (
	"fmt"
	"slices"
	"strconv"
	"strings"
	"testing"

	"loop.example/g00829/impl"
)

// deskBooks is what an expected desk looks texts up in.
type deskBooks struct {
	reader lexReader
	sized  map[string]impl.Token
	styles map[string]impl.Style
	widths map[string]int
}

func newDeskBooks() deskBooks {
	books := deskBooks{newLexReader(), sizedTokens(), styleTexts(), map[string]int{}}
	for width := 1; width <= 200; width++ {
		books.widths[strconv.Itoa(width)] = width
	}
	return books
}

// expectedDesk is the document's table, made of what the tests expect of the
// other chapters. Nothing is asked of the program.
type expectedDesk struct {
	deskBooks
	width int
	style impl.Style
	list  []impl.Token
}

func (b deskBooks) newDesk() *expectedDesk {
	return &expectedDesk{deskBooks: b, width: 40, style: impl.Style{Round: 2, Square: 1, Curly: 1, Head: 1}}
}

// tellAll gives what each line tells.
func (d *expectedDesk) tellAll(lines []string) []string {
	told := []string{}
	for _, line := range lines {
		told = append(told, d.tell(line))
	}
	return told
}

func (d *expectedDesk) tell(line string) string {
	if verb, text, blank := strings.Cut(line, " "); blank {
		return d.tellWith(verb, text)
	}
	switch line {
	case "clear":
		d.list = nil
		return "ok"
	case "out", "stream":
		return d.laid()
	case "sizes":
		return orNone(numbersShown(expectedSizes(d.list)))
	case "held":
		return expectedHeld(d.width, d.list)
	}
	return "bad"
}

func (d *expectedDesk) tellWith(verb string, text string) string {
	done := false
	switch verb {
	case "form":
		form, name, place := expectedForm(readTextOf(d.reader, text), d.width, d.style)
		return slashed(form, name, place)
	case "tree":
		list, name, place := expectedParse(d.reader, text)
		return orNone(slashed(nodeLines(list), name, place))
	case "width":
		var width int
		if width, done = d.widths[text]; done {
			d.width = width
		}
	case "style":
		var style impl.Style
		if style, done = d.styles[text]; done {
			d.style = style
		}
	case "token":
		var token impl.Token
		if token, done = expectedToken(d.sized, text); done {
			d.list = append(d.list, token)
		}
	}
	if done {
		return "ok"
	}
	return "bad"
}

func (d *expectedDesk) laid() string {
	stream := expectedOf(d.list)
	if !stream.ok {
		return "bad"
	}
	return orNone(slashed(expectedLayout(d.width, d.list, stream.sizes).text, "fine", -1))
}

// slashed is a text in which a slash stands for each end of a line, or the name
// of a code and a place.
func slashed(text string, name string, place int) string {
	if name != "fine" && name != "" {
		return fmt.Sprint(name, " ", place)
	}
	return strings.Join(strings.Split(text, "\n"), "/")
}

func orNone(told string) string {
	if told == "" {
		return "-"
	}
	return told
}

func nodeLines(list []impl.Node) string {
	lines := []string{}
	for _, n := range list {
		shape := n.Text
		if n.Kind >= 3 {
			shape = []string{"()", "[]", "{}", "'"}[n.Kind-3]
		}
		lines = append(lines, strings.Repeat("  ", n.Depth)+shape)
	}
	return strings.Join(lines, "\n")
}

func numbersShown(numbers []int) string { return strings.Trim(fmt.Sprint(numbers), "[]") }

func expectedSizes(list []impl.Token) []int {
	if stream := expectedOf(list); stream.ok {
		return stream.sizes
	}
	return nil
}

// expectedHeld feeds an expected engine, and looks at what it holds each time.
func expectedHeld(width int, list []impl.Token) string {
	if !expectedOf(list).ok {
		return "bad"
	}
	e := impl.Engine{Width: width, Marks: []impl.Mark{{Kind: 2}}}
	items, held := 0, 0
	for _, token := range list {
		e, _, _ = expectedFeed(e, token)
		items = max(items, len(e.Items))
		if len(e.Items) > 0 {
			held = max(held, e.Total-e.Items[0].Start)
		}
	}
	return fmt.Sprint(items, " ", held)
}

// ended has a byte 10 behind each line.
func ended(lines []string) string {
	text := ""
	for _, line := range lines {
		text += line + "\n"
	}
	return text
}

// checkTalk holds what is told, and the tokens behind it, against what is
// expected; it gives what is told of each line.
func checkTalk(t *testing.T, books deskBooks, lines ...string) []string {
	t.Helper()
	d := books.newDesk()
	told := d.tellAll(lines)
	text := ended(lines)
	if got, ok := impl.RunDesk(text); !ok || got != ended(told) {
		t.Errorf("RunDesk(%q) = %q, %v, want %q", textShown(text), textShown(got), ok, textShown(ended(told)))
		showFirstWrong(t, lines, strings.Split(got, "\n"), told)
	}
	if got, ok := impl.DeskTokens(text); !ok || !slices.Equal(got, d.list) {
		t.Errorf("DeskTokens(%q) = %s, %v, want %s", textShown(text), tokensShown(got), ok, tokensShown(d.list))
	}
	return told
}

// showFirstWrong finds a line in a long talk.
func showFirstWrong(t *testing.T, lines []string, got []string, want []string) {
	t.Helper()
	for k, line := range lines {
		if k < len(got) && got[k] != want[k] {
			t.Errorf("line %d, %q, tells %q, want %q", k, textShown(line), textShown(got[k]), textShown(want[k]))
			return
		}
	}
}

// exchange is a line and what it tells.
type exchange struct{ line, told string }

// checkExchanges tells all lines to one desk.
func checkExchanges(t *testing.T, books deskBooks, list []exchange) {
	t.Helper()
	lines := []string{}
	for _, e := range list {
		lines = append(lines, e.line)
	}
	for k, got := range checkTalk(t, books, lines...) {
		if got != list[k].told {
			t.Errorf("line %d, %q, is expected to tell %q, want %q", k, lines[k], got, list[k].told)
		}
	}
}

func checkNoTalk(t *testing.T, name string, text string) {
	t.Helper()
	if got, ok := impl.RunDesk(text); ok || got != "" {
		t.Errorf("%s: RunDesk gives %q, %v", name, textShown(got), ok)
	}
	if got, ok := impl.DeskTokens(text); ok || len(got) != 0 {
		t.Errorf("%s: DeskTokens gives %s, %v", name, tokensShown(got), ok)
	}
}

// checkRaw takes a text as it stands.
func checkRaw(t *testing.T, text string, want string, tokenTexts string) {
	t.Helper()
	if got, ok := impl.RunDesk(text); !ok || got != want {
		t.Errorf("RunDesk(%q) = %q, %v, want %q", textShown(text), textShown(got), ok, textShown(want))
	}
	if got, ok := impl.DeskTokens(text); !ok || !slices.Equal(got, tokens(t, tokenTexts)) {
		t.Errorf("DeskTokens(%q) = %s, %v, want %q", textShown(text), tokensShown(got), ok, textShown(tokenTexts))
	}
}

func TestDeskConstants(t *testing.T) {
	if got := [...]int{impl.MaxTalk, impl.MaxTalkLines, impl.MaxLineBytes}; got != [...]int{4000, 120, 200} {
		t.Errorf("constants are %v", got)
	}
}

func TestDeskByHand(t *testing.T) {
	checkExchanges(t, newDeskBooks(), []exchange{
		{"out", "-"},
		{"width 4", "ok"},
		{"token <1", "ok"},
		{"out", "bad"},
		{`token "ab"`, "ok"},
		{"token _1", "ok"},
		{`token "cd"`, "ok"},
		{"token >", "ok"},
		{"out", "ab/ cd"},
		{"stream", "ab/ cd"},
		{"sizes", "5 2 3 2 0"},
		{"held", "3 3"},
		{"width 5", "ok"},
		{"out", "ab cd"},
		{"stream", "ab cd"},
		{"held", "5 5"},
		{"form (a  b)", "(a b)/"},
		{"width 4", "ok"},
		{"form (a  b)", "(a/    b)/"},
		{"style 3 1 1 1 1", "ok"},
		{"form (a  b) c", "(a/  b)//c/"},
		{"tree (a  b)", "()/  a/  b"},
		{"form (", "open 0"},
		{"tree (a]", "shut 2"},
		{"foo", "bad"},
		{"", "bad"},
		{"clear", "ok"},
		{"out", "-"},
		{"form (a  b) c", "(a/  b)//c/"},
	})
}

// A byte 10 at the end ends the last line; without one, the line is there all
// the same, unless it is empty.
func TestDeskLines(t *testing.T) {
	checkRaw(t, "", "", "")
	checkRaw(t, "\n", "bad\n", "")
	checkRaw(t, "\n\n", "bad\nbad\n", "")
	checkRaw(t, "out", "-\n", "")
	checkRaw(t, "out\n", "-\n", "")
	checkRaw(t, "out\n\n", "-\nbad\n", "")
	checkRaw(t, "\nout", "bad\n-\n", "")
	checkRaw(t, "token >", "ok\n", ">")
	checkRaw(t, "token >\n", "ok\n", ">")
	checkRaw(t, "token >\ntoken |", "ok\nok\n", "> |")
	checkRaw(t, "token >\ntoken |\n", "ok\nok\n", "> |")
	checkRaw(t, "token >\n\ntoken |\n\n", "ok\nbad\nok\nbad\n", "> |")
	checkRaw(t, "token >\nclear", "ok\nok\n", "")
	checkRaw(t, "token >\nclear\ntoken |+1", "ok\nok\nok\n", "|+1")
	checkRaw(t, " ", "bad\n", "")
	checkRaw(t, "form ", "\n", "")
	checkRaw(t, "form \n", "\n", "")
	checkRaw(t, "form \nform \n", "\n\n", "")
	checkRaw(t, "form", "bad\n", "")
	checkRaw(t, "form\n", "bad\n", "")
	checkRaw(t, "tree \ntree", "-\nbad\n", "")
	checkRaw(t, "out /out", "bad\n", "")
	checkRaw(t, "out;out", "bad\n", "")
}

// Only a byte 10 ends a line, and no other byte is left out.
func TestDeskBytesOfAllSorts(t *testing.T) {
	checkRaw(t, "out\r\n", "bad\n", "")
	checkRaw(t, "token >\r\ntoken |\n", "bad\nok\n", "|")
	checkRaw(t, "out\rout", "bad\n", "")
	checkRaw(t, "\tout\nout\t\n", "bad\nbad\n", "")
	checkRaw(t, "form\t(a)\n", "bad\n", "")
	checkRaw(t, "form (a\tb)\r\n", "(a b)/\n", "")
	checkRaw(t, "tree\ta\ntree \ta\t\n", "bad\na\n", "")
	checkRaw(t, "form \u00e9\ntree (\u00e9\n", "lex 0\nlex 1\n", "")
	checkRaw(t, "token \"\u00e9\"\ntoken \"e\"\n", "bad\nok\n", `"e"`)
	checkRaw(t, "\u00e9\n\xff\nout\u2028\n\u00a0out\n", "bad\nbad\nbad\nbad\n", "")
	checkRaw(t, "out\u0085out\vout\fout\n", "bad\n", "")
	checkRaw(t, "out\x00\n\x00\n", "bad\nbad\n", "")
	books := newDeskBooks()
	for b := range 256 {
		if b == '\n' {
			continue
		}
		one := string([]byte{byte(b)})
		for _, verb := range []string{"width", "style", "form", "tree", "token", "clear", "out", "stream", "sizes", "held"} {
			checkTalk(t, books, verb+one, verb+" "+one, verb+one+" ", one+verb, verb+one+"a", one, "form (a"+one+"b)", `token "a`+one+`b"`, "tree a"+one)
		}
	}
}

func TestDeskLongTexts(t *testing.T) {
	line := "form " + strings.Repeat(" ", 194)
	most := strings.Repeat(line+"\n", 20)
	if len(most) != 4000 {
		t.Fatalf("%d bytes", len(most))
	}
	checkRaw(t, most, strings.Repeat("\n", 20), "")
	checkRaw(t, "token >\n"+most[8:], "ok\nbad\n"+strings.Repeat("\n", 19), ">")
	checkRaw(t, most[:3999], strings.Repeat("\n", 20), "")
	checkRaw(t, most[:3999]+" ", strings.Repeat("\n", 20), "")
	for name, text := range map[string]string{
		"one line more":       most + "x",
		"an empty line more":  most + "\n",
		"a blank ahead":       " " + most,
		"an empty line ahead": "\n" + most,
		"a token ahead":       "token >\n" + most[7:],
		"much more":           strings.Repeat(most, 300),
	} {
		if len(text) <= 4000 {
			t.Fatalf("%s: %d bytes", name, len(text))
		}
		checkNoTalk(t, name, text)
	}
	// The limit is one of bytes.
	checkRaw(t, strings.Repeat(strings.Repeat("\u00e9", 99)+"x\n", 20), strings.Repeat("bad\n", 20), "")
	checkNoTalk(t, "more bytes than runes", strings.Repeat(strings.Repeat("\u00e9", 99)+"x\n", 20)+"x")
	checkNoTalk(t, "as many runes, but more bytes", "\u00e9"+most[:3999])
}

func TestDeskManyLines(t *testing.T) {
	checkRaw(t, strings.Repeat("out\n", 119), strings.Repeat("-\n", 119), "")
	checkRaw(t, strings.Repeat("out\n", 120), strings.Repeat("-\n", 120), "")
	checkRaw(t, strings.Repeat("out\n", 119)+"out", strings.Repeat("-\n", 120), "")
	checkRaw(t, strings.Repeat("\n", 120), strings.Repeat("bad\n", 120), "")
	checkRaw(t, strings.Repeat("token >\n", 120), strings.Repeat("ok\n", 120), strings.Repeat("> ", 120))
	for name, text := range map[string]string{
		"121 lines":                         strings.Repeat("out\n", 121),
		"121 lines, the last one not ended": strings.Repeat("out\n", 120) + "out",
		"121 lines, the last one empty":     strings.Repeat("out\n", 120) + "\n",
		"121 lines, the first one empty":    "\n" + strings.Repeat("out\n", 120),
		"121 empty lines":                   strings.Repeat("\n", 121),
		"120 empty lines and a blank":       strings.Repeat("\n", 120) + " ",
		"121 tokens":                        strings.Repeat("token >\n", 121),
		"121 bad lines":                     strings.Repeat("x\n", 121),
		"a token and 120 times clear":       "token >\n" + strings.Repeat("clear\n", 120),
		"4000 empty lines":                  strings.Repeat("\n", 4000),
	} {
		checkNoTalk(t, name, text)
	}
}

func TestDeskLongLines(t *testing.T) {
	for _, start := range []string{"form ", "tree ", "", "token ", "out "} {
		told := map[string]string{"form ": "\n", "tree ": "-\n"}[start]
		if told == "" {
			told = "bad\n"
		}
		most := start + strings.Repeat(" ", 200-len(start))
		for _, line := range []string{most[:199], most} {
			checkRaw(t, line, told, "")
			checkRaw(t, line+"\n", told, "")
			checkRaw(t, line+"\ntoken >", told+"ok\n", ">")
			checkRaw(t, "token >\n"+line, "ok\n"+told, ">")
			checkRaw(t, "token >\n"+line+"\ntoken |\n", "ok\n"+told+"ok\n", "> |")
		}
		for name, text := range map[string]string{
			"alone":         most + " ",
			"ended":         most + " \n",
			"the first":     most + " \ntoken >",
			"the last":      "token >\n" + most + " ",
			"in the middle": "token >\n" + most + " \ntoken |\n",
			"one of two":    most + "\n" + most + "x\n" + most,
			"with a tab":    most + "\t\n",
			"with a 13":     most + "\r\n",
		} {
			checkNoTalk(t, start+name, text)
		}
	}
	// The limit is one of bytes, and the byte 10 is not of the line.
	checkRaw(t, strings.Repeat("\u00e9", 100)+"\n", "bad\n", "")
	checkNoTalk(t, "199 runes", strings.Repeat("\u00e9", 2)+strings.Repeat("x", 197))
	checkNoTalk(t, "101 runes", strings.Repeat("\u00e9", 101)+"\n")
	word := strings.Repeat("x", 39)
	checkRaw(t, "form "+strings.Repeat(word+" ", 4)+word[:35], strings.Repeat(word+"/", 4)+word[:35]+"/\n", "")
	checkRaw(t, "width 200\nform ("+strings.Repeat(word+" ", 4)+word[:33]+")", "ok\n("+strings.Repeat(word+" ", 4)+word[:33]+")/\n", "")
}

func TestTokenLinesByHand(t *testing.T) {
	for text, want := range map[string]string{
		``:                              "",
		`"a"`:                           "token \"a\"\n",
		`>`:                             "token >\n",
		`"a" |`:                         "token \"a\"\ntoken |\n",
		`_0 _9+9 | |-9 |+9 <0 [9 > "\"`: "token _0\ntoken _9+9\ntoken |\ntoken |-9\ntoken |+9\ntoken <0\ntoken [9\ntoken >\ntoken \"\\\"\n",
		`> > <0`:                        "token >\ntoken >\ntoken <0\n",
	} {
		if got, ok := impl.TokenLines(tokens(t, text)); !ok || got != want {
			t.Errorf("TokenLines(%s) = %q, %v, want %q", text, got, ok, want)
		}
	}
	got, ok := impl.TokenLines([]impl.Token{{Text: "a  b"}, {Text: `"`}, {Text: "/"}})
	if want := "token \"a  b\"\ntoken \"\"\"\ntoken \"/\"\n"; !ok || got != want {
		t.Errorf("TokenLines = %q, %v, want %q", got, ok, want)
	}
	if got, ok := impl.TokenLines(nil); !ok || got != "" {
		t.Errorf("TokenLines of nil = %q, %v", got, ok)
	}
}

func TestTokenLinesOfManyTokens(t *testing.T) {
	for name, token := range map[string]impl.Token{"token >\n": {Kind: impl.TokEnd}, "token \"" + strings.Repeat("x", 40) + "\"\n": {Text: strings.Repeat("x", 40)}} {
		for _, count := range []int{1, 99, 100} {
			if got, ok := impl.TokenLines(repeated(token, count)); !ok || got != strings.Repeat(name, count) {
				t.Errorf("TokenLines of %d tokens = %q, %v", count, textShown(got), ok)
			}
		}
		for _, count := range []int{101, 102, 120, 400, 401, 5000} {
			if got, ok := impl.TokenLines(repeated(token, count)); ok || got != "" {
				t.Errorf("TokenLines of %d tokens = %q, %v", count, textShown(got), ok)
			}
		}
	}
}

// A desk is told as many bytes as a talk may have, and no more.
func TestTokenLinesAsLongAsATalk(t *testing.T) {
	for size, count := range map[int]int{21: 82, 22: 82, 23: 82, 40: 100} {
		list := append(repeated(impl.Token{Text: strings.Repeat("x", 40)}, count-1), impl.Token{Text: strings.Repeat("y", size)})
		text, ok := impl.TokenLines(list)
		if !ok || len(text) != 49*(count-1)+9+size {
			t.Errorf("TokenLines of %d texts has %d bytes, %v", count, len(text), ok)
		}
		if len(text) > 4000 {
			checkNoTalk(t, "the lines of many texts", text)
		} else if back, ok := impl.DeskTokens(text); !ok || !slices.Equal(back, list) {
			t.Errorf("a desk that was told %d bytes has %s, %v", len(text), tokensShown(back), ok)
		}
	}
}

func TestTokenLinesOfWhatIsNoToken(t *testing.T) {
	wrong := []impl.Token{
		{}, {Text: " "}, {Text: " a"}, {Text: "a "}, {Text: "a\n"}, {Text: "\u00e9"}, {Text: strings.Repeat("x", 41)}, {Text: "a", Off: 1}, {Text: "a", Width: 1},
		{Kind: impl.TokBlank, Width: 10}, {Kind: impl.TokBlank, Width: -1}, {Kind: impl.TokBlank, Off: 10}, {Kind: impl.TokBlank, Text: "a"},
		{Kind: impl.TokBegin, Width: 2}, {Kind: impl.TokBegin, Off: -1}, {Kind: impl.TokBegin, Off: 10}, {Kind: impl.TokEnd, Off: 1}, {Kind: impl.TokEnd, Width: 1},
		{Kind: impl.TokLine, Width: 1}, {Kind: impl.TokLine, Off: -10}, {Kind: -1}, {Kind: 5},
	}
	for k, token := range wrong {
		for _, count := range []int{1, 2, 7, 99, 100, 101} {
			for at := range count {
				if count > 7 && (at+k)%23 > 0 && at > 0 && at < count-1 {
					continue
				}
				list := repeated(impl.Token{Kind: impl.TokEnd}, count)
				list[at] = token
				if got, ok := impl.TokenLines(list); ok || got != "" {
					t.Errorf("TokenLines of %d tokens with %s at %d = %q, %v", count, shown(token), at, textShown(got), ok)
				}
			}
		}
	}
	for at := range 100 {
		list := repeated(impl.Token{Text: "a"}, 100)
		list[at] = impl.Token{}
		if got, ok := impl.TokenLines(list); ok || got != "" {
			t.Errorf("TokenLines with no token at %d = %q, %v", at, textShown(got), ok)
		}
	}
}

// deskCalls asks each function of the chapter something, some of them what is
// refused; each tells what it was answered.
func deskCalls(t *testing.T) []func() string {
	calls := []func() string{}
	for _, text := range []string{
		"", "out", "width 4\nform (a  b)", "form (a  b)\nstyle 3 1 1 1 1\nform (a  b) c\n", "token <1\ntoken \"ab\"\ntoken _1\ntoken \"cd\"\ntoken >\nout\nsizes\nheld", "token >\nout\nclear\nstream", "sizes\nheld\nwidth 0\ntree (a", strings.Repeat("x", 201), strings.Repeat("\n", 121), strings.Repeat("token >\n", 100) + "width 1",
	} {
		calls = append(calls,
			func() string { return fmt.Sprint(impl.RunDesk(text)) },
			func() string { return fmt.Sprint(impl.DeskTokens(text)) },
		)
	}
	for _, text := range []string{``, `"a" |`, `[2 "aa" _1 <5 "b" _1 "c" > _1 "dddd" >`} {
		list := tokens(t, text)
		calls = append(calls,
			func() string { return fmt.Sprint(impl.TokenLines(list)) },
			func() string { return fmt.Sprint(impl.TokenLines(append(slices.Clone(list), impl.Token{}))) },
		)
	}
	return calls
}

// No desk has anything of an earlier one.
func TestDeskAnswersDoNotHangOnEarlierCalls(t *testing.T) { checkAnyOrder(t, deskCalls(t)) }

func TestDeskSideBySide(t *testing.T) { checkSideBySide(t, deskCalls(t)) }

func TestTokenLinesDoNotWriteIntoTheirArgument(t *testing.T) {
	for _, text := range []string{``, `"a"`, `[1 "a" _1 "b" > | "c"`, `<0 "a"`, `"a" >`} {
		want := tokens(t, text)
		list, spare := roomy(want)
		lines, _ := impl.TokenLines(list)
		checkUntouched(t, "TokenLines", list, want, spare)
		kept := strings.Clone(lines)
		for k := range list {
			list[k] = impl.Token{Kind: impl.TokLine}
		}
		if lines != kept {
			t.Errorf("an answer for %s changes with the argument", text)
		}
	}
	bad := []impl.Token{{Text: "a"}, {}, {Kind: impl.TokEnd}}
	list, spare := roomy(bad)
	impl.TokenLines(list)
	checkUntouched(t, "TokenLines that is refused", list, bad, spare)
}

// Who writes into tokens or behind them changes no other answer.
func TestDeskTokensAreNewMemory(t *testing.T) {
	for _, text := range []string{"token >", "token <0\ntoken \"a\"\ntoken >", "token |\nclear\ntoken |+1\ntoken \"b\"\nout", "token |\ntoken |\ntoken |\nclear\ntoken _1"} {
		one, _ := impl.DeskTokens(text)
		two, _ := impl.DeskTokens(text)
		kept := slices.Clone(two)
		for k := range one {
			one[k] = impl.Token{Text: "other"}
		}
		_ = append(one, impl.Token{Text: "behind"}, impl.Token{Text: "behind"})
		three, _ := impl.DeskTokens(text)
		if len(kept) == 0 || !slices.Equal(two, kept) || !slices.Equal(three, kept) {
			t.Errorf("two answers for %q share memory", text)
		}
	}
}
