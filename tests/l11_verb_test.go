package tests

import (
	"fmt"
	"slices"
	"strconv"
	"strings"
	"testing"

	"loop.example/g00829/impl"
)

// verbTexts has a text for each verb that takes one, which it does something of.
func verbTexts() map[string]string {
	return map[string]string{"width": "7", "style": "3 0 2 3 1", "form": "(aa  bb cc)", "tree": "(a [b])", "token": "<2"}
}

func verbsAlone() []string { return []string{"clear", "out", "stream", "sizes", "held"} }

// deskProbes tells of a desk what its width, its style and its tokens are.
func deskProbes() []string {
	atoms := strings.Repeat("a ", 30)
	return []string{"out", "stream", "sizes", "held", "form (a b) c", "form [aa bb {k v kk (f vv ww)}] (g (h i) jj kk)", "form (" + atoms + ")", "form [" + atoms + "]", "form {" + atoms + "}"}
}

// deskStarts has what may be told ahead: nothing, and such that the width, the
// style and the tokens are others than at first.
func deskStarts() [][]string {
	return [][]string{
		{},
		{"width 4"},
		{"style 3 2 3 0 1", "width 12"},
		{"token [1", `token "ab"`, "token _1+1", `token "cd"`, "token >"},
		{"width 6", "style 0 0 0 3 0", "token <0", `token "ab"`},
		{"token >", "form (", "token |", "clear", "token _3", "width 200", "bad"},
	}
}

// checkNothingDone expects of each line that it tells bad, and that all is as it
// was behind it.
func checkNothingDone(t *testing.T, books deskBooks, lines ...string) {
	t.Helper()
	for _, start := range deskStarts() {
		before := checkTalk(t, books, append(slices.Clone(start), deskProbes()...)...)
		for _, line := range lines {
			told := checkTalk(t, books, slices.Concat(start, []string{line}, deskProbes())...)
			if told[len(start)] != "bad" || !slices.Equal(slices.Delete(told, len(start), len(start)+1), before) {
				t.Errorf("%q behind %q is expected to do something", textShown(line), start)
			}
		}
	}
}

func TestDeskVerbsByHand(t *testing.T) {
	for line, want := range map[string]string{
		"width 7":          "ok",
		"width ":           "bad",
		"width":            "bad",
		"width  7":         "bad",
		"style 2 1 1 1 0":  "ok",
		"style ":           "bad",
		"style":            "bad",
		"style  2 1 1 1 0": "bad",
		"form (a  b)":      "(a b)/",
		"form ":            "",
		"form":             "bad",
		"form  (a  b)":     "(a b)/",
		"form  ":           "",
		"tree (a)":         "()/  a",
		"tree ":            "-",
		"tree":             "bad",
		"tree  (a)":        "()/  a",
		"tree  ":           "-",
		"token >":          "ok",
		"token ":           "bad",
		"token":            "bad",
		"token  >":         "bad",
		"clear":            "ok",
		"clear ":           "bad",
		"clear  ":          "bad",
		"clear all":        "bad",
		"out":              "-",
		"out ":             "bad",
		"out out":          "bad",
		"stream":           "-",
		"stream ":          "bad",
		"stream 40":        "bad",
		"sizes":            "-",
		"sizes ":           "bad",
		"sizes 0":          "bad",
		"held":             "0 0",
		"held ":            "bad",
		"held 0 0":         "bad",
		"":                 "bad",
		" ":                "bad",
		" out":             "bad",
		"  out":            "bad",
		" width 7":         "bad",
		"WIDTH 7":          "bad",
		"Out":              "bad",
		"outs":             "bad",
		"ou":               "bad",
		"o":                "bad",
		"tree.":            "bad",
		"formed (a)":       "bad",
		"for (a)":          "bad",
	} {
		checkExchanges(t, newDeskBooks(), []exchange{{line, want}})
		if got, ok := impl.RunDesk(line + "\n"); !ok || got != want+"\n" {
			t.Errorf("RunDesk(%q) = %q, %v, want %q", line, got, ok, want)
		}
	}
}

// Each verb, alone and behind others, with and without what belongs behind it.
func TestDeskVerbsBehindOthers(t *testing.T) {
	books := newDeskBooks()
	lines := verbsAlone()
	for verb, text := range verbTexts() {
		lines = append(lines, verb, verb+" ", verb+"  ", verb+" "+text, verb+"  "+text, verb+" "+text+" ", verb+text, verb+"\t"+text)
	}
	for _, start := range deskStarts() {
		for _, one := range lines {
			checkTalk(t, books, slices.Concat(start, []string{one})...)
			checkTalk(t, books, slices.Concat(start, []string{one}, deskProbes())...)
			for _, two := range lines {
				checkTalk(t, books, slices.Concat(start, []string{one, two, "out", "sizes", "form (aa  bb cc) (d (e f))"})...)
			}
		}
	}
}

func TestDeskVerbsWithoutTheirText(t *testing.T) {
	lines := []string{"width ", "style ", "token ", "width  ", "style  ", "token  "}
	for verb, text := range verbTexts() {
		lines = append(lines, verb, verb+text, verb+"\t"+text, verb+"\t", verb+"\r", verb+"/"+text, verb+":"+text, verb+"=", verb+"\u00a0"+text, " "+verb+" "+text, "\t"+verb+" "+text)
		if verb != "form" && verb != "tree" {
			lines = append(lines, verb+"  "+text, verb+" "+text+" ", verb+" "+text+"\r", verb+" \t"+text, verb+" "+text+" "+text)
		}
	}
	checkNothingDone(t, newDeskBooks(), lines...)
}

func TestDeskVerbsWithATextTheyMustNotHave(t *testing.T) {
	lines := []string{}
	for _, verb := range verbsAlone() {
		for _, behind := range []string{" ", "  ", " x", " " + verb, " 1", " -", "\t", "\r", "/", ".", ";", ",", "\x00", "\u00a0", "()", " (a)"} {
			lines = append(lines, verb+behind)
		}
		lines = append(lines, " "+verb, "  "+verb, "\t"+verb, "\r"+verb, "/"+verb, "("+verb+")")
	}
	checkNothingDone(t, newDeskBooks(), lines...)
}

func TestDeskBeginningsOfVerbs(t *testing.T) {
	lines := []string{"", " ", "  "}
	for verb, text := range verbTexts() {
		for k := range len(verb) {
			lines = append(lines, verb[:k]+" "+text, verb[:k], verb[:k]+verb[k+1:]+" "+text, verb[k:k+1]+" "+text)
		}
	}
	for _, verb := range verbsAlone() {
		for k := range len(verb) {
			lines = append(lines, verb[:k], verb[:k]+" ", verb[:k]+verb[k+1:], verb[k:k+1], verb[:k]+" "+verb[k:])
		}
	}
	checkNothingDone(t, newDeskBooks(), lines...)
}

func TestDeskVerbsWithMoreLetters(t *testing.T) {
	lines := []string{}
	for verb, text := range verbTexts() {
		for _, other := range []string{verb + "s", verb + "ed", "re" + verb, verb + verb, verb + "1", "-" + verb, "a" + verb, verb + "-" + verb} {
			lines = append(lines, other+" "+text, other, other+" ")
		}
	}
	for _, verb := range verbsAlone() {
		lines = append(lines, verb+"s", verb+"ed", "re"+verb, verb+verb, verb+"1", "-"+verb, "a"+verb)
	}
	checkNothingDone(t, newDeskBooks(), lines...)
}

func TestDeskVerbsInCapitals(t *testing.T) {
	lines := []string{}
	for verb, text := range verbTexts() {
		for k := range len(verb) {
			lines = append(lines, verb[:k]+strings.ToUpper(verb[k:k+1])+verb[k+1:]+" "+text)
		}
		lines = append(lines, strings.ToUpper(verb)+" "+text, strings.ToUpper(verb), strings.ToUpper(verb)+" ")
	}
	for _, verb := range verbsAlone() {
		for k := range len(verb) {
			lines = append(lines, verb[:k]+strings.ToUpper(verb[k:k+1])+verb[k+1:])
		}
		lines = append(lines, strings.ToUpper(verb))
	}
	checkNothingDone(t, newDeskBooks(), lines...)
}

// What other words a table of this kind may have is nothing here.
func TestDeskVerbsThatAreNone(t *testing.T) {
	lines := strings.Fields("add blank begin end line text print layout quit exit help reset undo list tokens show in bad ok - / ( > | _1 <0 0 40")
	for _, word := range slices.Clone(lines) {
		lines = append(lines, word+" ", word+" 7", word+" >", word+" (a)")
	}
	checkNothingDone(t, newDeskBooks(), append(lines, `"a"`, "'", ";", "\u00e9", "\xff", "\x00", "wi dth 7", "to ken >", "width7 7", strings.Repeat("x", 200), strings.Repeat(" ", 200))...)
}

// widthTalk lays a block of so many bytes, and one that is a byte longer, out in
// a width: the one fits and the other does not.
func widthTalk(width int) []string {
	lines := []string{"width " + strconv.Itoa(width), "token [0"}
	left := width - 2
	for ; left > 40; left -= 40 {
		lines = append(lines, `token "`+strings.Repeat("x", 40)+`"`)
	}
	if left > 0 {
		lines = append(lines, `token "`+strings.Repeat("x", left)+`"`)
	}
	return append(lines, "token _1", `token "y"`, "token >", "out", "stream", "held", `token "z"`, "out", "stream", "held")
}

func TestDeskWidths(t *testing.T) {
	books := newDeskBooks()
	for width := 1; width <= 200; width++ {
		told := checkTalk(t, books, widthTalk(width)...)
		if last := told[len(told)-7]; told[0] != "ok" || strings.Contains(last, "/") != (width < 2) {
			t.Errorf("in width %d the block is laid out as %q", width, textShown(last))
		}
		if last := told[len(told)-3]; !strings.Contains(last, "/") {
			t.Errorf("in width %d the longer block is laid out as %q", width, textShown(last))
		}
		checkTalk(t, books, "width "+strconv.Itoa(201-width), "form (aa bb) [c (d e ff)]", "width "+strconv.Itoa(width), "form (aa bb) [c (d e ff)]")
	}
}

// At first the width is 40.
func TestDeskWidthAtFirst(t *testing.T) {
	fits := "(" + strings.Repeat("x", 36) + " y)"
	books := newDeskBooks()
	checkExchanges(t, books, []exchange{
		{"form " + fits, fits + "/"},
		{"form " + fits[:38] + "yy)", "(" + strings.Repeat("x", 36) + "/    yy)/"},
		{"token <0", "ok"},
		{`token "` + strings.Repeat("x", 38) + `"`, "ok"},
		{"token _1", "ok"},
		{`token "y"`, "ok"},
		{"token >", "ok"},
		{"out", strings.Repeat("x", 38) + " y"},
		{"stream", strings.Repeat("x", 38) + " y"},
		{"held", "5 40"},
		{"width 39", "ok"},
		{"out", strings.Repeat("x", 38) + "/y"},
		{"stream", strings.Repeat("x", 38) + "/y"},
		{"form " + fits, "(" + strings.Repeat("x", 36) + "/    y)/"},
		{"width 40", "ok"},
		{"out", strings.Repeat("x", 38) + " y"},
	})
}

// wrongNumbers has texts that are no number, or none that is a width.
func wrongNumbers() []string {
	texts := []string{
		"", "0", "00", "000000000", "-0", "+0", "-00", "01", "07", "007", "040", "0200", "000000040", "0000000040",
		"-1", "-7", "-40", "-200", "-201", "-040", "--1", "--40", "-", "- 40", "+1", "+40", "+200", "++4", "-+4", "+-4", "+",
		"201", "202", "240", "300", "999", "1000", "2000", "4040", "123456789", "999999999", "-123456789", "-999999999",
		"1234567890", "1000000000", "9999999999", "-1234567890", "4294967297", "4294967336", "18446744073709551617", "18446744073709551656", "-18446744073709551576",
		"9223372036854775807", "9223372036854775808", "-9223372036854775808", "-9223372036854775768", strings.Repeat("9", 190), strings.Repeat("0", 190) + "40",
		" 40", "  40", "40 ", "40  ", " 40 ", "4 0", " ", "  ", "\t40", "40\t", "40\r", "\r40", "40\x00", "\x0040", "40\v", "\u00a040", "40\u00a0",
		"4_0", "4,0", "4'0", "0x28", "0X28", "0b101000", "0o50", "050", "x28", "28h", "4e1", "4E1", "1e2", "40.", "40.0", "4.0", ".4", "40/1", "40/", "/40",
		"\u0664\u0660", "\uff14\uff10", "\u00b2", "4\u0660", "\u2164", "40\u00e9", "\u00e940", "\xff", "40\xff", "\u221240",
		"a", "forty", "N", "'40'", "\"40\"", "(40)", "40;", ";40", "40,", "40a", "a40", "4a0", "40 40", "40 7", "nan", "inf", "true",
	}
	return texts
}

func TestDeskWidthsThatAreNone(t *testing.T) {
	books := newDeskBooks()
	lines := []string{}
	for _, text := range wrongNumbers() {
		lines = append(lines, "width "+text)
	}
	checkNothingDone(t, books, lines...)
}

// Each byte as it stands, ahead of a digit, behind one and between two.
func TestDeskWidthsOfAllBytes(t *testing.T) {
	books := newDeskBooks()
	done := 0
	for b := range 256 {
		if b == '\n' {
			continue
		}
		one := string([]byte{byte(b)})
		for _, text := range []string{one, one + "4", "4" + one, "1" + one + "5"} {
			told := checkTalk(t, books, "width 3", "width "+text, "form (a b c d e f g h i j k l m n o p q r s t u v w x y z)")
			_, digit := books.widths[text]
			if digit != (told[1] == "ok") {
				t.Errorf("width %q tells %q", text, told[1])
			}
			if digit {
				done++
			}
		}
	}
	if done != 9+9+10+10 {
		t.Errorf("%d texts are widths", done)
	}
}

func TestDeskWidthStaysWhenBadIsTold(t *testing.T) {
	checkExchanges(t, newDeskBooks(), []exchange{
		{"form (aaaa bbbb cccc)", "(aaaa bbbb cccc)/"},
		{"width 0", "bad"},
		{"form (aaaa bbbb cccc)", "(aaaa bbbb cccc)/"},
		{"width 10", "ok"},
		{"form (aaaa bbbb cccc)", "(aaaa bbbb/  cccc)/"},
		{"width 201", "bad"},
		{"width -5", "bad"},
		{"width", "bad"},
		{"width ", "bad"},
		{"width 1234567890", "bad"},
		{"form (aaaa bbbb cccc)", "(aaaa bbbb/  cccc)/"},
		{"width 200", "ok"},
		{"form (aaaa bbbb cccc)", "(aaaa bbbb cccc)/"},
		{"width 1", "ok"},
		{"form (aaaa bbbb cccc)", "(aaaa/    bbbb/  cccc)/"},
		{"width +200", "bad"},
		{"clear", "ok"},
		{"form (aaaa bbbb cccc)", "(aaaa/    bbbb/  cccc)/"},
	})
}

// Every style is told and shows in what is formatted behind it.
func TestDeskStyles(t *testing.T) {
	books := newDeskBooks()
	texts := []string{}
	for text := range books.styles {
		texts = append(texts, text)
	}
	slices.Sort(texts)
	seen := map[string]bool{}
	for group := range slices.Chunk(texts, 16) {
		lines := []string{"width 12"}
		for _, text := range group {
			lines = append(lines, "style "+text, "form (f 'a (g b c) [1 2 33 44]) {k v kk (h vv)} (i)", "style "+text+" ")
		}
		told := checkTalk(t, books, lines...)
		for k, text := range group {
			if told[3*k+1] != "ok" || told[3*k+3] != "bad" {
				t.Errorf("style %q tells %q, and with a blank behind it %q", text, told[3*k+1], told[3*k+3])
			}
			seen[told[3*k+2]] = true
		}
	}
	if len(seen) < 150 {
		t.Errorf("all styles give %d texts", len(seen))
	}
}

func TestDeskStylesThatAreNone(t *testing.T) {
	books := newDeskBooks()
	lines := []string{}
	for _, text := range []string{
		"", " ", "2", "2 1 1 1", "2 1 1 1 ", "2 1 1 1 0 ", " 2 1 1 1 0", "2  1 1 1 0", "2 1 1 1  0", "2 1 1 1 0 0", "21110", "2,1,1,1,0", "2\t1\t1\t1\t0", "2 1 1 1 0\r", "2 1 1 1 0\x00",
		"4 1 1 1 0", "2 4 1 1 0", "2 1 4 1 0", "2 1 1 4 0", "2 1 1 1 2", "9 9 9 9 9", "-1 1 1 1 0", "2 1 1 1 -1", "+2 1 1 1 0", "02 1 1 1 0", "2 1 1 1 00", "2 1 1 1 +0", "a b c d e", "2 1 1 1 a", "default", "{2 1 1 1 0}", "2 1 1 1 \u00e9", "\uff12 1 1 1 0", "/ 1 1 1 0", "2/1/1/1/0", ": 1 1 1 0",
	} {
		if _, ok := books.styles[text]; ok {
			t.Fatalf("%q is a style", text)
		}
		lines = append(lines, "style "+text)
	}
	checkNothingDone(t, books, lines...)
	checkExchanges(t, books, []exchange{
		{"form (a) b", "(a)/b/"},
		{"style 2 1 1 1 2", "bad"},
		{"form (a) b", "(a)/b/"},
		{"style 2 1 1 1 1", "ok"},
		{"form (a) b", "(a)//b/"},
		{"style 2 1 1 1", "bad"},
		{"clear", "ok"},
		{"form (a) b", "(a)//b/"},
		{"style 2 1 1 1 0", "ok"},
		{"form (a) b", "(a)/b/"},
	})
}

// Every token that is no text, and texts of all sorts.
func TestDeskTokensOfAllSorts(t *testing.T) {
	books := newDeskBooks()
	texts := []string{}
	for text := range books.sized {
		texts = append(texts, text)
	}
	slices.Sort(texts)
	for _, text := range goodTexts() {
		texts = append(texts, `"`+text+`"`)
	}
	for group := range slices.Chunk(texts, 60) {
		lines := []string{}
		for _, text := range group {
			lines = append(lines, "token "+text)
		}
		for k, told := range checkTalk(t, books, lines...) {
			if told != "ok" {
				t.Errorf("%q tells %q", lines[k], told)
			}
		}
	}
}

func TestDeskTokensThatAreNone(t *testing.T) {
	lines := []string{}
	for _, text := range []string{
		"", " ", "  ", "a", `"`, `""`, `" "`, `" a"`, `"a "`, `"a`, `a"`, `"a" `, ` "a"`, `'a'`, `"` + strings.Repeat("x", 41) + `"`, "\"\u00e9\"", "\"a\tb\"", "\"a\x7f\"", "\"a\x00\"", "\"\xff\"", "\"a\"\r",
		"_", "_a", "_10", "_-1", "_1+0", "_1-0", "_1+10", "_1+", "_1 +1", "_1+1 ", "_+1", "_1+a", "_01",
		"<", "<-1", "<10", "<a", "<0 ", "< 0", "<+1", "[", "[10", "[-1", "[0]", "(0", "<0>", ">0", ">>", "> ", " >", ">\r", ">\x00", "\u203a",
		"||", "|0", "|+0", "|-0", "|+10", "|1", "|+", "| +1", "|+1 ", "/", "\\n", "TokEnd", "end", "3", "{1  1 0}",
	} {
		lines = append(lines, "token "+text)
	}
	checkNothingDone(t, newDeskBooks(), lines...)
	for _, text := range badTexts() {
		if !strings.Contains(text, "\n") && len(text) < 150 {
			checkExchanges(t, newDeskBooks(), []exchange{{"token |", "ok"}, {`token "` + text + `"`, "bad"}, {"token |", "ok"}, {"out", "//"}})
		}
	}
}

// A text has too few lines for as many tokens as a stream may have: each line
// but what asks of them may be one.
func TestDeskTokensInAllLines(t *testing.T) {
	books := newDeskBooks()
	for _, token := range []string{"token |", "token >", "token _9", `token "a"`} {
		for _, ask := range []string{"out", "stream", "sizes", "held", token} {
			lines := append(slices.Repeat([]string{token}, 119), ask)
			if told := checkTalk(t, books, lines...); !slices.Equal(told[:119], slices.Repeat([]string{"ok"}, 119)) {
				t.Errorf("119 times %q tells %q", token, told)
			}
			checkNoTalk(t, "121 lines", ended(append(lines, ask)))
		}
	}
}

func TestDeskFormByHand(t *testing.T) {
	checkExchanges(t, newDeskBooks(), []exchange{
		{"form ", ""},
		{"form  ", ""},
		{"form ,", ""},
		{"form \t\r, ,", ""},
		{"form a", "a/"},
		{"form a b", "a/b/"},
		{"form a b ", "a/b/"},
		{"form ;n", ";n/"},
		{"form ;n (a", ";n (a/"},
		{"form 'a ;n", "'a/;n/"},
		{`form "a  b"`, `"a  b"/`},
		{"form /", "//"},
		{"form a/b", "a/b/"},
		{"form (a/ /b)", "(a/ /b)/"},
		{`form "/" ;/`, `"/"/;//`},
		{"form []", "[]/"},
		{"form {k v}", "{k v}/"},
		{"form clear", "clear/"},
		{"form form (a)", "form/(a)/"},
		{"form (define (f x) [1 22 333] {k v key value})", "(define (f x) [1 22 333]/  {k v key value})/"},
		{"width 9", "ok"},
		{"form (define (f x) [1 22 333] {k v key value})", "(define/    (f x)/  [1/   22/   333]/  {k/    v/   key/    value})/"},
		{"style 1 2 0 0 1", "ok"},
		{"form (a bb cc dd) [aa bb cc dd]", "(a/ bb/ cc/ dd)//[aa bb cc/  dd]/"},
		{"form a b c", "a//b//c/"},
		{"form ", ""},
	})
}

func TestDeskTreeByHand(t *testing.T) {
	checkExchanges(t, newDeskBooks(), []exchange{
		{"tree ", "-"},
		{"tree  ", "-"},
		{"tree , \t\r", "-"},
		{"tree a", "a"},
		{"tree a b", "a/b"},
		{"tree ()", "()"},
		{"tree [] {} '()", "[]/{}/'/  ()"},
		{"tree (a [b] 'c) ;x", "()/  a/  []/    b/  '/    c/;x"},
		{"tree {k (v)}", "{}/  k/  ()/    v"},
		{`tree "s  t"`, `"s  t"`},
		{"tree /", "/"},
		{"tree / /", "///"},
		{"tree a/b (/)", "a/b/()/  /"},
		{"tree ;/ /", ";/ /"},
		{"tree -", "-"},
		{"tree tree", "tree"},
		{"tree ''''''''''''a", "'/  '/    '/      '/        '/          '/            '/              '/                '/                  '/                    '/                      '/                        a"},
		{"width 1", "ok"},
		{"style 1 1 1 1 1", "ok"},
		{"tree (a [b] 'c) ;x", "()/  a/  []/    b/  '/    c/;x"},
	})
}

func TestDeskRefusedTextsByHand(t *testing.T) {
	refused := map[string]struct {
		name  string
		place int
	}{
		"\"":                          {"lex", 0},
		"a \"b":                       {"lex", 2},
		"(a\x01)":                     {"lex", 2},
		"(\u00e9)":                    {"lex", 1},
		strings.Repeat("x", 41):       {"lex", 0},
		")":                           {"shut", 0},
		"(a]":                         {"shut", 2},
		" )":                          {"shut", 1},
		"(a ')":                       {"shut", 4},
		"(":                           {"open", 0},
		"a (b [c":                     {"open", 5},
		"( ;)":                        {"open", 0},
		"'":                           {"quote", 0},
		"(a) '":                       {"quote", 4},
		"';n":                         {"quote", 1},
		"{a}":                         {"odd", 2},
		"{k v k}":                     {"odd", 6},
		strings.Repeat("(", 13) + "a": {"deep", 13},
		strings.Repeat("'", 13) + "a": {"deep", 13},
	}
	books := newDeskBooks()
	for text, r := range refused {
		want := fmt.Sprint(r.name, " ", r.place)
		checkExchanges(t, books, []exchange{{"form " + text, want}, {"tree " + text, want}, {"tree (/)", "()/  /"}, {"tree " + text, want}, {"form " + text, want}, {"form (/)", "(/)/"}})
		checkExchanges(t, books, []exchange{{"width 1", "ok"}, {"style 1 2 3 0 1", "ok"}, {"token >", "ok"}, {"form " + text, want}, {"tree " + text, want}, {"out", "bad"}})
		// The second blank is of the text.
		want = fmt.Sprint(r.name, " ", r.place+1)
		checkExchanges(t, books, []exchange{{"form  " + text, want}, {"tree  " + text, want}})
	}
	depth13 := strings.Repeat("(", 13) + strings.Repeat(")", 13)
	checkExchanges(t, books, []exchange{
		{"form " + depth13, "big -1"},
		{"form " + strings.Repeat("()", 80), "()" + strings.Repeat("/()", 79) + "/"},
		{"form " + strings.Repeat("()", 81), "big -1"},
		{"form " + strings.Repeat("[]", 97), "big -1"},
		{"style 2 1 1 1 1", "ok"},
		{"form " + strings.Repeat("()", 67), "()" + strings.Repeat("//()", 66) + "/"},
		{"form " + strings.Repeat("()", 68), "big -1"},
		{"tree " + strings.Repeat("()", 97), "()" + strings.Repeat("/()", 96)},
	})
	if told := checkTalk(t, books, "tree "+depth13); strings.Count(told[0], "()") != 13 || !strings.HasSuffix(told[0], "/"+strings.Repeat("  ", 12)+"()") {
		t.Errorf("tree of 13 blocks tells %q", told[0])
	}
}

// The texts that the formatter refuses are told with their codes, whatever the
// width and the style.
func TestDeskRefusedTexts(t *testing.T) {
	books := newDeskBooks()
	seen := map[string]int{}
	for text, want := range faultyTexts() {
		if strings.Contains(text, "\n") || len(text) > 195 {
			continue
		}
		for k := range 6 {
			told := checkTalk(t, books, fmt.Sprint("width ", 1+39*k), "style "+[]string{"0 0 0 0 0", "3 3 3 3 1"}[k%2], "form "+text, "tree "+text, "token |", "out")
			if told[2] != want || told[5] != "/" {
				t.Errorf("%q tells %q, want %q", textShown(text), told[2], want)
			}
			if name, _, _ := strings.Cut(want, " "); name != "big" && told[3] != want {
				t.Errorf("the tree of %q tells %q, want %q", textShown(text), told[3], want)
			} else {
				seen[name]++
			}
		}
	}
	for _, name := range []string{"lex", "shut", "open", "quote", "odd", "deep", "big"} {
		if seen[name] < 6 {
			t.Errorf("only %d texts are %s", seen[name], name)
		}
	}
}

// askTokens tells tokens and asks what they give.
func askTokens(text string) []string {
	lines := []string{}
	for _, word := range strings.Fields(text) {
		lines = append(lines, "token "+word)
	}
	return append(lines, "out", "stream", "sizes", "held")
}

func TestDeskAskedByHand(t *testing.T) {
	books := newDeskBooks()
	for text, want := range map[string][3]string{
		``: {"-", "-", "0 0"},
		// What is no stream.
		`>`:             {"bad", "-", "bad"},
		`<0`:            {"bad", "-", "bad"},
		`> <0`:          {"bad", "-", "bad"},
		`<0 >  >`:       {"bad", "-", "bad"},
		`"a" _1 [2 "b"`: {"bad", "-", "bad"},
		`"a" _1 "b" >`:  {"bad", "-", "bad"},
		strings.Repeat("<0 ", 13) + strings.Repeat("> ", 13): {"bad", "-", "bad"},
		// Streams of which nothing is written.
		`<0 >`:         {"-", "0 0", "2 0"},
		`[9 > <9 >`:    {"-", "0 0 0 0", "4 0"},
		`_0`:           {"-", "0", "1 0"},
		`_3`:           {"-", "3", "1 3"},
		`_9-9 <2 _9 >`: {"-", "18 9 9 0", "4 18"},
		strings.Repeat("<0 ", 12) + strings.Repeat("> ", 12): {"-", strings.TrimSpace(strings.Repeat("0 ", 24)), "24 0"},
		// Lines, and texts that look like what is told.
		`|`:                                      {"/", "0", "0 0"},
		`| |+3`:                                  {"//", "0 0", "0 0"},
		`_3 |`:                                   {"/", "3 0", "1 3"},
		`<0 | >`:                                 {"/", "1000000 0 0", "1 0"},
		`"/"`:                                    {"/", "1", "0 0"},
		`"-"`:                                    {"-", "1", "0 0"},
		`"bad"`:                                  {"bad", "3", "0 0"},
		`"a" |-1 "b"`:                            {"a/b", "1 0 1", "0 0"},
		`"a" |+2 "b"`:                            {"a/  b", "1 0 1", "0 0"},
		`"a" | | "b"`:                            {"a//b", "1 0 0 1", "0 0"},
		`"a" |`:                                  {"a/", "1 0", "0 0"},
		`[2 "aa" _1 <5 "b" _1 "c" > _1 "dddd" >`: {"aa b c dddd", "11 2 4 3 1 2 1 0 5 4 0", "11 11"},
	} {
		lines := askTokens(text)
		told := checkTalk(t, books, lines...)
		if got := told[len(told)-4:]; !slices.Equal(got, []string{want[0], want[0], want[1], want[2]}) {
			t.Errorf("%s tells %q, want %q", text, got, want)
		}
		// The same again, as nothing that is asked changes anything, and behind other tokens that are gone.
		checkTalk(t, books, append(lines, "stream", "out", "held", "sizes")...)
		again := checkTalk(t, books, slices.Concat([]string{`token "gone"`, "token <1", "out", "clear"}, lines)...)
		if got := again[len(again)-4:]; !slices.Equal(got, told[len(told)-4:]) {
			t.Errorf("%s behind clear tells %q, and was %q", text, got, told[len(told)-4:])
		}
	}
}

// Bad is told of what is no stream, in each width and style, and by nothing but
// out, stream and held; - only of what is empty.
func TestDeskAskedStepByStep(t *testing.T) {
	checkExchanges(t, newDeskBooks(), []exchange{
		{"out", "-"}, {"stream", "-"}, {"sizes", "-"}, {"held", "0 0"},
		{"token [1", "ok"}, {"out", "bad"}, {"stream", "bad"}, {"sizes", "-"}, {"held", "bad"}, {"form (a)", "(a)/"}, {"tree (a)", "()/  a"},
		{"token >", "ok"}, {"out", "-"}, {"stream", "-"}, {"sizes", "0 0"}, {"held", "2 0"},
		{"token >", "ok"}, {"out", "bad"}, {"stream", "bad"}, {"sizes", "-"}, {"held", "bad"},
		{"width 1", "ok"}, {"style 0 0 0 0 0", "ok"}, {"out", "bad"}, {"stream", "bad"}, {"sizes", "-"}, {"held", "bad"},
		{"token <0", "ok"}, {"out", "bad"}, {"stream", "bad"}, {"sizes", "-"}, {"held", "bad"},
		{"clear", "ok"}, {"out", "-"}, {"stream", "-"}, {"sizes", "-"}, {"held", "0 0"},
		{`token "ab"`, "ok"}, {"token _2", "ok"}, {"out", "ab/"}, {"stream", "ab/"}, {"sizes", "2 2"}, {"held", "0 0"},
		{`token "c"`, "ok"}, {"out", "ab/c"}, {"stream", "ab/c"}, {"sizes", "2 3 1"}, {"held", "0 0"},
		{"width 5", "ok"}, {"out", "ab  c"}, {"stream", "ab  c"}, {"sizes", "2 3 1"}, {"held", "2 3"},
		{"token |+1", "ok"}, {"out", "ab  c/"}, {"stream", "ab  c/"}, {"sizes", "2 3 1 0"}, {"held", "2 3"},
		{"token > ", "bad"}, {"token", "bad"}, {"clear ", "bad"}, {"out", "ab  c/"}, {"sizes", "2 3 1 0"},
	})
}

// Behind clear there are no tokens; the width and the style stay.
func TestDeskClear(t *testing.T) {
	books := newDeskBooks()
	checkExchanges(t, books, []exchange{
		{"clear", "ok"}, {"clear", "ok"}, {"out", "-"},
		{"width 3", "ok"}, {"style 1 1 1 0 1", "ok"},
		{`token "a"`, "ok"}, {"token _1", "ok"}, {`token "bb"`, "ok"}, {"out", "a/bb"}, {"form (a b) c", "(a/ b)//c/"},
		{"clear", "ok"},
		{"out", "-"}, {"stream", "-"}, {"sizes", "-"}, {"held", "0 0"}, {"form (a b) c", "(a/ b)//c/"},
		{`token "c"`, "ok"}, {"out", "c"}, {"token _1", "ok"}, {`token "dd"`, "ok"}, {"out", "c/dd"}, {"sizes", "1 3 2"},
		{"clear", "ok"}, {"token |", "ok"}, {"out", "/"},
	})
	for _, start := range deskStarts() {
		kept := []string{}
		for _, line := range start {
			if strings.HasPrefix(line, "width") || strings.HasPrefix(line, "style") {
				kept = append(kept, line)
			}
		}
		told := checkTalk(t, books, slices.Concat(start, []string{"clear"}, deskProbes(), []string{"token <3", "token >", "sizes"})...)
		want := checkTalk(t, books, slices.Concat(kept, deskProbes(), []string{"token <3", "token >", "sizes"})...)
		if !slices.Equal(told[len(start)+1:], want[len(kept):]) {
			t.Errorf("behind %q and clear the desk tells %q, want %q", start, told, want)
		}
	}
}
