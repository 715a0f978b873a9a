package tests

import (
	"fmt"
	"math/rand"
	"slices"
	"strings"
	"testing"

	"loop.example/g00829/impl"
)

// openMark is a bracket or a quote that waits for what comes, and how many
// children that are no notes it has.
type openMark struct {
	mark  string
	at    int
	plain int
}

// expectedParse is the document's list of codes, lexeme by lexeme, with the
// lexemes of the patterns. It gives the name of a code and a place, or "".
func expectedParse(reader lexReader, text string) ([]impl.Node, string, int) {
	lexemes, bad := reader.readAll(text)
	if bad != -1 {
		return nil, "lex", bad
	}
	list, open := []impl.Node{}, []openMark{}
	for i, one := range lexemes {
		behindQuote := i > 0 && lexemes[i-1].Text == "'"
		if one.Kind == 4 {
			if len(open) == 0 || behindQuote || !strings.Contains("() [] {}", open[len(open)-1].mark+one.Text) {
				return nil, "shut", one.At
			}
			if one.Text == "}" && open[len(open)-1].plain%2 == 1 {
				return nil, "odd", one.At
			}
			open = withoutQuotes(open[:len(open)-1])
			continue
		}
		if one.Kind == 2 && behindQuote {
			return nil, "quote", one.At
		}
		if len(open) > 12 {
			return nil, "deep", one.At
		}
		if len(open) > 0 && one.Kind != 2 {
			open[len(open)-1].plain++
		}
		n := impl.Node{Depth: len(open), Kind: one.Kind, Text: one.Text}
		if mark := strings.Index("([{'", one.Text); mark >= 0 {
			n.Kind, n.Text = 3+mark, ""
			open = append(open, openMark{mark: one.Text, at: one.At})
		} else {
			open = withoutQuotes(open)
		}
		list = append(list, n)
	}
	if len(open) == 0 {
		return list, "", -1
	}
	if last := open[len(open)-1]; last.mark == "'" {
		return nil, "quote", last.at
	}
	return nil, "open", open[len(open)-1].at
}

func withoutQuotes(open []openMark) []openMark {
	for len(open) > 0 && open[len(open)-1].mark == "'" {
		open = open[:len(open)-1]
	}
	return open
}

// checkParsed holds ParseTree against what is expected. What is parsed is a
// tree that prints to the text's own lexemes, and promise 8 holds for it.
func checkParsed(t *testing.T, reader lexReader, text string) string {
	t.Helper()
	want, name, place := expectedParse(reader, text)
	list, code, at := impl.ParseTree(text)
	if name != "" {
		if got := parsedShown(list, code, at); got != fmt.Sprint(name, " ", place) {
			t.Fatalf("ParseTree(%q) is %q, want %s %d", textShown(text), textShown(got), name, place)
		}
		return name
	}
	if code != 0 || at != -1 || !slices.Equal(list, want) {
		t.Fatalf("ParseTree(%q) is %q, want %q", textShown(text), textShown(parsedShown(list, code, at)), textShown(nodesShown(want)))
	}
	lexemes, _ := impl.LexText(text)
	if !impl.TreeOk(list) || impl.PrintTree(list) != impl.PlainLex(lexemes) {
		t.Fatalf("%q is parsed as %q and printed as %q", textShown(text), textShown(nodesShown(list)), textShown(impl.PrintTree(list)))
	}
	checkTreePromise(t, list)
	return "fine"
}

func checkParseShown(t *testing.T, reader lexReader, text string, want string) {
	t.Helper()
	checkParsed(t, reader, text)
	if got := parsedShown(impl.ParseTree(text)); got != want {
		t.Errorf("ParseTree(%q) is %q, want %q", textShown(text), textShown(got), textShown(want))
	}
}

func checkAllShown(t *testing.T, cases map[string]string) {
	t.Helper()
	reader := newLexReader()
	for text, want := range cases {
		checkParseShown(t, reader, text, want)
	}
}

func TestParseTreeByHand(t *testing.T) {
	checkAllShown(t, map[string]string{
		"":                            "",
		" ,\n":                        "",
		"a":                           "0a",
		" a ":                         "0a",
		"a b":                         "0a 0b",
		`"s"`:                         `0"s"`,
		";n":                          "0;n",
		";n \n;m":                     "0;n 0;m",
		"()":                          "0(",
		"[]":                          "0[",
		"{}":                          "0{",
		"()()":                        "0( 0(",
		"(())":                        "0( 1(",
		"([{}])":                      "0( 1[ 2{",
		"{[()] []}":                   "0{ 1[ 2( 1[",
		"(a [b] 'c) ;x":               "0( 1a 1[ 2b 1' 2c 0;x",
		"(a)b":                        "0( 1a 0b",
		"((a)b(c)d)e":                 "0( 1( 2a 1b 1( 2c 1d 0e",
		"{a b}":                       "0{ 1a 1b",
		"{a b c (d)}":                 "0{ 1a 1b 1c 1( 2d",
		"'a":                          "0' 1a",
		"' a":                         "0' 1a",
		"'\n,a":                       "0' 1a",
		"''a":                         "0' 1' 2a",
		"'\"s\"":                      `0' 1"s"`,
		"'()":                         "0' 1(",
		"'(a)":                        "0' 1( 2a",
		"'(a) b":                      "0' 1( 2a 0b",
		"''[a 'b] 'c":                 "0' 1' 2[ 3a 3' 4b 0' 1c",
		"('a 'b)":                     "0( 1' 2a 1' 2b",
		"('(a) b)":                    "0( 1' 2( 3a 1b",
		"('[a]'[b])c":                 "0( 1' 2[ 3a 1' 2[ 3b 0c",
		"'a ;n":                       "0' 1a 0;n",
		"'a;n\nb":                     "0' 1a 0;n 0b",
		"'(;n\n)":                     "0' 1( 2;n",
		"(;n\n)":                      "0( 1;n",
		"(;n\na;m\n)":                 "0( 1;n 1a 1;m",
		"{;n\n}":                      "0{ 1;n",
		"{;n\na;m\nb;o\n}":            "0{ 1;n 1a 1;m 1b 1;o",
		"{a ;n\n;m\n b}":              "0{ 1a 1;n 1;m 1b",
		"{'a 'b}":                     "0{ 1' 2a 1' 2b",
		"{''a (b)}":                   "0{ 1' 2' 3a 1( 2b",
		"{{} {a b}}":                  "0{ 1{ 1{ 2a 2b",
		"{a {b {c d}}}":               "0{ 1a 1{ 2b 2{ 3c 3d",
		"a'b":                         "0a'b",
		"a' b":                        "0a' 0b",
		"\"s\"'a":                     `0"s" 0' 1a`,
		"(a)'(b)":                     "0( 1a 0' 1( 2b",
		";'\na":                       "0;' 0a",
		";)\n(a)":                     "0;) 0( 1a",
		"(\")\")":                     `0( 1")"`,
		"(f, x [1,2],\n {k: 'v} ;n )": "open 0",
		"(f,x[y,z]\n{k: 'v};n )\n)":   "0( 1f 1x 1[ 2y 2z 1{ 2k: 2' 3v 1;n )",
	})
}

func TestParseTreeShut(t *testing.T) {
	checkAllShown(t, map[string]string{
		")":            "shut 0",
		"]":            "shut 0",
		"}":            "shut 0",
		"  )":          "shut 2",
		"a)":           "shut 1",
		"())":          "shut 2",
		"(a) b)":       "shut 5",
		"(]":           "shut 1",
		"(}":           "shut 1",
		"[)":           "shut 1",
		"[}":           "shut 1",
		"{)":           "shut 1",
		"{]":           "shut 1",
		"(a]":          "shut 2",
		"([)]":         "shut 2",
		"([a)":         "shut 3",
		"[(])":         "shut 2",
		"{(a})":        "shut 3",
		"(a [b] c]":    "shut 8",
		"')":           "shut 1",
		"('":           "quote 1",
		"(')":          "shut 2",
		"(' )":         "shut 3",
		"(a ')":        "shut 4",
		"['a ']":       "shut 5",
		"{a '}":        "shut 4",
		"('(a) ')":     "shut 7",
		"('')":         "shut 3",
		"a ) ]":        "shut 2",
		"(a) ;n)\n)":   "shut 8",
		"(a ;n)\n]":    "shut 7",
		"(;n\n]":       "shut 4",
		"'a)":          "shut 2",
		"'(a))":        "shut 4",
		"'()]":         "shut 3",
		"(()":          "open 0",
		"((a) b))":     "shut 7",
		"\"(\")":       "shut 3",
		"{a b} }":      "shut 6",
		"[{a b}":       "open 0",
		"[{a b} c}":    "shut 8",
		"[{a b} {c d)": "shut 11",
	})
}

func TestParseTreeQuote(t *testing.T) {
	checkAllShown(t, map[string]string{
		"'":            "quote 0",
		" ' ":          "quote 1",
		"''":           "quote 1",
		"'''":          "quote 2",
		"a '":          "quote 2",
		"'a '":         "quote 3",
		"(a) '":        "quote 4",
		"(a '":         "quote 3",
		"([{'":         "quote 3",
		";n\n'":        "quote 3",
		"';n":          "quote 1",
		"';n\na":       "quote 1",
		"' ;n":         "quote 2",
		"'\n;n\n a":    "quote 2",
		"'' ;n\na":     "quote 3",
		"(a ';n\nb)":   "quote 4",
		"(a 'b ';n)":   "quote 7",
		"{';n\n a b}":  "quote 2",
		"'a ';":        "quote 4",
		"'(a) ' ;n":    "quote 7",
		"'(';n)":       "quote 3",
		"''(a) ;n '":   "0' 1' 2( 3a 0;n '",
		"''(a) ;n\n '": "quote 10",
	})
}

func TestParseTreeOdd(t *testing.T) {
	checkAllShown(t, map[string]string{
		"{a}":                 "odd 2",
		"{ a }":               "odd 4",
		"{\"s\"}":             "odd 4",
		"{(a b)}":             "odd 6",
		"{()}":                "odd 3",
		"{{}}":                "odd 3",
		"{'a}":                "odd 3",
		"{''a}":               "odd 4",
		"{'(a b)}":            "odd 7",
		"{a b c}":             "odd 6",
		"{a ;n\n}":            "odd 6",
		"{;n\na}":             "odd 5",
		"{;n\na;m\n}":         "odd 8",
		"{;n\n;m\na;o\n;p\n}": "odd 14",
		"{a ;n\nb ;m\nc}":     "odd 12",
		"({a})":               "odd 3",
		"{a {b}}":             "odd 5",
		"{{a} b}":             "odd 3",
		"{a b {c}}":           "odd 7",
		"{a b {c d}}":         "odd 10",
		"'{a}":                "odd 3",
		"{a b} {c}":           "odd 8",
		"{(a) 'b c}":          "odd 9",
		"(a) [b] (c)":         "0( 1a 0[ 1b 0( 1c",
		"{a}}":                "odd 2",
		"{a} \"":              "lex 4",
	})
}

func TestParseTreeOpen(t *testing.T) {
	checkAllShown(t, map[string]string{
		"(":            "open 0",
		"[":            "open 0",
		"{":            "open 0",
		" (":           "open 1",
		"(a":           "open 0",
		"{a":           "open 0",
		"((":           "open 1",
		"(([{":         "open 3",
		"(()":          "open 0",
		"(a [b":        "open 3",
		"(a [b]":       "open 0",
		"(a [b] [c":    "open 7",
		"(a [b] (c) d": "open 0",
		"(a) (b":       "open 4",
		"'(":           "open 1",
		"('(a":         "open 2",
		"('(a) 'b":     "open 0",
		"''(a":         "open 2",
		"('a":          "open 0",
		"(''a":         "open 0",
		"(;n)":         "open 0",
		"([;n)]":       "open 1",
		"[a ] ( ;)":    "open 5",
		"{a b} {c d":   "open 6",
		"((()) (())":   "open 0",
		"( ( ( ) ) (":  "open 10",
	})
}

// Where several are so, the first lexeme counts, and of one lexeme the code that
// the chapter names first.
func TestParseTreeTwoAtOnce(t *testing.T) {
	deep := strings.Repeat("(", 13)
	checkAllShown(t, map[string]string{
		`) "`:                  "lex 2",
		`(] "a`:                "lex 3",
		`'; "a` + "\n\"":       "lex 6",
		`{a} "`:                "lex 4",
		deep + "(" + ` "`:      "lex 15",
		"' \x01":               "lex 2",
		"(((\x7f":              "lex 3",
		")" + deep + "(":       "shut 0",
		") '":                  "shut 0",
		") (":                  "shut 0",
		") {a}":                "shut 0",
		"{a} )":                "odd 2",
		"{a} '":                "odd 2",
		"{a} (":                "odd 2",
		"{a)":                  "shut 2",
		"{a]":                  "shut 2",
		"{'}":                  "shut 2",
		"{a b '}":              "shut 6",
		"{a '}":                "shut 4",
		"{(a}":                 "shut 3",
		"(a '":                 "quote 3",
		"{a '":                 "quote 3",
		"('":                   "quote 1",
		"(' ;n":                "quote 3",
		"';n )":                "quote 1",
		"';n\n)":               "quote 1",
		"')":                   "shut 1",
		"' ) ;n":               "shut 2",
		deep + "a":             "deep 13",
		deep + ")":             "open 11",
		deep + "]":             "shut 13",
		deep + "'":             "deep 13",
		deep + ";n":            "deep 13",
		deep + " ( '":          "deep 14",
		deep[:12] + "';n":      "quote 13",
		deep[:12] + "'a":       "deep 13",
		deep[:12] + "''":       "deep 13",
		deep[:12] + "')":       "shut 13",
		deep[:12] + "'":        "quote 12",
		deep[:12] + "{a}":      "deep 13",
		deep[:11] + "{a}":      "odd 13",
		deep[:11] + "{'}":      "shut 13",
		deep[:11] + "{'a}":     "deep 13",
		deep[:10] + "{'a}":     "odd 13",
		deep[:11] + "{''a}":    "deep 13",
		deep[:12] + "{}":       "open 11",
		deep[:12] + "{":        "open 12",
		deep[:12] + "a":        "open 11",
		deep[:12] + "a ' (":    "deep 16",
		deep[:12] + "a (a":     "deep 15",
		deep[:11] + "'(a":      "deep 13",
		deep[:11] + "'()":      "open 10",
		deep[:11] + "''a":      "deep 13",
		deep[:11] + "'' ;n":    "quote 14",
		deep[:11] + "'' )":     "shut 14",
		deep[:11] + "''":       "quote 12",
		deep + "))a ;n\n(a (":  "open 23",
		deep + "))a ;n\n(a (a": "deep 24",
	})
}

func TestParseTreeMaxDepth(t *testing.T) {
	reader := newLexReader()
	ends := map[byte]string{'(': ")", '[': "]", '{': "}", '\'': ""}
	r := rand.New(rand.NewSource(71))
	for count := 1; count <= 20; count++ {
		for range 60 {
			opened, closed := "", ""
			for range count {
				mark := "(['"[r.Intn(3)]
				opened, closed = opened+string(mark), ends[mark]+closed
			}
			for leaf, deeper := range map[string]int{"a": 0, `"s"`: 0, "()": 0, "{}": 0, "'a": 1, "{k v}": 1, "[()]": 1, "'('a)": 3} {
				want := "fine"
				if count+deeper > 12 {
					want = "deep"
				}
				text := opened + leaf + closed
				if got := checkParsed(t, reader, text); got != want {
					t.Errorf("ParseTree(%q) is %s, not %s", text, got, want)
				}
			}
		}
	}
	for _, mark := range []string{"(", "[", "{", "'"} {
		checkParseShown(t, reader, strings.Repeat(mark, 14)+"a", "deep 13")
		checkParseShown(t, reader, strings.Repeat(mark+" ", 14)+"a", "deep 26")
		checkParseShown(t, reader, strings.Repeat(mark, 200), "deep 13")
		checkParseShown(t, reader, "(a) "+strings.Repeat(mark, 13)+"a", "deep 17")
	}
}

func TestParseTreeMaxLexemes(t *testing.T) {
	reader := newLexReader()
	for _, unit := range []string{"a ", `"s" `, ";n\n", "()", "[a b c]", "{a b;n\n}", "'a ", "''(a)"} {
		lexemes, _ := reader.readAll(unit)
		text := strings.Repeat(unit, 200/len(lexemes))
		list, code, at := impl.ParseTree(text)
		if checkParsed(t, reader, text) != "fine" || code != 0 || at != -1 || len(list) == 0 {
			t.Errorf("a text of 200 lexemes of %q: %q", unit, textShown(parsedShown(list, code, at)))
		}
		for count := 200 / len(lexemes); count <= 202; count++ {
			longer := strings.Repeat(unit, count)
			_, bad := reader.readAll(longer)
			if bad != -1 && parsedShown(impl.ParseTree(longer)) != fmt.Sprint("lex ", bad) {
				t.Errorf("a text of %d times %q is parsed", count, unit)
			}
		}
		checkParsed(t, reader, text+strings.Repeat(" ", 2000-len(text)))
		checkParseShown(t, reader, text+strings.Repeat(" ", 2001-len(text)), "lex 0")
	}
	list, code, at := impl.ParseTree(strings.Repeat("a ", 200))
	if code != 0 || at != -1 || !slices.Equal(list, slices.Repeat([]impl.Node{{Text: "a"}}, 200)) {
		t.Errorf("200 atoms are parsed as %q", textShown(parsedShown(list, code, at)))
	}
	checkParseShown(t, reader, strings.Repeat("a ", 201), "lex 400")
	checkParseShown(t, reader, strings.Repeat("a ", 199)+")", "shut 398")
	checkParseShown(t, reader, strings.Repeat("a ", 199)+"(", "open 398")
	checkParseShown(t, reader, strings.Repeat("a ", 199)+"'", "quote 398")
	checkParseShown(t, reader, "{"+strings.Repeat("a ", 197)+"}", "odd 395")
	checkParseShown(t, reader, ")"+strings.Repeat("a ", 199), "shut 0")
	checkParseShown(t, reader, ")"+strings.Repeat("a ", 200), "lex 399")
}

// Every way in which LexText fails is told as TreeLex, with its place.
func TestParseTreeLex(t *testing.T) {
	checkAllShown(t, map[string]string{
		`"`:                               "lex 0",
		`a "b`:                            "lex 2",
		`(a "b\"`:                         "lex 3",
		"a\x01":                           "lex 1",
		"\u00e9":                          "lex 0",
		"(a ;n\x01\n)":                    "lex 5",
		";n\tm":                           "lex 2",
		"(\"a\nb\")":                      "lex 3",
		"(" + strings.Repeat("x", 41):     "lex 1",
		"(" + strings.Repeat("x", 40):     "open 0",
		strings.Repeat(" ", 2001):         "lex 0",
		strings.Repeat(" ", 2000):         "",
		strings.Repeat(" ", 1999) + ")":   "shut 1999",
		strings.Repeat(" ", 2000) + ")":   "lex 0",
		strings.Repeat("x", 100000):       "lex 0",
		strings.Repeat("(", 100000):       "lex 0",
		"(a) " + strings.Repeat(")", 300): "lex 201",
	})
}

func TestParseTreeOfAllShortTexts(t *testing.T) {
	reader := newLexReader()
	counts := map[string]int{}
	for bytes, longest := range map[string]int{"a(){}';\n\" ": 5, "a{}'(": 8, "a{}';\n": 7, "([{)]}": 7} {
		longest = oftenOrShort(longest, 4)
		var grow func(text string)
		grow = func(text string) {
			counts[checkParsed(t, reader, text)]++
			if len(text) == longest {
				return
			}
			for i := range len(bytes) {
				grow(text + bytes[i:i+1])
			}
		}
		grow("")
	}
	for _, name := range []string{"fine", "lex", "shut", "open", "quote", "odd"} {
		if counts[name] < oftenOrShort(1000, 10) {
			t.Errorf("only %d short texts are %s", counts[name], name)
		}
	}
}

// randomTreeText closes most of what it opens, so that many texts are trees.
func randomTreeText(r *rand.Rand, lexemes int) string {
	var text strings.Builder
	open := []byte{}
	if r.Intn(4) == 0 {
		open = []byte(strings.Repeat(")", 5+r.Intn(8)))
		text.WriteString(strings.Repeat("(", len(open)))
	}
	for range lexemes {
		next := randomLexeme(r)
		if strings.Contains(")]}", next) && r.Intn(30) > 0 {
			next = ""
		}
		if next == "" && len(open) > 0 {
			next = string(open[len(open)-1])
		}
		switch {
		case next == "":
			continue
		case strings.Contains("([{", next):
			open = append(open, ")]}"[strings.Index("([{", next)])
		case strings.Contains(")]}", next) && len(open) > 0:
			open = open[:len(open)-1]
		}
		text.WriteString(next)
		text.WriteByte(expectedWhite[r.Intn(len(expectedWhite))])
	}
	if r.Intn(10) > 0 {
		slices.Reverse(open)
		text.Write(open)
	}
	return text.String()
}

func TestParseTreeOfRandomTexts(t *testing.T) {
	r := rand.New(rand.NewSource(72))
	reader := newLexReader()
	counts := map[string]int{}
	for range oftenOrShort(20000, 400) {
		counts[checkParsed(t, reader, randomTreeText(r, r.Intn(1+r.Intn(120))))]++
	}
	for _, name := range []string{"fine", "lex", "shut", "open", "quote", "odd", "deep"} {
		if counts[name] < oftenOrShort(50, 1) {
			t.Errorf("only %d random texts are %s: %v", counts[name], name, counts)
		}
	}
}

// One byte more, less or other in texts that have nodes of all Kinds.
func TestParseTreeOfChangedTexts(t *testing.T) {
	reader := newLexReader()
	for _, text := range []string{
		"(a [b] 'c) ;x",
		"{k '(\"v\") ;n\n[] ''{}}",
		"'[a 'b (c ;n\n)] {k v}",
	} {
		for i := 0; i <= len(text); i++ {
			for b := range 128 {
				checkParsed(t, reader, text[:i]+string(rune(b))+text[i:])
				if i < len(text) {
					checkParsed(t, reader, text[:i]+string(rune(b))+text[i+1:])
				}
			}
			checkParsed(t, reader, text[:i])
			checkParsed(t, reader, text[i:])
		}
	}
}

// Nothing is kept: a text that fails leaves the next one as it was.
func TestParseTreeInAnyOrder(t *testing.T) {
	texts := []string{"", "(a 'b)", "(a", ")", "{a}", "'", "\"", strings.Repeat("(", 14), "{a b} ;n", "';n"}
	want := []string{}
	for _, text := range texts {
		want = append(want, parsedShown(impl.ParseTree(text)))
	}
	for i := range texts {
		for k := range texts {
			first, second := parsedShown(impl.ParseTree(texts[i])), parsedShown(impl.ParseTree(texts[k]))
			if first != want[i] || second != want[k] {
				t.Errorf("ParseTree of %q and then of %q: %q, %q", texts[i], texts[k], first, second)
			}
		}
	}
}
