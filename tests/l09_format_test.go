package tests

import (
	"fmt"
	"math"
	"slices"
	"strings"
	"testing"

	"loop.example/g00829/impl"
)

// formNames has the name of each code at its number.
var formNames = []string{"fine", "lex", "shut", "open", "quote", "odd", "deep", "width", "big"}

// readText is a text with what ParseTree should give of it: the nodes, or the
// name of a code and a place.
type readText struct {
	text  string
	list  []impl.Node
	name  string
	place int
}

func readTextOf(reader lexReader, text string) readText {
	list, name, place := expectedParse(reader, text)
	if name == "" {
		name = "fine"
	}
	return readText{text, list, name, place}
}

// expectedStyle looks at the ranges alone.
func expectedStyle(s impl.Style) bool {
	fields, most := fieldsOf(&s)
	for k, number := range fields {
		if *number < 0 || *number > most[k] {
			return false
		}
	}
	return true
}

// expectedForm is the document's sentence, made of what the tests expect of
// trees, tokens and layouts. Nothing is asked of the program.
func expectedForm(p readText, width int, s impl.Style) (text string, name string, place int) {
	if width < 1 || width > 200 || !expectedStyle(s) {
		return "", "width", -1
	}
	if p.name != "fine" {
		return "", p.name, p.place
	}
	list := expectedTokens(s, p.list)
	if len(list) > 400 || expectedDepth(list) > 12 {
		return "", "big", -1
	}
	if len(p.list) == 0 {
		return "", "fine", -1
	}
	return expectedLayout(width, list, expectedOf(list).sizes).text + "\n", "fine", -1
}

// formShown writes what Format answers: the text, or a code and a place.
func formShown(text string, code int, at int) string {
	if code == 0 && at == -1 {
		return text
	}
	name := fmt.Sprintf("code %d", code)
	if code >= 0 && code < len(formNames) {
		name = formNames[code]
	}
	if text != "" {
		name += " and yet " + text
	}
	return fmt.Sprint(name, " ", at)
}

// checkForm holds Format against what is expected, and the functions that ask
// it, too. It gives the name of the code.
func checkForm(t *testing.T, p readText, width int, s impl.Style) string {
	t.Helper()
	want, name, place := expectedForm(p, width, s)
	got, code, at := impl.Format(p.text, width, s)
	if got != want || code != slices.Index(formNames, name) || at != place {
		t.Fatalf("Format(%q, %d, %v) is %q, want %q, %s %d", textShown(p.text), width, s, textShown(formShown(got, code, at)), textShown(want), name, place)
	}
	if isFormatted := name == "fine" && want == p.text; impl.IsFormatted(p.text, width, s) != isFormatted {
		t.Fatalf("IsFormatted(%q, %d, %v) is not %v", textShown(p.text), width, s, isFormatted)
	}
	if name == "fine" {
		checkFormPromise(t, p.text, width, s, got)
		return name
	}
	checkNoForm(t, p.text, width, s)
	return name
}

// checkNoForm expects the answers for what is not formatted.
func checkNoForm(t *testing.T, text string, width int, s impl.Style) {
	t.Helper()
	if impl.IsFormatted(text, width, s) {
		t.Fatalf("IsFormatted(%q, %d, %v) is true", textShown(text), width, s)
	}
	if twice, ok := impl.FormatTwice(text, width, s); ok || twice != "" {
		t.Fatalf("FormatTwice(%q, %d, %v) = %q, %v", textShown(text), width, s, textShown(twice), ok)
	}
	for _, k := range []int{math.MinInt, -1, 0, 1, 3, 400, math.MaxInt} {
		if early, ok := impl.FormatPrefix(text, width, s, k); ok || early != "" {
			t.Fatalf("FormatPrefix(%q, %d, %v, %d) = %q, %v", textShown(text), width, s, k, textShown(early), ok)
		}
	}
}

// checkFormPromise is promise 10 for what Format gave, with nothing that is
// expected of it: in the same width, and in some others and another style.
func checkFormPromise(t *testing.T, text string, width int, s impl.Style, got string) {
	t.Helper()
	if strings.Contains("\n"+got, " \n") || (got != "") != strings.HasSuffix(got, "\n") {
		t.Fatalf("Format(%q, %d, %v) is %q: the end of a line is wrong", textShown(text), width, s, textShown(got))
	}
	if len(got) > 2000 {
		checkTooLongAgain(t, text, width, s, got)
		return
	}
	if !impl.SameMeaning(text, got) || !impl.SameMeaning(got, text) || !impl.IsFormatted(got, width, s) {
		t.Fatalf("Format(%q, %d, %v) is %q, which means something else or is not formatted", textShown(text), width, s, textShown(got))
	}
	if twice, ok := impl.FormatTwice(text, width, s); !ok || twice != got {
		t.Fatalf("FormatTwice(%q, %d, %v) = %q, %v, but Format is %q", textShown(text), width, s, textShown(twice), ok, textShown(got))
	}
	turned := impl.Style{Round: 3 - s.Round, Square: 3 - s.Curly, Curly: 3 - s.Square, Head: 3 - s.Head}
	for other, style := range map[int]impl.Style{1: s, 200: turned, 2 + (7*width+len(text))%198: s} {
		first := formShown(impl.Format(text, other, style))
		if again := formShown(impl.Format(got, other, style)); again != first {
			t.Fatalf("%q is formatted in %d as %q, which is in %d %v %q, not %q", textShown(text), width, textShown(got), other, style, textShown(again), textShown(first))
		}
	}
	before, at := impl.Squeeze(text)
	if behind, place := impl.Squeeze(got); before != behind || at != -1 || place != -1 {
		t.Fatalf("Squeeze of %q is %q, %d, and of its format %q, %d", textShown(text), textShown(before), at, textShown(behind), place)
	}
}

// checkTooLongAgain is for a format that is longer than an input may be.
func checkTooLongAgain(t *testing.T, text string, width int, s impl.Style, got string) {
	t.Helper()
	if again := formShown(impl.Format(got, width, s)); again != "lex 0" {
		t.Fatalf("Format of %d bytes is %q", len(got), textShown(again))
	}
	if twice, ok := impl.FormatTwice(text, width, s); ok || twice != "" {
		t.Fatalf("FormatTwice(%q, %d, %v) = %q, %v, but Format has %d bytes", textShown(text), width, s, textShown(twice), ok, len(got))
	}
	if impl.IsFormatted(got, width, s) || impl.SameMeaning(text, got) || impl.SameMeaning(got, text) {
		t.Fatalf("a text of %d bytes is formatted or means something", len(got))
	}
}

// checkFormShown takes a style, a width, a text and what Format gives of it, or
// the name of a code and a place.
func checkFormShown(t *testing.T, style string, width int, text string, want string) {
	t.Helper()
	s := styleOf(t, style)
	checkForm(t, readTextOf(newLexReader(), text), width, s)
	if got := formShown(impl.Format(text, width, s)); got != want {
		t.Errorf("Format(%q, %d, %s) is\n%s\nwant\n%s", textShown(text), width, style, textShown(got), textShown(want))
	}
}

func TestFormConstants(t *testing.T) {
	if got := [...]int{impl.FormOk, impl.FormWidth, impl.FormBig}; got != [...]int{0, 7, 8} {
		t.Errorf("constants are %v", got)
	}
}

func TestFormatByHand(t *testing.T) {
	const text = `(define (f x "s t") [1 22 333] {k v, key 'value} ''(q))`
	for _, c := range []struct {
		style string
		width int
		want  string
	}{
		{"2 1 1 1 0", 200, "(define (f x \"s t\") [1 22 333] {k v key 'value} ''(q))\n"},
		{"2 1 1 1 0", 54, "(define (f x \"s t\") [1 22 333] {k v key 'value} ''(q))\n"},
		{"2 1 1 1 0", 53, "(define (f x \"s t\") [1 22 333] {k v key 'value}\n  ''(q))\n"},
		{"2 1 1 1 0", 20, "(define (f x \"s t\")\n  [1 22 333]\n  {k v key 'value}\n  ''(q))\n"},
		{"2 1 1 1 0", 18, "(define\n    (f x \"s t\")\n  [1 22 333]\n  {k v key 'value}\n  ''(q))\n"},
		{"2 1 1 1 0", 17, "(define\n    (f x \"s t\")\n  [1 22 333]\n  {k\n    v\n   key\n    'value}\n  ''(q))\n"},
		{"2 1 1 1 0", 1, "(define\n    (f\n        x\n      \"s t\")\n  [1\n   22\n   333]\n  {k\n    v\n   key\n    'value}\n  ''(q))\n"},
		{"3 0 2 0 0", 20, "(define\n  (f x \"s t\")\n  [1 22 333]\n  {k v key 'value}\n  ''(q))\n"},
		{"1 0 2 0 0", 16, "(define\n (f x \"s t\")\n [1 22 333]\n {k v key\n    'value}\n ''(q))\n"},
		{"0 0 0 3 1", 9, "(define\n   (f x\n      \"s t\")\n   [1 22\n    333]\n   {k v\n    key\n     'value}\n ''(q))\n"},
	} {
		checkFormShown(t, c.style, c.width, text, c.want)
	}
}

func TestFormatOfSingleNodes(t *testing.T) {
	for text, want := range map[string]string{
		"a":                         "a\n",
		" a\n":                      "a\n",
		`"s  t"`:                    "\"s  t\"\n",
		";n":                        ";n\n",
		";n , ,\n":                  ";n\n",
		"; n":                       "; n\n",
		"'a":                        "'a\n",
		"' a":                       "'a\n",
		"' '\n'a":                   "'''a\n",
		`'"s"`:                      "'\"s\"\n",
		"()":                        "()\n",
		"( )":                       "()\n",
		"[ ]":                       "[]\n",
		"{ , }":                     "{}\n",
		"'( )":                      "'()\n",
		"( a )":                     "(a)\n",
		"([{}])":                    "([{}])\n",
		"'[ 'a ]":                   "'['a]\n",
		lexemeOf("", 40, ""):        lexemeOf("", 40, "") + "\n",
		lexemeOf(`"`, 40, `"`):      lexemeOf(`"`, 40, `"`) + "\n",
		lexemeOf(";", 40, "") + " ": lexemeOf(";", 40, "") + "\n",
	} {
		for _, style := range []string{"2 1 1 1 0", "0 0 0 0 0", "3 3 3 3 1", "1 2 3 2 1"} {
			for _, width := range []int{1, 2, 3, 40, 200} {
				checkFormShown(t, style, width, text, want)
			}
		}
	}
}

func TestFormatOfNodesOfDepthZero(t *testing.T) {
	for text, want := range map[string]string{
		"a b":               "a|b|",
		"a\n\n\nb":          "a|b|",
		"a b c":             "a|b|c|",
		"a ;n":              "a|;n|",
		";n\na":             ";n|a|",
		";n\n;m":            ";n|;m|",
		"a;n\nb":            "a|;n|b|",
		"'a 'b":             "'a|'b|",
		"()()":              "()|()|",
		"(a)[b]{}":          "(a)|[b]|{}|",
		`"s""t"`:            `"s"|"t"|`,
		"(a)'(b) ;n\n''[c]": "(a)|'(b)|;n|''[c]|",
	} {
		for _, width := range []int{1, 3, 200} {
			checkFormShown(t, "2 1 1 1 0", width, text, strings.ReplaceAll(want, "|", "\n"))
			one, _ := strings.CutSuffix(want, "|")
			checkFormShown(t, "2 1 1 1 1", width, text, strings.ReplaceAll(one, "|", "\n\n")+"\n")
		}
	}
}

// A note ends its line, whatever the width: no block with one fits.
func TestFormatOfNotes(t *testing.T) {
	for text, want := range map[string]string{
		"(;n\n)":                   "(;n\n  )\n",
		"[;n\n]":                   "[;n\n ]\n",
		"{;n\n}":                   "{;n\n }\n",
		"(a ;n\n)":                 "(a ;n\n  )\n",
		"(a ;n\n b c)":             "(a ;n\n  b c)\n",
		"[a b ;n\n c]":             "[a\n b\n ;n\n c]\n",
		"{;n\n k v}":               "{;n\n k\n  v}\n",
		"{k ;n\n v}":               "{k\n  ;n\n v}\n",
		"(a [b ;n\n] c)":           "(a\n    [b\n     ;n\n     ] c)\n",
		"(a (b c) ;n\n;m\n [d e])": "(a (b c) ;n\n  ;m\n  [d e])\n",
		"'(;n\n a)":                "'(;n\n   a)\n",
		"((a ;n\n))":               "((a ;n\n   ))\n",
		"(a b ;n\";n)":             "open 0",
	} {
		checkFormShown(t, "2 1 1 1 0", 60, text, want)
		checkFormShown(t, "2 1 1 1 1", 200, text, want)
	}
}
