package tests

import (
	"fmt"
	"math/rand"
	"regexp"
	"slices"
	"strings"
	"testing"

	"loop.example/g00829/impl"
)

const expectedWhite = " \t\n\r,"

// lexReader is the document's table once more, written as patterns. The program
// is not asked for anything here.
type lexReader struct {
	atom   *regexp.Regexp
	note   *regexp.Regexp
	begun  *regexp.Regexp
	whole  *regexp.Regexp
	halted *regexp.Regexp
}

func newLexReader() lexReader {
	return lexReader{
		atom: regexp.MustCompile(`^[^ \t\n\r,()\[\]{}";]+`),
		note: regexp.MustCompile(`^;[^\n]*`),
		// A string up to its end, or to the first byte that may not be there.
		begun:  regexp.MustCompile(`^"(?:[ !#-\[\]-~]|\\[ -~])*`),
		whole:  regexp.MustCompile(`^"(?:[ !#-\[\]-~]|\\[ -~])*"`),
		halted: regexp.MustCompile(`^\\?$`),
	}
}

// read gives a lexeme, and where it fails when there is room for it, or -1.
func (l lexReader) read(text string, at int) (impl.Lexeme, int) {
	rest := text[at:]
	switch first := rest[:1]; {
	case strings.Contains("([{", first):
		return impl.Lexeme{Kind: 3, Text: first, At: at}, -1
	case strings.Contains(")]}", first):
		return impl.Lexeme{Kind: 4, Text: first, At: at}, -1
	case first == "'":
		return impl.Lexeme{Kind: 5, Text: first, At: at}, -1
	case first == ";":
		return l.judged(2, strings.TrimRight(l.note.FindString(rest), expectedWhite), at)
	case first == `"`:
		return l.readString(rest, at)
	}
	return l.judged(0, l.atom.FindString(rest), at)
}

// readString fails at the byte that it halts at, unless that is the end.
func (l lexReader) readString(rest string, at int) (impl.Lexeme, int) {
	if whole := l.whole.FindString(rest); whole != "" {
		return l.judged(1, whole, at)
	}
	begun := l.begun.FindString(rest)
	if l.halted.MatchString(rest[len(begun):]) {
		return impl.Lexeme{}, at
	}
	bad := len(begun)
	if rest[bad] == '\\' {
		bad++
	}
	if bad > 40 {
		bad = 0
	}
	return impl.Lexeme{}, at + bad
}

func (l lexReader) judged(kind int, text string, at int) (impl.Lexeme, int) {
	for k := 0; k < len(text) && k <= 40; k++ {
		if text[k] < 32 || text[k] > 126 {
			return impl.Lexeme{}, at + k
		}
	}
	if len(text) > 40 {
		return impl.Lexeme{}, at
	}
	return impl.Lexeme{Kind: kind, Text: text, At: at}, -1
}

func (l lexReader) readAll(text string) ([]impl.Lexeme, int) {
	if len(text) > 2000 {
		return nil, 0
	}
	list := []impl.Lexeme{}
	for at := 0; at < len(text); {
		if strings.Contains(expectedWhite, text[at:at+1]) {
			at++
			continue
		}
		if len(list) == 200 {
			return nil, at
		}
		next, bad := l.read(text, at)
		if bad >= 0 {
			return nil, bad
		}
		list = append(list, next)
		at += len(next.Text)
	}
	return list, -1
}

// lexesShown writes lexemes as the cases below have them, such as
// `atom 0 a | note 2 ;b`, or `fails 3`.
func lexesShown(list []impl.Lexeme, bad int) string {
	if bad != -1 && len(list) == 0 {
		return fmt.Sprintf("fails %d", bad)
	}
	names := []string{"atom", "string", "note", "open", "close", "quote"}
	words := []string{}
	for _, one := range list {
		name := fmt.Sprintf("kind %d", one.Kind)
		if one.Kind >= 0 && one.Kind < len(names) {
			name = names[one.Kind]
		}
		words = append(words, fmt.Sprintf("%s %d %s", name, one.At, one.Text))
	}
	if bad != -1 {
		words = append(words, fmt.Sprintf("and yet fails %d", bad))
	}
	return strings.Join(words, " | ")
}

func checkLexShown(t *testing.T, text string, want string) {
	t.Helper()
	list, bad := impl.LexText(text)
	if got := lexesShown(list, bad); got != want {
		t.Errorf("LexText(%q):\n got %q\nwant %q", textShown(text), textShown(got), textShown(want))
	}
	checkLexPromise(t, text)
}

func checkLexFails(t *testing.T, text string, place int) {
	t.Helper()
	checkLexShown(t, text, fmt.Sprintf("fails %d", place))
}

// checkLexPromise is promise 7, and that each lexeme stands where its At says
// with nothing but white bytes between. It tells whether there was a plain text
// to be read again.
func checkLexPromise(t *testing.T, text string) bool {
	t.Helper()
	list, bad := impl.LexText(text)
	if bad != -1 {
		return false
	}
	end := 0
	for k, one := range list {
		if one.At < end || one.At+len(one.Text) > len(text) || text[one.At:one.At+len(one.Text)] != one.Text {
			t.Fatalf("LexText(%q): the lexeme %d does not stand at %d", textShown(text), k, one.At)
		}
		if ahead := text[end:one.At]; strings.Trim(ahead, expectedWhite) != "" {
			t.Errorf("LexText(%q) passes over %q", textShown(text), ahead)
		}
		end = one.At + len(one.Text)
	}
	if strings.Trim(text[end:], expectedWhite) != "" {
		t.Errorf("LexText(%q) passes over %q", textShown(text), text[end:])
	}
	plain := impl.PlainLex(list)
	if len(plain) > 2000 {
		return false
	}
	again, bad := impl.LexText(plain)
	if bad != -1 || !impl.SameLexes(list, again) || !slices.EqualFunc(list, again, sameButAt) {
		t.Errorf("%q is plainly %q, and that has other lexemes: %q", textShown(text), textShown(plain), textShown(lexesShown(again, bad)))
	}
	if twice := impl.PlainLex(again); twice != plain {
		t.Errorf("%q is plainly %q, and that %q", textShown(text), textShown(plain), textShown(twice))
	}
	return true
}

func sameButAt(a impl.Lexeme, b impl.Lexeme) bool { return a.Kind == b.Kind && a.Text == b.Text }

// checkLex holds LexText against the patterns, and promise 7.
func checkLex(t *testing.T, reader lexReader, text string) bool {
	t.Helper()
	want, wantBad := reader.readAll(text)
	got, bad := impl.LexText(text)
	if bad != wantBad || !slices.Equal(got, want) {
		t.Fatalf("LexText(%q):\n got %q\nwant %q", text, lexesShown(got, bad), lexesShown(want, wantBad))
	}
	return checkLexPromise(t, text)
}

func TestLexConstants(t *testing.T) {
	got := [...]int{impl.MaxInput, impl.MaxLexemes, impl.LexAtom, impl.LexString, impl.LexNote, impl.LexOpen, impl.LexClose, impl.LexQuote}
	if got != [...]int{2000, 200, 0, 1, 2, 3, 4, 5} {
		t.Errorf("constants are %v", got)
	}
}

// lexSamples has lexemes of each Kind.
func lexSamples() [][]string {
	return [][]string{
		{"a", "a-b", "a'b", "a'", `\`, `a\`, "!", "~", "12", "`", "#'x", "a''", "<|>_.:"},
		{`""`, `"a"`, `"b c"`, `"\""`, `"\\"`, `"a\\\"b"`, `"(;',"`, `" "`, `"\a"`, `"~ !"`, `"'"`},
		{";", ";n", ";;", "; a b", `;"`, ";(", ";'", `;\`, ";a,b", ";~!"},
		{"(", "[", "{"},
		{")", "]", "}"},
		{"'"},
	}
}

func TestLexEachKindAlone(t *testing.T) {
	names := []string{"atom", "string", "note", "open", "close", "quote"}
	for kind, samples := range lexSamples() {
		for _, text := range samples {
			checkLexShown(t, text, names[kind]+" 0 "+text)
			for _, ahead := range []string{" ", "\t", "\n", "\r", ",", " ,\r\n\t"} {
				for _, behind := range []string{"", " ", "\t", "\n", "\r", ",", "\t\r,\n ", "\n\n"} {
					checkLexShown(t, ahead+text+behind, fmt.Sprintf("%s %d %s", names[kind], len(ahead), text))
				}
			}
		}
	}
}

func TestLexEachKindAheadOfEach(t *testing.T) {
	names := []string{"atom", "string", "note", "open", "close", "quote"}
	for kind, samples := range lexSamples() {
		for _, first := range samples {
			for other, others := range lexSamples() {
				for _, last := range others {
					checkLexShown(t, first+"\n"+last+"\n"+first, fmt.Sprintf("%s 0 %s | %s %d %s | %s %d %s",
						names[kind], first, names[other], len(first)+1, last, names[kind], len(first)+len(last)+2, first))
				}
			}
		}
	}
}

func TestLexTextsWithoutLexemes(t *testing.T) {
	for _, text := range []string{"", " ", "\t", "\n", "\r", ",", " \t\n\r,", ",,\n\n", strings.Repeat(" ", 2000), strings.Repeat(" \t\n\r,", 400)} {
		list, bad := impl.LexText(text)
		if len(list) != 0 || bad != -1 {
			t.Errorf("LexText(%q) = %q", textShown(text), lexesShown(list, bad))
		}
		checkLexPromise(t, text)
	}
}

func TestLexNotesByHand(t *testing.T) {
	for text, want := range map[string]string{
		";":                 "note 0 ;",
		";\n":               "note 0 ;",
		"; ":                "note 0 ;",
		"; \t\r,":           "note 0 ;",
		"; \t\r,\n":         "note 0 ;",
		";a":                "note 0 ;a",
		";a\n":              "note 0 ;a",
		";a \n":             "note 0 ;a",
		";a \t\r, ":         "note 0 ;a",
		";a,b,, ,\nc":       "note 0 ;a,b | atom 9 c",
		";a\r\nb":           "note 0 ;a | atom 4 b",
		";a b  c \nd":       "note 0 ;a b  c | atom 9 d",
		";a\n;b":            "note 0 ;a | note 3 ;b",
		";a ;b\n":           "note 0 ;a ;b",
		";a\n\n;b":          "note 0 ;a | note 4 ;b",
		"x;a":               "atom 0 x | note 1 ;a",
		"x ;a":              "atom 0 x | note 2 ;a",
		"(;a\n)":            "open 0 ( | note 1 ;a | close 4 )",
		"(;a)":              "open 0 ( | note 1 ;a)",
		"';a\nb":            "quote 0 ' | note 1 ;a | atom 4 b",
		";\"a\n\"b\"":       "note 0 ;\"a | string 4 \"b\"",
		";a\\\nb":           "note 0 ;a\\ | atom 4 b",
		`"x";a`:             `string 0 "x" | note 3 ;a`,
		";a\t":              "note 0 ;a",
		";a\tb":             "fails 2",
		";a\tb\t\n":         "fails 2",
		";a\rb":             "fails 2",
		";a\r\r\nb":         "note 0 ;a | atom 5 b",
		"; \t;\n":           "fails 2",
		";\t\n\tb":          "note 0 ; | atom 4 b",
		";a \t\x01":         "fails 3",
		";a \t\x01 \t\n":    "fails 3",
		";a  \x01  \n":      "fails 4",
		";a \x7f":           "fails 3",
		";\x01":             "fails 1",
		";\x01\n":           "fails 1",
		";\xff":             "fails 1",
		";a\u00e9":          "fails 2",
		";a \u00a0\n":       "fails 3",
		";a\n\x01":          "fails 3",
		";a \t\n\x01":       "fails 5",
		";a\v\n":            "fails 2",
		";a \u2003 \n":      "fails 3",
		"b;a\tc\x01\n":      "fails 3",
		";;a\n; \n;":        "note 0 ;;a | note 4 ; | note 7 ;",
		";~ !\n":            "note 0 ;~ !",
		"a,;b,\n,c":         "atom 0 a | note 2 ;b | atom 7 c",
		"{;k,\n,;v ,\n ,\n": "open 0 { | note 1 ;k | note 6 ;v",
	} {
		checkLexShown(t, text, want)
	}
}

func TestLexStringsByHand(t *testing.T) {
	for text, want := range map[string]string{
		`""`:            `string 0 ""`,
		`"a"`:           `string 0 "a"`,
		`x "a"`:         `atom 0 x | string 2 "a"`,
		`x"a"`:          `atom 0 x | string 1 "a"`,
		`"a"x`:          `string 0 "a" | atom 3 x`,
		`"a""b"`:        `string 0 "a" | string 3 "b"`,
		`"""""a"`:       `string 0 "" | string 2 "" | string 4 "a"`,
		`"a"'b`:         `string 0 "a" | quote 3 ' | atom 4 b`,
		`'"a"`:          `quote 0 ' | string 1 "a"`,
		`("a")`:         `open 0 ( | string 1 "a" | close 4 )`,
		`"a\"b"`:        `string 0 "a\"b"`,
		`"a\\"`:         `string 0 "a\\"`,
		`"a\\"b"c"`:     `string 0 "a\\" | atom 5 b | string 6 "c"`,
		`"a\\\"b"`:      `string 0 "a\\\"b"`,
		`"\n\("`:        `string 0 "\n\("`,
		`"; (a,b) '"`:   `string 0 "; (a,b) '"`,
		`" a "`:         `string 0 " a "`,
		`"\ "`:          `string 0 "\ "`,
		`"~! "`:         `string 0 "~! "`,
		`\"a"`:          `atom 0 \ | string 1 "a"`,
		`\\"a"`:         `atom 0 \\ | string 2 "a"`,
		`"`:             `fails 0`,
		`"a`:            `fails 0`,
		`a "b`:          `fails 2`,
		`"a" "`:         `fails 4`,
		`"""`:           `fails 2`,
		`"\`:            `fails 0`,
		`"a\`:           `fails 0`,
		`"a\"`:          `fails 0`,
		`"a\\`:          `fails 0`,
		`"a\\\"`:        `fails 0`,
		` ("a\"`:        `fails 2`,
		"\"a\tb\"":      `fails 2`,
		"\"a\nb\"":      `fails 2`,
		"\"a\rb\"":      `fails 2`,
		"\"a\nb":        `fails 2`,
		"\"a\x01":       `fails 2`,
		"\"a\x01\"":     `fails 2`,
		"\"\x01":        `fails 1`,
		"\"a\\\x01\"":   `fails 3`,
		"\"a\\\n\"":     `fails 3`,
		"\"a\\\x01":     `fails 3`,
		"\"a\\\\\x01":   `fails 4`,
		"\"a\\\"\x01\"": `fails 4`,
		"\"a\"\x01":     `fails 3`,
		"\"a\"\n":       `string 0 "a"`,
		"\"a\x7f\"":     `fails 2`,
		"\"a\xff\"":     `fails 2`,
		"\"\u00e9\"":    `fails 1`,
		"\"\\\u00e9\"":  `fails 2`,
		"\"a\" \"b\x01": `fails 6`,
		"\"a\n;\"\nb":   `fails 2`,
	} {
		checkLexShown(t, text, want)
	}
}

func TestLexAtomsByHand(t *testing.T) {
	for text, want := range map[string]string{
		"a b":          "atom 0 a | atom 2 b",
		"a\tb":         "atom 0 a | atom 2 b",
		"a\nb":         "atom 0 a | atom 2 b",
		"a\rb":         "atom 0 a | atom 2 b",
		"a,b":          "atom 0 a | atom 2 b",
		"a(b":          "atom 0 a | open 1 ( | atom 2 b",
		"a[b":          "atom 0 a | open 1 [ | atom 2 b",
		"a{b":          "atom 0 a | open 1 { | atom 2 b",
		"a)b":          "atom 0 a | close 1 ) | atom 2 b",
		"a]b":          "atom 0 a | close 1 ] | atom 2 b",
		"a}b":          "atom 0 a | close 1 } | atom 2 b",
		`a"b"`:         `atom 0 a | string 1 "b"`,
		"a;b":          "atom 0 a | note 1 ;b",
		"a'b":          "atom 0 a'b",
		"a'":           "atom 0 a'",
		"a''b'":        "atom 0 a''b'",
		"'a":           "quote 0 ' | atom 1 a",
		"'a'b":         "quote 0 ' | atom 1 a'b",
		"''a":          "quote 0 ' | quote 1 ' | atom 2 a",
		"a 'b":         "atom 0 a | quote 2 ' | atom 3 b",
		"a,'b":         "atom 0 a | quote 2 ' | atom 3 b",
		"(a'(b":        "open 0 ( | atom 1 a' | open 3 ( | atom 4 b",
		"('a)'b":       "open 0 ( | quote 1 ' | atom 2 a | close 3 ) | quote 4 ' | atom 5 b",
		"'":            "quote 0 '",
		"')":           "quote 0 ' | close 1 )",
		"' ,)":         "quote 0 ' | close 3 )",
		"([{}])":       "open 0 ( | open 1 [ | open 2 { | close 3 } | close 4 ] | close 5 )",
		"!~":           "atom 0 !~",
		`a\ b`:         `atom 0 a\ | atom 3 b`,
		`a\(b`:         `atom 0 a\ | open 2 ( | atom 3 b`,
		"a.b-c_d/e":    "atom 0 a.b-c_d/e",
		"a\x01":        "fails 1",
		"a\x01b c":     "fails 1",
		"\x01":         "fails 0",
		"\x01a":        "fails 0",
		"a \x01":       "fails 2",
		"(\x01)":       "fails 1",
		"'\x01":        "fails 1",
		"a)\x01":       "fails 2",
		"a\x7f":        "fails 1",
		"a\x80":        "fails 1",
		"a\xff":        "fails 1",
		"a\u00e9b":     "fails 1",
		"\u00e9":       "fails 0",
		"a\u00a0b":     "fails 1",
		"a\u2028b":     "fails 1",
		"a\vb":         "fails 1",
		"a\x00":        "fails 1",
		"a\ufffd":      "fails 1",
		"ab\x01\x02":   "fails 2",
		"a b\x01 \x02": "fails 3",
		// The low bytes of these are a blank, a byte 10, a comma and a bracket.
		"a\u0120": "fails 1",
		"a\u010a": "fails 1",
		"a\u012c": "fails 1",
		"\u0128a": "fails 0",
		"\u0120a": "fails 0",
		" \u0122": "fails 1",
	} {
		checkLexShown(t, text, want)
	}
}

// Each byte, where it is neither the first nor the last of its lexeme.
func TestLexEachByte(t *testing.T) {
	for b := 0; b < 256; b++ {
		c := string([]byte{byte(b)})
		isBad := b < 32 || b > 126
		isWhite := strings.Contains(expectedWhite, c)
		if isBad {
			checkLexFails(t, `z "a`+c+`b"`, 4)
			checkLexFails(t, `z "a`+c+`b`, 4)
			checkLexFails(t, `z "a\`+c+`b"`, 5)
		}
		if isBad && b != '\n' {
			checkLexFails(t, `z ;a`+c+`b`, 4)
		}
		if isBad && !isWhite {
			checkLexFails(t, `z ;a`+c, 4)
			checkLexFails(t, `z ;a `+c+" \n", 5)
			checkLexFails(t, `z a`+c+`b`, 3)
			checkLexFails(t, `z `+c, 2)
			checkLexFails(t, c, 0)
		}
		if !isBad {
			checkLexShown(t, "z ;a"+c+"b", "atom 0 z | note 2 ;a"+c+"b")
			checkLexShown(t, `z "a\`+c+`b"`, `atom 0 z | string 2 "a\`+c+`b"`)
		}
		if !isBad && b != '"' && b != '\\' {
			checkLexShown(t, `z "a`+c+`b"`, `atom 0 z | string 2 "a`+c+`b"`)
		}
		if !isBad && !strings.Contains(` ,()[]{}";`, c) {
			checkLexShown(t, "z a"+c+"b", "atom 0 z | atom 2 a"+c+"b")
		}
	}
}

// lexemeOf is a lexeme of so many bytes that begins and ends with what is given.
func lexemeOf(first string, size int, last string) string {
	return first + strings.Repeat("x", size-len(first)-len(last)) + last
}

func TestLexMaxText(t *testing.T) {
	for _, ends := range [][2]string{{"", ""}, {`"`, `"`}, {";", ""}} {
		for _, ahead := range []string{"", "z ", " (", "z\n"} {
			for size := 38; size <= 45; size++ {
				for _, behind := range []string{"", "\n", "\n(b)", "\n\x01", "\n\""} {
					text := ahead + lexemeOf(ends[0], size, ends[1])
					list, bad := impl.LexText(text + behind)
					if size > 40 {
						checkLexFails(t, text+behind, len(ahead))
						continue
					}
					if behind == "\n\x01" || behind == "\n\"" {
						checkLexFails(t, text+behind, len(text)+1)
						continue
					}
					if bad != -1 || !slices.ContainsFunc(list, func(one impl.Lexeme) bool { return len(one.Text) == size && one.At == len(ahead) }) {
						t.Errorf("LexText(%q) = %q", text+behind, lexesShown(list, bad))
					}
				}
			}
		}
	}
	note := lexemeOf(";", 40, "")
	checkLexShown(t, note+strings.Repeat(" \t,\r", 50), "note 0 "+note)
	checkLexShown(t, note+strings.Repeat(" \t,\r", 50)+"\n", "note 0 "+note)
	checkLexShown(t, ";a"+strings.Repeat(" ", 37)+"b \t\n", "note 0 ;a"+strings.Repeat(" ", 37)+"b")
	checkLexFails(t, ";a"+strings.Repeat(" ", 38)+"b \t\n", 0)
	checkLexFails(t, `z "`+strings.Repeat("x", 38)+`\""`, 2)
	checkLexShown(t, `"`+strings.Repeat(`\"`, 19)+`"`, `string 0 "`+strings.Repeat(`\"`, 19)+`"`)
	checkLexFails(t, `z "`+strings.Repeat("x", 39), 2)
	checkLexFails(t, `z "`+strings.Repeat("x", 100), 2)
}

// A byte that may not be there is told by its place up to MaxText behind the
// beginning of its lexeme, and by that beginning farther on.
func TestLexBadBytesNearAndFar(t *testing.T) {
	for offset := 1; offset <= 90; offset++ {
		for _, first := range []string{"x", ";", `"`} {
			for _, behind := range []string{"", "y", `y"`, strings.Repeat("y", 60), strings.Repeat("y", 60) + `"`, "\x02"} {
				for _, bad := range []string{"\x01", "\x7f", "\xff", "\u00e9"} {
					text := lexemeOf(first, offset, "") + bad + behind
					want := offset
					if offset > 40 {
						want = 0
					}
					checkLexFails(t, text, want)
					checkLexFails(t, "(z "+text, want+3)
				}
			}
		}
		want := offset
		if offset > 40 {
			want = 0
		}
		// A tab that stands ahead of something else is not at the end of its note.
		checkLexFails(t, lexemeOf(";", offset, "")+"\t"+strings.Repeat(" ", 60)+"y \n", want)
		checkLexFails(t, lexemeOf(`"`, offset, "")+"\t"+strings.Repeat(" ", 60)+`y"`, want)
		if offset > 1 {
			checkLexFails(t, lexemeOf(`"`, offset, `\`)+"\x01\"", want)
		}
	}
}

func TestLexMaxLexemes(t *testing.T) {
	for _, one := range []string{"a", `"s"`, "(", ")", "'", ";n\n"} {
		full := strings.Repeat(one+" ", 200)
		for _, text := range []string{full, full + " \t\n\r,", strings.TrimRight(full, " \n"), " ,\n" + full} {
			list, bad := impl.LexText(text)
			if bad != -1 || len(list) != 200 {
				t.Errorf("LexText of 200 times %q: %d lexemes, %d", one, len(list), bad)
			}
			checkLexPromise(t, text)
		}
		// One more fails where it begins, whatever else is wrong with it.
		for _, more := range []string{"a", "a b", "(", ")", "'", ";", `"b"`, `"b`, "a\x01", "\x01", "\"b\x01\"", ";b\x01", ";b\tc", strings.Repeat("x", 41), strings.Repeat("x", 9) + "\x01"} {
			checkLexFails(t, full+more, len(full))
			checkLexFails(t, full+" ,\t\n"+more, len(full)+4)
		}
		// One that fails ahead of it is told.
		most := strings.Repeat(one+" ", 199)
		checkLexFails(t, most+"a\x01 a a", len(most)+1)
		checkLexFails(t, most+strings.Repeat("x", 41)+" a a", len(most))
		checkLexFails(t, "a\x01 "+full, 1)
	}
	checkLexShown(t, strings.Repeat("(", 201), "fails 200")
	checkLexShown(t, strings.Repeat("'", 2000), "fails 200")
}

func TestLexMaxInput(t *testing.T) {
	atoms := strings.Repeat("x", 9) + strings.Repeat(" "+strings.Repeat("x", 9), 199)
	if len(atoms) != 1999 {
		t.Fatalf("%d bytes", len(atoms))
	}
	for text, want := range map[string]int{
		atoms:                                                -1,
		atoms + " ":                                          -1,
		atoms + "  ":                                         0,
		" " + atoms:                                          -1,
		" " + atoms + " ":                                    0,
		atoms + "xx":                                         0,
		atoms + "\n":                                         -1,
		"a\x01" + strings.Repeat(" ", 1998):                  1,
		"a\x01" + strings.Repeat(" ", 1999):                  0,
		"  \"" + strings.Repeat("x", 1997):                   2,
		"  \"" + strings.Repeat("x", 1998):                   0,
		strings.Repeat(" ", 1999) + "a":                      -1,
		strings.Repeat(" ", 2000) + "a":                      0,
		strings.Repeat(" ", 1999) + "\x01":                   1999,
		strings.Repeat(" ", 2000) + "\x01":                   0,
		strings.Repeat(" ", 1960) + atoms[:9]:                -1,
		strings.Repeat(" ", 1999) + "\"":                     1999,
		strings.Repeat(" ", 1999) + ";":                      -1,
		";" + strings.Repeat(" ", 1999):                      -1,
		";" + strings.Repeat(" ", 2000):                      0,
		strings.Repeat(" ", 2001):                            0,
		strings.Repeat(" ", 100000):                          0,
		strings.Repeat("\x01", 100000):                       0,
		strings.Repeat("\u00e9", 1000):                       0,
		"  " + strings.Repeat("\u00e9", 999):                 2,
		"  " + strings.Repeat("\u00e9", 1000):                0,
		strings.Repeat("(", 200) + strings.Repeat(" ", 1800): -1,
		strings.Repeat("(", 200) + strings.Repeat(" ", 1801): 0,
	} {
		list, bad := impl.LexText(text)
		if bad != want || bad != -1 && len(list) != 0 || bad == -1 && len(list) == 0 {
			t.Errorf("LexText(%q): %d lexemes, %d; want %d", textShown(text), len(list), bad, want)
		}
		checkLexPromise(t, text)
	}
}

func TestLexAllShortTexts(t *testing.T) {
	const bytes = "a(]';\"\\ \n,\x01\xc3"
	reader := newLexReader()
	longest := oftenOrShort(5, 3)
	var grow func(text string)
	grow = func(text string) {
		checkLex(t, reader, text)
		if len(text) == longest {
			return
		}
		for i := 0; i < len(bytes); i++ {
			grow(text + bytes[i:i+1])
		}
	}
	grow("")
}

func randomLexeme(r *rand.Rand) string {
	const inAtoms = "abz019-+*/<>=!?.:'_\\~`#$%&@^|"
	const inStrings = "ab \"\\;,'()~!"
	size := r.Intn(12)
	if r.Intn(12) == 0 {
		size = 30 + r.Intn(11)
	}
	var text strings.Builder
	switch r.Intn(9) {
	case 0:
		return "([{"[r.Intn(3):][:1]
	case 1:
		return ")]}"[r.Intn(3):][:1]
	case 2:
		return "'"
	case 3, 4:
		text.WriteString(`"`)
		for range size / 2 {
			c := inStrings[r.Intn(len(inStrings))]
			if c == '"' || c == '\\' || r.Intn(9) == 0 {
				text.WriteByte('\\')
			}
			text.WriteByte(c)
		}
		return text.String() + `"`
	case 5:
		text.WriteString(";")
		for range size {
			text.WriteByte(inStrings[r.Intn(len(inStrings))])
		}
		return text.String() + "\n"
	}
	for range 1 + size {
		text.WriteByte(inAtoms[r.Intn(len(inAtoms))])
	}
	return text.String()
}

// randomLexText has lexemes with white bytes of every sort between some of them;
// where it is spoilt, one or two bytes of it are others.
func randomLexText(r *rand.Rand, lexemes int, spoilt bool) string {
	var text strings.Builder
	for range lexemes {
		text.WriteString(randomLexeme(r))
		for range r.Intn(3) {
			text.WriteByte(expectedWhite[r.Intn(len(expectedWhite))])
		}
	}
	if !spoilt || text.Len() == 0 {
		return text.String()
	}
	changed := []byte(text.String())
	for range 1 + r.Intn(2) {
		changed[r.Intn(len(changed))] = "\x01\x7f\xe9\"\\;\n\t'( ,"[r.Intn(12)]
	}
	return string(changed)
}

func TestLexRandomTexts(t *testing.T) {
	r := rand.New(rand.NewSource(6))
	reader := newLexReader()
	whole, again, long := 0, 0, 0
	for range oftenOrShort(40000, 400) {
		text := randomLexText(r, r.Intn(1+r.Intn(230)), r.Intn(3) == 0)
		wasRead := checkLex(t, reader, text)
		_, bad := impl.LexText(text)
		switch {
		case wasRead:
			again++
		case bad == -1:
			long++
		}
		if bad == -1 {
			whole++
		}
	}
	if again < whole/2 || whole < oftenOrShort(10000, 100) {
		t.Errorf("%d texts had lexemes, %d were read again, %d were too long", whole, again, long)
	}
}

// One byte more, less or other in texts that have all Kinds.
func TestLexChangedTexts(t *testing.T) {
	reader := newLexReader()
	for _, text := range []string{
		"(a \"b c\" ;n \n'd)",
		"{k \"\\\"\\\\\" ;;x,\r\n [1,'2]}",
		lexemeOf("", 40, "") + lexemeOf(`"`, 40, `"`) + lexemeOf(";", 40, "") + " \n",
	} {
		for i := 0; i <= len(text); i++ {
			for b := 0; b < 256; b++ {
				c := string([]byte{byte(b)})
				checkLex(t, reader, text[:i]+c+text[i:])
				if i < len(text) {
					checkLex(t, reader, text[:i]+c+text[i+1:])
				}
			}
			checkLex(t, reader, text[:i])
			checkLex(t, reader, text[i:])
		}
	}
}

// What is plainly no longer than MaxInput is read again, and what is longer by
// one is not.
func TestLexPromiseAtMaxInput(t *testing.T) {
	exact := strings.Repeat("x", 8) + strings.Repeat(`"`+strings.Repeat("y", 7)+`"`, 199)
	list, bad := impl.LexText(exact)
	if bad != -1 || len(impl.PlainLex(list)) != 1998 {
		t.Fatalf("%d lexemes, %d, plainly %d bytes", len(list), bad, len(impl.PlainLex(list)))
	}
	for more, read := range map[string]bool{"": true, "z": true, "zz": true, "zzz": false} {
		if checkLexPromise(t, more+exact) != read {
			t.Errorf("with %d bytes more it is not %v that it is read again", len(more), read)
		}
	}
	again, bad := impl.LexText(impl.PlainLex(list) + "   ")
	if len(again) != 0 || bad != 0 {
		t.Errorf("a plain text of more than MaxInput bytes has %d lexemes, %d", len(again), bad)
	}
}
