package tests

import (
	"math/rand"
	"slices"
	"strings"
	"testing"

	"loop.example/g00829/impl"
)

// expectedPlainTree is what is printed plainly of a tree, lexeme by lexeme.
func expectedPlainTree(list []impl.Node) string {
	plain, glued := "", true
	for _, one := range expectedLexemes(list) {
		if !glued && one.Kind != 4 {
			plain += " "
		}
		plain += one.Text
		glued = one.Kind == 3 || one.Kind == 5
		if one.Kind == 2 {
			plain, glued = plain+"\n", true
		}
	}
	return strings.TrimSuffix(plain, "\n")
}

// checkSqueeze holds Squeeze against what is expected.
func checkSqueeze(t *testing.T, p readText) {
	t.Helper()
	want, place := "", p.place
	if p.name == "fine" && len(p.list) > 0 {
		want = expectedPlainTree(p.list) + "\n"
	}
	got, at := impl.Squeeze(p.text)
	if got != want || at != place {
		t.Fatalf("Squeeze(%q) = %q, %d, want %q, %d", textShown(p.text), textShown(got), at, textShown(want), place)
	}
	if p.name != "fine" || len(got) > 2000 {
		return
	}
	if again, at := impl.Squeeze(got); again != got || at != -1 || !impl.SameMeaning(p.text, got) || !impl.SameMeaning(got, p.text) {
		t.Fatalf("Squeeze(%q) = %q, which is squeezed to %q or means something else", textShown(p.text), textShown(got), textShown(again))
	}
}

func TestSqueezeByHand(t *testing.T) {
	for text, want := range map[string]string{
		"":                      "",
		" ,\n":                  "",
		"a":                     "a\n",
		"( a )":                 "(a)\n",
		"a  b":                  "a b\n",
		"a\nb\n":                "a b\n",
		"(a)(b)":                "(a) (b)\n",
		"( a [ b ] { c , d } )": "(a [b] {c d})\n",
		"' a":                   "'a\n",
		"' ( ' 'a )":            "'(''a)\n",
		`"s"'"t"`:               "\"s\" '\"t\"\n",
		";n":                    ";n\n",
		";n ,\n":                ";n\n",
		";n\n\n;m\n":            ";n\n;m\n",
		"a;n\nb":                "a ;n\nb\n",
		"(;n\n)":                "(;n\n)\n",
		"(a;n\n)":               "(a ;n\n)\n",
		"[a ;n\n b]c":           "[a ;n\nb] c\n",
		"(\n  a\n  b)\n":        "(a b)\n",
		`(" a  b ")`:            "(\" a  b \")\n",
		"((()))":                "((()))\n",
		"() ()":                 "() ()\n",
		"{}[]":                  "{} []\n",
	} {
		checkSqueeze(t, readTextOf(newLexReader(), text))
		if got, at := impl.Squeeze(text); got != want || at != -1 {
			t.Errorf("Squeeze(%q) = %q, %d, want %q", text, got, at, want)
		}
	}
}

// What gives no stream is squeezed all the same: the style has no part in it.
func TestSqueezeOfFaultyTexts(t *testing.T) {
	reader := newLexReader()
	for text, fault := range faultyTexts() {
		p := readTextOf(reader, text)
		checkSqueeze(t, p)
		if _, at := impl.Squeeze(text); (at == -1) != strings.HasPrefix(fault, "big") {
			t.Errorf("Squeeze(%q) is told at %d", textShown(text), at)
		}
	}
	deep := strings.Repeat("(", 13) + strings.Repeat(")", 13)
	if got, at := impl.Squeeze(deep); got != deep+"\n" || at != -1 {
		t.Errorf("Squeeze(%q) = %q, %d", deep, got, at)
	}
}

// Strings that stand close are more bytes when they are parted.
func TestSqueezeToMoreThanMaxInput(t *testing.T) {
	one := lexemeOf(`"`, 40, `"`)
	for _, count := range []int{1, 2, 48, 49, 50} {
		text := strings.Repeat(one, count)
		p := readTextOf(newLexReader(), text)
		checkSqueeze(t, p)
		got, at := impl.Squeeze(text)
		if len(got) != 41*count || at != -1 {
			t.Errorf("Squeeze of %d strings has %d bytes, %d", count, len(got), at)
		}
		again, at := impl.Squeeze(got)
		if isRead := count < 49; (again == got && at == -1) != isRead || (again == "" && at == 0) == isRead || impl.SameMeaning(text, got) != isRead {
			t.Errorf("Squeeze of %d bytes is %q, %d", len(got), textShown(again), at)
		}
	}
}

// Texts of one row mean the same, those of two rows do not.
func TestSameMeaning(t *testing.T) {
	rows := [][]string{
		{"", " ", "\n,\t\r", strings.Repeat(" ", 2000)},
		{"a", " a", "a\n", ",a,", "a" + strings.Repeat(" ", 1999)},
		{"b"}, {"A"}, {"a'"}, {`"a"`}, {";a", ";a\n", ";a , \n "}, {"; a"}, {";;a"}, {"'a", "' a", "'\n\na"}, {"''a", "' 'a"}, {"aa"}, {"a:"},
		{"a a", "a\na", "a,a", "a\n\n\na\n"}, {"a b"}, {"b a"}, {"ab"}, {"a b c"},
		{"(a)", "( a )", "(a\n)", "(,a,)"}, {"[a]", "[ a ]"}, {"((a))"}, {"([a])"}, {"([a ])b", "([a]) b"}, {"([a] b)"}, {"()", "( )"}, {"[]"}, {"{}", "{\n}"}, {"() a"}, {"a ()", "a()"},
		{"'(a)", "'( a)"}, {"('a)", "(' a)"}, {"{a b}", "{a,b}"}, {"{b a}"}, {"{a b c d}"}, {"(a b)"}, {"{'a b}"}, {"{a 'b}"},
		{"(a ;n\n)", "(a;n\n)", "(a;n  \n\n )"}, {"(a ;m\n)"}, {"(;n\na)"}, {"(a) ;n"}, {"(a) ;n)"}, {"a ;n", "a;n\n"}, {";n\na", ";n\n\na "},
		{`" "`}, {`"  "`}, {`""`}, {`"\""`}, {`"\\"`}, {`"a" "b"`, `"a""b"`}, {`"a b"`},
		{strings.Repeat("a ", 200), strings.Repeat("a\n", 200)}, {strings.Repeat("a ", 199)},
		{strings.Repeat("(", 13) + strings.Repeat(")", 13), strings.Repeat("( ", 13) + strings.Repeat(" )", 13)}, {strings.Repeat("(", 12) + strings.Repeat(")", 12)},
		{strings.Repeat("()", 100), strings.Repeat("( ) ", 100)}, {strings.Repeat("()", 99)},
	}
	for i, row := range rows {
		for k, other := range rows {
			for _, a := range row {
				for _, b := range other {
					if got := impl.SameMeaning(a, b); got != (i == k) {
						t.Errorf("SameMeaning(%q, %q) = %v", textShown(a), textShown(b), got)
					}
				}
			}
		}
	}
}

// A text that is not parsed means nothing, not even what it means itself.
func TestSameMeaningOfFaultyTexts(t *testing.T) {
	faulty := []string{}
	for text, fault := range faultyTexts() {
		if strings.HasPrefix(fault, "big") {
			if !impl.SameMeaning(text, text) || !impl.SameMeaning(text, " "+text+"\n") {
				t.Errorf("%q does not mean what it means", text)
			}
			continue
		}
		faulty = append(faulty, text)
	}
	for _, a := range faulty {
		for _, b := range append(faulty, "", " ", "a", "(a)", a+" ") {
			if impl.SameMeaning(a, b) || impl.SameMeaning(b, a) {
				t.Errorf("%q and %q mean the same", textShown(a), textShown(b))
			}
		}
	}
}

// checkChangedForm takes a text that is formatted but for a change: it is
// formatted no more, unless the change gave it another meaning.
func checkChangedForm(t *testing.T, formatted string, changed string, width int, s impl.Style) (same bool) {
	t.Helper()
	if changed == formatted {
		return false
	}
	same = impl.SameMeaning(changed, formatted)
	got, code, _ := impl.Format(changed, width, s)
	isFormatted := impl.IsFormatted(changed, width, s)
	if same && (isFormatted || got != formatted) || isFormatted != (code == 0 && got == changed) {
		t.Fatalf("%q is in %d %v formatted: %v, and %q; it is %q that is", textShown(changed), width, s, isFormatted, textShown(got), textShown(formatted))
	}
	return same
}

type formattedText struct {
	text  string
	width int
	s     impl.Style
}

// formattedTexts has texts as Format should give them.
func formattedTexts(t *testing.T) []formattedText {
	list := []formattedText{}
	for _, text := range []string{"a", "a b", "(aa bb cc)", "(a ;n\n 'b) \"s  t\"", "{k v, key [1 2 3]} ;n", "(f (g x y) [1 {a b}]) ''(z)"} {
		for k, style := range []string{"2 1 1 1 0", "0 0 0 2 1", "3 2 3 0 0"} {
			s := styleOf(t, style)
			for _, width := range []int{1, 6 + k, 60} {
				want, _, _ := expectedForm(readTextOf(newLexReader(), text), width, s)
				list = append(list, formattedText{want, width, s})
			}
		}
	}
	return list
}

// One byte more, less or other, at each place: a blank, the end of a line, or
// the byte 10 at the end of the text.
func TestIsFormattedButForOneByte(t *testing.T) {
	same := 0
	for _, one := range formattedTexts(t) {
		text := one.text
		if !impl.IsFormatted(text, one.width, one.s) {
			t.Fatalf("%q is not formatted in %d %v", text, one.width, one.s)
		}
		changed := []string{text + text, strings.TrimSuffix(text, "\n"), strings.ReplaceAll(text, "\n", "\r\n"), strings.ReplaceAll(text, "\n", " ")}
		for i := range len(text) + 1 {
			for _, b := range []string{" ", "\n", "\t", ",", "\r", "x", "\x00"} {
				changed = append(changed, text[:i]+b+text[i:])
				if i < len(text) {
					changed = append(changed, text[:i]+b+text[i+1:])
				}
			}
			changed = append(changed, text[:i])
			if i < len(text) {
				changed = append(changed, text[:i]+text[i+1:])
			}
		}
		for _, other := range changed {
			if checkChangedForm(t, text, other, one.width, one.s) {
				same++
			}
		}
	}
	if same < 3000 {
		t.Errorf("only %d of the changed texts mean the same", same)
	}
}

func TestIsFormattedByHand(t *testing.T) {
	for text, want := range map[string]bool{
		"":                     true,
		" ":                    false,
		"\n":                   false,
		"a":                    false,
		"a\n":                  true,
		"a\n\n":                false,
		"a \n":                 false,
		" a\n":                 false,
		"a\nb\n":               true,
		"a\n\nb\n":             false,
		"a b\n":                false,
		"a\nb":                 false,
		"(a b)\n":              true,
		"(a b)":                false,
		"(a  b)\n":             false,
		"(a,b)\n":              false,
		"(a\n    b)\n":         false,
		"( a b)\n":             false,
		"(a b )\n":             false,
		"(aa\n    bb)\n":       true,
		"(aa\n  bb)\n":         false,
		"(aa bb)\n":            false,
		"(aa bb\n  cc)\n":      true,
		"(aa bb\n cc)\n":       false,
		"(aa bb cc)\n":         false,
		"(aa\n    bb\n  cc)\n": false,
		"[aa\n bb\n cc]\n":     true,
		"[aa bb\n cc]\n":       false,
		"(a ;n\n  )\n":         true,
		"(a ;n\n)\n":           false,
		";n\n":                 true,
		";n \n":                false,
		";n":                   false,
		"(":                    false,
		"{a}\n":                false,
	} {
		if got := impl.IsFormatted(text, 6, impl.DefaultStyle()); got != want {
			t.Errorf("IsFormatted(%q) in 6 is %v", text, got)
		}
	}
	if !impl.IsFormatted("a\n\nb\n", 6, impl.Style{Gap: 1}) || impl.IsFormatted("a\nb\n", 6, impl.Style{Gap: 1}) || impl.IsFormatted("a\n\n\nb\n", 6, impl.Style{Gap: 1}) {
		t.Errorf("IsFormatted with Gap 1 is wrong")
	}
}

// A format is the longest input, or longer by one.
func TestFormatTwiceAtMaxInput(t *testing.T) {
	deep := strings.Repeat("(", 12)
	ends := strings.Repeat(")", 12)
	for _, one := range []struct {
		name  string
		text  func(last string) string
		width int
		s     impl.Style
	}{
		{"atoms", func(last string) string { return strings.Repeat(strings.Repeat("x", 40)+" ", 48) + last }, 40, impl.DefaultStyle()},
		{"a block", func(last string) string { return "[" + strings.Repeat(strings.Repeat("x", 37)+" ", 51) + last + "]" }, 90, impl.DefaultStyle()},
		{"deep", func(last string) string { return deep + strings.Repeat("a ", 131) + last + ends }, 1, impl.Style{Round: 3}},
	} {
		before := 0
		for size := 1; size <= 40 && len(one.text(""))+size <= 2000; size++ {
			text := one.text(strings.Repeat("y", size))
			got, code, _ := impl.Format(text, one.width, one.s)
			twice, ok := impl.FormatTwice(text, one.width, one.s)
			if code != 0 || ok != (len(got) <= 2000) || ok && twice != got || !ok && twice != "" {
				t.Errorf("%s: Format has %d bytes, and FormatTwice is %q, %v", one.name, len(got), textShown(twice), ok)
			}
			if impl.IsFormatted(got, one.width, one.s) != ok || impl.SameMeaning(text, got) != ok {
				t.Errorf("%s: that a text of %d bytes is formatted is not %v", one.name, len(got), ok)
			}
			checkForm(t, readTextOf(newLexReader(), text), one.width, one.s)
			if before == 2000 && len(got) == 2001 {
				before = -1
			}
			if before >= 0 {
				before = len(got)
			}
		}
		if before != -1 {
			t.Errorf("%s: no format has just 2000 bytes", one.name)
		}
	}
}

func TestFormatTwiceByHand(t *testing.T) {
	for text, want := range map[string]string{
		"":               "",
		"\n":             "",
		"a":              "a\n",
		"(aa  bb cc)":    "(aa bb\n  cc)\n",
		"a;n\n'(b )":     "a\n;n\n'(b)\n",
		"[a ;n\n]":       "[a\n ;n\n ]\n",
		"{a bcd e f}(g)": "{a\n  bcd\n e\n  f}\n(g)\n",
	} {
		if got, ok := impl.FormatTwice(text, 6, impl.DefaultStyle()); !ok || got != want {
			t.Errorf("FormatTwice(%q) = %q, %v, want %q", text, got, ok, want)
		}
	}
}

// Random texts with what all functions of texts should give of them.
func TestSqueezeAndSameMeaningOfRandomTexts(t *testing.T) {
	r := rand.New(rand.NewSource(90))
	reader := newLexReader()
	var last readText
	parsed, same := 0, 0
	for range oftenOrShort(8000, 200) {
		p := readTextOf(reader, randomTreeText(r, r.Intn(1+r.Intn(60))))
		checkSqueeze(t, p)
		want := p.name == "fine" && last.name == "fine" && slices.Equal(p.list, last.list)
		if impl.SameMeaning(p.text, last.text) != want || impl.SameMeaning(last.text, p.text) != want {
			t.Fatalf("SameMeaning(%q, %q) is not %v", textShown(p.text), textShown(last.text), want)
		}
		if impl.SameMeaning(p.text, p.text) != (p.name == "fine") {
			t.Fatalf("SameMeaning(%q) with itself is wrong", textShown(p.text))
		}
		if p.name == "fine" {
			parsed++
		}
		if want {
			same++
		}
		last = p
	}
	if parsed < oftenOrShort(2500, 50) || same < oftenOrShort(5, 0) {
		t.Errorf("%d texts are parsed, %d mean the same as the one ahead", parsed, same)
	}
}
