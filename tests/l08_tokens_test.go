package tests

import (
	"fmt"
	"math/rand"
	"slices"
	"strings"
	"testing"

	"loop.example/g00829/impl"
)

// everyStyle has all styles that there are.
func everyStyle() []impl.Style {
	styles := []impl.Style{}
	for n := range 4 * 4 * 4 * 4 * 2 {
		styles = append(styles, impl.Style{Round: n % 4, Square: n / 4 % 4, Curly: n / 16 % 4, Head: n / 64 % 4, Gap: n / 256})
	}
	return styles
}

// openNode is a node whose children are being read: how many there were, how
// many of them are no notes, and the Kind of the last one.
type openNode struct {
	kind  int
	count int
	plain int
	last  int
}

// partAhead gives what stands ahead of the next child, or of the closing
// bracket when there is none.
func (o openNode) partAhead(s impl.Style, closing bool) []impl.Token {
	switch {
	case o.kind == 6 || o.count == 0:
		return nil
	case o.last == 2:
		return []impl.Token{{Kind: 4}}
	case closing:
		return nil
	case o.kind == 5 && o.plain%2 == 1:
		return []impl.Token{{Kind: 1, Width: 1, Off: 1}}
	case o.kind == 3 && (s.Round == 0 || s.Round == 2) && o.count <= s.Head:
		return []impl.Token{{Kind: 1, Width: 1, Off: 2}}
	}
	return []impl.Token{{Kind: 1, Width: 1}}
}

func (o openNode) closed(s impl.Style) []impl.Token {
	if o.kind == 6 {
		return nil
	}
	return append(o.partAhead(s, true), impl.Token{Text: ")]}"[o.kind-3:][:1]}, impl.Token{Kind: 3})
}

func expectedBegin(s impl.Style, kind int) impl.Token {
	laid := []int{s.Round, s.Square, s.Curly}[kind-3]
	return []impl.Token{{Kind: 2, Off: 1}, {Kind: 2, Width: 1, Off: 1}, {Kind: 2, Off: 2}, {Kind: 2, Width: 1, Off: 2}}[laid]
}

// expectedTokens goes from place to place with a stack of open nodes, and looks
// at what stands ahead of each node, where the document looks behind it.
func expectedTokens(s impl.Style, list []impl.Node) []impl.Token {
	out, open := []impl.Token{}, []openNode{}
	shut := func(depth int) {
		for len(open) > depth {
			out = append(out, open[len(open)-1].closed(s)...)
			open = open[:len(open)-1]
		}
	}
	for i, n := range list {
		shut(n.Depth)
		if n.Depth > 0 {
			over := &open[n.Depth-1]
			out = append(out, over.partAhead(s, false)...)
			over.count, over.last = over.count+1, n.Kind
			if n.Kind != 2 {
				over.plain++
			}
		} else if i > 0 {
			out = append(out, repeated(impl.Token{Kind: 4}, 1+s.Gap)...)
		}
		switch {
		case n.Kind < 3:
			out = append(out, impl.Token{Text: n.Text})
		case n.Kind == 6:
			out = append(out, impl.Token{Text: "'"})
		default:
			out = append(out, expectedBegin(s, n.Kind), impl.Token{Text: "([{"[n.Kind-3:][:1]})
		}
		if n.Kind >= 3 {
			open = append(open, openNode{kind: n.Kind})
		}
	}
	shut(0)
	return out
}

// expectedDepth is the greatest number of blocks that are open.
func expectedDepth(list []impl.Token) int {
	open, most := 0, 0
	for _, k := range list {
		switch k.Kind {
		case 2:
			open++
		case 3:
			open--
		}
		most = max(most, open)
	}
	return most
}

// styledTree is a tree with what is the same in all styles.
type styledTree struct {
	list  []impl.Node
	texts []string
}

func styled(list []impl.Node) styledTree {
	tree := styledTree{list: list}
	for _, one := range expectedLexemes(list) {
		tree.texts = append(tree.texts, one.Text)
	}
	return tree
}

// checkStyled holds TokensOf of a tree against what is expected, and promise 9.
// It tells whether a stream came of it.
func checkStyled(t *testing.T, s impl.Style, tree styledTree) bool {
	t.Helper()
	want := expectedTokens(s, tree.list)
	got, ok := impl.TokensOf(s, tree.list)
	if len(want) > 400 || expectedDepth(want) > 12 {
		if ok || len(got) != 0 {
			t.Fatalf("TokensOf(%v, %q) = %s, %v, but that is no stream", s, shownNodes(tree.list), tokensShown(got), ok)
		}
		return false
	}
	if !ok || !slices.Equal(got, want) {
		t.Fatalf("TokensOf(%v, %q) =\n%s, %v, want\n%s", s, shownNodes(tree.list), tokensShown(got), ok, tokensShown(want))
	}
	checkStyledPromise(t, s, tree, got)
	return true
}

// checkStyledPromise is promise 9, with nothing that is expected of TokensOf.
func checkStyledPromise(t *testing.T, s impl.Style, tree styledTree, list []impl.Token) {
	t.Helper()
	texts, begins := []string{}, 0
	for _, k := range list {
		switch k.Kind {
		case impl.TokText:
			texts = append(texts, k.Text)
		case impl.TokBegin:
			begins++
		}
	}
	if !impl.StreamOk(list) || !slices.Equal(texts, tree.texts) {
		t.Fatalf("TokensOf(%v, %q) = %s, which is no stream or has other Texts than %q", s, shownNodes(tree.list), tokensShown(list), tree.texts)
	}
	if got := impl.TextOnly(list); got != strings.Join(tree.texts, "") {
		t.Fatalf("TextOnly(%s) = %q", tokensShown(list), textShown(got))
	}
	if got := impl.CountBlocks(tree.list); got != begins {
		t.Fatalf("CountBlocks(%q) = %d, but there are %d TokBegins", shownNodes(tree.list), got, begins)
	}
}

// checkEveryStyle tells in how many styles a stream came of the tree.
func checkEveryStyle(t *testing.T, list []impl.Node) int {
	t.Helper()
	streams, _ := checkStyles(t, styled(list), 0, 1)
	return streams
}

// checkStyles takes the styles first, first + step and so on. It tells in how
// many of them a stream came of the tree, and in how many none.
func checkStyles(t *testing.T, tree styledTree, first int, step int) (streams int, others int) {
	t.Helper()
	styles := everyStyle()
	for k := first; k < len(styles); k += step {
		if checkStyled(t, styles[k], tree) {
			streams++
		} else {
			others++
		}
	}
	return streams, others
}

// checkTokens takes a style, a text and the tokens of the text's tree.
func checkTokens(t *testing.T, style string, text string, want string) {
	t.Helper()
	s := styleOf(t, style)
	list, code, _ := impl.ParseTree(text)
	if code != 0 {
		t.Fatalf("%q is no tree", text)
	}
	checkStyled(t, s, styled(list))
	if got, ok := impl.TokensOf(s, list); !ok || !slices.Equal(got, tokens(t, want)) {
		t.Errorf("TokensOf(%s, %q) =\n%s, %v, want\n%s", style, text, tokensShown(got), ok, want)
	}
}

// styleOf reads a style without the program.
func styleOf(t *testing.T, text string) impl.Style {
	t.Helper()
	var s impl.Style
	if n, err := fmt.Sscan(text, &s.Round, &s.Square, &s.Curly, &s.Head, &s.Gap); n != 5 || err != nil {
		t.Fatalf("%q is no style", text)
	}
	return s
}

func TestTokensOfSingleNodes(t *testing.T) {
	for text, want := range map[string]string{
		"":       ``,
		"a":      `"a"`,
		`"s"`:    `""s""`,
		";n":     `";n"`,
		";n\n":   `";n"`,
		"'a":     `"'" "a"`,
		`'"s"`:   `"'" ""s""`,
		"''a":    `"'" "'" "a"`,
		"'''a":   `"'" "'" "'" "a"`,
		"()":     `<2 "(" ")" >`,
		"[]":     `[1 "[" "]" >`,
		"{}":     `[1 "{" "}" >`,
		"'()":    `"'" <2 "(" ")" >`,
		"'[]":    `"'" [1 "[" "]" >`,
		"'{}":    `"'" [1 "{" "}" >`,
		"''()":   `"'" "'" <2 "(" ")" >`,
		"'(a)":   `"'" <2 "(" "a" ")" >`,
		"'[a b]": `"'" [1 "[" "a" _1 "b" "]" >`,
		"'{a b}": `"'" [1 "{" "a" _1+1 "b" "}" >`,
	} {
		checkTokens(t, "2 1 1 1 0", text, want)
		checkTokens(t, "2 1 1 1 1", text, want)
	}
	long := []impl.Node{{Kind: 3}, {Depth: 1, Kind: 1, Text: `"b  c"`}, {Depth: 1, Kind: 2, Text: "; a b"}}
	want := []impl.Token{{Kind: 2, Off: 2}, {Text: "("}, {Text: `"b  c"`}, {Kind: 1, Width: 1, Off: 2}, {Text: "; a b"}, {Kind: 4}, {Text: ")"}, {Kind: 3}}
	if got, ok := impl.TokensOf(impl.DefaultStyle(), long); !ok || !slices.Equal(got, want) {
		t.Errorf("Texts with blanks: %s, %v", tokensShown(got), ok)
	}
}

// Each kind of block by itself in each of its four ways, the others in another.
func TestTokensOfBlocksTightAndLoose(t *testing.T) {
	begins := []string{"<1", "[1", "<2", "[2"}
	for laid, begin := range begins {
		for other := range 4 {
			round := fmt.Sprint(laid, other, other, 0, 0)
			square := fmt.Sprint(other, laid, other, 0, 0)
			curly := fmt.Sprint(other, other, laid, 0, 0)
			checkTokens(t, round, "()", begin+` "(" ")" >`)
			checkTokens(t, round, "(a)", begin+` "(" "a" ")" >`)
			checkTokens(t, round, "(a b)", begin+` "(" "a" _1 "b" ")" >`)
			checkTokens(t, round, "(a b c d)", begin+` "(" "a" _1 "b" _1 "c" _1 "d" ")" >`)
			checkTokens(t, square, "[]", begin+` "[" "]" >`)
			checkTokens(t, square, "[a]", begin+` "[" "a" "]" >`)
			checkTokens(t, square, "[a b]", begin+` "[" "a" _1 "b" "]" >`)
			checkTokens(t, square, "[a b c d]", begin+` "[" "a" _1 "b" _1 "c" _1 "d" "]" >`)
			checkTokens(t, curly, "{}", begin+` "{" "}" >`)
			checkTokens(t, curly, "{a b}", begin+` "{" "a" _1+1 "b" "}" >`)
			checkTokens(t, curly, "{a b c d}", begin+` "{" "a" _1+1 "b" _1 "c" _1+1 "d" "}" >`)
			checkTokens(t, curly, "{a b c d e f}", begin+` "{" "a" _1+1 "b" _1 "c" _1+1 "d" _1 "e" _1+1 "f" "}" >`)
			mixed := begin + ` "(" ` + begins[other] + ` "[" ` + begins[other] + ` "{" "}" > "]" > _1 ` + begin + ` "(" ")" > ")" >`
			checkTokens(t, round, "([{}] ())", mixed)
		}
	}
	checkTokens(t, "0 1 2 0 0", "([{}])", `<1 "(" [1 "[" <2 "{" "}" > "]" > ")" >`)
	checkTokens(t, "3 2 1 0 0", "{[()] []}", `[1 "{" <2 "[" [2 "(" ")" > "]" > _1+1 <2 "[" "]" > "}" >`)
}

// headed gives the tokens of a NodeRound with so many atoms, of which so many
// have a part that is in by 2.
func headed(begin string, atoms int, head int) (text string, want string) {
	words := []string{begin, `"("`}
	for n := 1; n <= atoms; n++ {
		text += " a"
		words = append(words, `"a"`)
		switch {
		case n == atoms:
		case n <= head:
			words = append(words, "_1+2")
		default:
			words = append(words, "_1")
		}
	}
	return "(" + text + ")", strings.Join(append(words, `")"`, ">"), " ")
}

func TestTokensOfHeads(t *testing.T) {
	for head := range 4 {
		for atoms := range 8 {
			for laid, begin := range []string{"<1", "[1", "<2", "[2"} {
				inHead := head
				if begin[0] == '[' {
					inHead = 0
				}
				text, want := headed(begin, atoms, inHead)
				checkTokens(t, fmt.Sprint(laid, 1, 1, head, 0), text, want)
			}
			square := strings.NewReplacer("(", "[", ")", "]")
			text, want := headed("<1", atoms, 0)
			checkTokens(t, fmt.Sprint(0, 0, 0, head, 0), square.Replace(text), square.Replace(want))
		}
	}
	checkTokens(t, "0 0 0 3 0", "{a b c d}", `<1 "{" "a" _1+1 "b" _1 "c" _1+1 "d" "}" >`)
	checkTokens(t, "0 1 1 1 0", "((a b c) [d] 'e)", `<1 "(" <1 "(" "a" _1+2 "b" _1 "c" ")" > _1+2 [1 "[" "d" "]" > _1 "'" "e" ")" >`)
	checkTokens(t, "2 1 1 2 0", "(a (b c d) e)", `<2 "(" "a" _1+2 <2 "(" "b" _1+2 "c" _1+2 "d" ")" > _1+2 "e" ")" >`)
	checkTokens(t, "0 0 0 1 0", "('a 'b 'c)", `<1 "(" "'" "a" _1+2 "'" "b" _1 "'" "c" ")" >`)
}

// A note counts among the children that Head counts, and has a line behind it
// wherever it stands.
func TestTokensOfHeadsWithNotes(t *testing.T) {
	for style, wants := range map[string][4]string{
		"0 1 1 0 0": {`"a" _1 ";n" | "b" _1 "c"`, `";n" | "a" _1 "b" _1 "c"`, `"a" _1 "b" _1 ";n" | "c"`, `"a" _1 "b" _1 "c" _1 ";n" |`},
		"0 1 1 1 0": {`"a" _1+2 ";n" | "b" _1 "c"`, `";n" | "a" _1 "b" _1 "c"`, `"a" _1+2 "b" _1 ";n" | "c"`, `"a" _1+2 "b" _1 "c" _1 ";n" |`},
		"0 1 1 2 0": {`"a" _1+2 ";n" | "b" _1 "c"`, `";n" | "a" _1+2 "b" _1 "c"`, `"a" _1+2 "b" _1+2 ";n" | "c"`, `"a" _1+2 "b" _1+2 "c" _1 ";n" |`},
		"0 1 1 3 0": {`"a" _1+2 ";n" | "b" _1+2 "c"`, `";n" | "a" _1+2 "b" _1+2 "c"`, `"a" _1+2 "b" _1+2 ";n" | "c"`, `"a" _1+2 "b" _1+2 "c" _1+2 ";n" |`},
	} {
		for k, text := range []string{"(a ;n\n b c)", "(;n\n a b c)", "(a b ;n\n c)", "(a b c ;n\n)"} {
			checkTokens(t, style, text, `<1 "(" `+wants[k]+` ")" >`)
			checkTokens(t, "2"+style[1:], text, `<2 "(" `+wants[k]+` ")" >`)
			tight := strings.ReplaceAll(wants[k], "+2", "")
			checkTokens(t, "1"+style[1:], text, `[1 "(" `+tight+` ")" >`)
			checkTokens(t, "3"+style[1:], text, `[2 "(" `+tight+` ")" >`)
		}
	}
}

func TestTokensOfKeysWithNotes(t *testing.T) {
	for text, want := range map[string]string{
		"{;n\n}":                               `";n" |`,
		"{;n\n;m\n}":                           `";n" | ";m" |`,
		"{;n\n a b}":                           `";n" | "a" _1+1 "b"`,
		"{a ;n\n b}":                           `"a" _1+1 ";n" | "b"`,
		"{a b ;n\n}":                           `"a" _1+1 "b" _1 ";n" |`,
		"{a ;n\n;m\n b}":                       `"a" _1+1 ";n" | ";m" | "b"`,
		"{a ;n\n b c d}":                       `"a" _1+1 ";n" | "b" _1 "c" _1+1 "d"`,
		"{a b ;n\n c d}":                       `"a" _1+1 "b" _1 ";n" | "c" _1+1 "d"`,
		"{a b c ;n\n d}":                       `"a" _1+1 "b" _1 "c" _1+1 ";n" | "d"`,
		"{;n\n a b c d}":                       `";n" | "a" _1+1 "b" _1 "c" _1+1 "d"`,
		"{;n\n;m\n a b c d}":                   `";n" | ";m" | "a" _1+1 "b" _1 "c" _1+1 "d"`,
		"{;n\n a ;m\n b ;o\n}":                 `";n" | "a" _1+1 ";m" | "b" _1 ";o" |`,
		"{;n\n a ;m\n b ;o\n c ;p\n d ;q\n}":   `";n" | "a" _1+1 ";m" | "b" _1 ";o" | "c" _1+1 ";p" | "d" _1 ";q" |`,
		"{'a 'b 'c ;n\n 'd}":                   `"'" "a" _1+1 "'" "b" _1 "'" "c" _1+1 ";n" | "'" "d"`,
		"{{} {;n\n}}":                          `[1 "{" "}" > _1+1 [1 "{" ";n" | "}" >`,
		"{{a b} {c {d e}} ;n\n {} {}}":         `[1 "{" "a" _1+1 "b" "}" > _1+1 [1 "{" "c" _1+1 [1 "{" "d" _1+1 "e" "}" > "}" > _1 ";n" | [1 "{" "}" > _1+1 [1 "{" "}" >`,
		"{(a ;n\n) [;m\n] ;o\n (b) '(c ;p\n)}": `<1 "(" "a" _1+2 ";n" | ")" > _1+1 <1 "[" ";m" | "]" > _1 ";o" | <1 "(" "b" ")" > _1+1 "'" <1 "(" "c" _1+2 ";p" | ")" >`,
	} {
		checkTokens(t, "0 0 1 3 0", text, `[1 "{" `+want+` "}" >`)
	}
}

// A note as the last child of each kind of block, by itself and behind others.
func TestTokensOfNotesAtTheEnd(t *testing.T) {
	for text, want := range map[string]string{
		"(;n\n)":               `<2 "(" ";n" | ")" >`,
		"[;n\n]":               `[1 "[" ";n" | "]" >`,
		"{;n\n}":               `[1 "{" ";n" | "}" >`,
		"(a ;n\n)":             `<2 "(" "a" _1+2 ";n" | ")" >`,
		"[a ;n\n]":             `[1 "[" "a" _1 ";n" | "]" >`,
		"{a b ;n\n}":           `[1 "{" "a" _1+1 "b" _1 ";n" | "}" >`,
		"(;n\n;m\n)":           `<2 "(" ";n" | ";m" | ")" >`,
		"[;n\n;m\n]":           `[1 "[" ";n" | ";m" | "]" >`,
		"(a b ;n\n;m\n)":       `<2 "(" "a" _1+2 "b" _1 ";n" | ";m" | ")" >`,
		"[a b ;n\n;m\n]":       `[1 "[" "a" _1 "b" _1 ";n" | ";m" | "]" >`,
		"{a b ;n\n;m\n}":       `[1 "{" "a" _1+1 "b" _1 ";n" | ";m" | "}" >`,
		"([;n\n])":             `<2 "(" [1 "[" ";n" | "]" > ")" >`,
		"([;n\n] a)":           `<2 "(" [1 "[" ";n" | "]" > _1+2 "a" ")" >`,
		"([;n\n] ;m\n)":        `<2 "(" [1 "[" ";n" | "]" > _1+2 ";m" | ")" >`,
		"'(;n\n)":              `"'" <2 "(" ";n" | ")" >`,
		"'[a ;n\n]":            `"'" [1 "[" "a" _1 ";n" | "]" >`,
		"''{a b ;n\n}":         `"'" "'" [1 "{" "a" _1+1 "b" _1 ";n" | "}" >`,
		"(a '(;n\n) ;m\n) ;o":  `<2 "(" "a" _1+2 "'" <2 "(" ";n" | ")" > _1 ";m" | ")" > | ";o"`,
		"((;n\n))":             `<2 "(" <2 "(" ";n" | ")" > ")" >`,
		"[{;n\n} ;m\n [;o\n]]": `[1 "[" [1 "{" ";n" | "}" > _1 ";m" | [1 "[" ";o" | "]" > "]" >`,
	} {
		checkTokens(t, "2 1 1 1 0", text, want)
	}
}

func TestTokensOfQuotesAheadOfEachKind(t *testing.T) {
	for text, want := range map[string]string{
		"(a 'b c)":         `<1 "(" "a" _1+2 "'" "b" _1+2 "c" ")" >`,
		`('"s" ''b)`:       `<1 "(" "'" ""s"" _1+2 "'" "'" "b" ")" >`,
		"('() '[] '{})":    `<1 "(" "'" <1 "(" ")" > _1+2 "'" <1 "[" "]" > _1+2 "'" <1 "{" "}" > ")" >`,
		"['(a) '[b] '{}]":  `<1 "[" "'" <1 "(" "a" ")" > _1 "'" <1 "[" "b" "]" > _1 "'" <1 "{" "}" > "]" >`,
		"{'a 'b}":          `<1 "{" "'" "a" _1+1 "'" "b" "}" >`,
		"{'{a b} ''[c d]}": `<1 "{" "'" <1 "{" "a" _1+1 "b" "}" > _1+1 "'" "'" <1 "[" "c" _1 "d" "]" > "}" >`,
		"'a 'b":            `"'" "a" | "'" "b"`,
		"'() ;n\n'[]":      `"'" <1 "(" ")" > | ";n" | "'" <1 "[" "]" >`,
		"('('('a)))":       `<1 "(" "'" <1 "(" "'" <1 "(" "'" "a" ")" > ")" > ")" >`,
	} {
		checkTokens(t, "0 0 0 2 0", text, want)
	}
}

func TestTokensOfNodesOfDepthZero(t *testing.T) {
	for text, want := range map[string]string{
		"":                    ``,
		"a":                   `"a"`,
		";n":                  `";n"`,
		"a b":                 `"a" | "b"`,
		"a b c":               `"a" | "b" | "c"`,
		";n\n;m":              `";n" | ";m"`,
		";n\na":               `";n" | "a"`,
		"a ;n":                `"a" | ";n"`,
		"'a b":                `"'" "a" | "b"`,
		"() [] {}":            `<2 "(" ")" > | [1 "[" "]" > | [1 "{" "}" >`,
		"(a b) ;n\n(c)":       `<2 "(" "a" _1+2 "b" ")" > | ";n" | <2 "(" "c" ")" >`,
		"(;n\n) 'b":           `<2 "(" ";n" | ")" > | "'" "b"`,
		"[a ;n\n b] c 'd ;m":  `[1 "[" "a" _1 ";n" | "b" "]" > | "c" | "'" "d" | ";m"`,
		"{a b ;n\n} {c d} \n": `[1 "{" "a" _1+1 "b" _1 ";n" | "}" > | [1 "{" "c" _1+1 "d" "}" >`,
	} {
		checkTokens(t, "2 1 1 1 0", text, want)
	}
	for text, want := range map[string]string{
		"":             ``,
		"a":            `"a"`,
		"a b":          `"a" | | "b"`,
		"a b c":        `"a" | | "b" | | "c"`,
		";n\n;m":       `";n" | | ";m"`,
		"(a ;n\n b) c": `<2 "(" "a" _1+2 ";n" | "b" ")" > | | "c"`,
		"(;n\n) 'b":    `<2 "(" ";n" | ")" > | | "'" "b"`,
	} {
		checkTokens(t, "2 1 1 1 1", text, want)
	}
	for _, list := range [][]impl.Node{nil, {}} {
		for _, s := range everyStyle() {
			if got, ok := impl.TokensOf(s, list); !ok || len(got) != 0 {
				t.Errorf("TokensOf(%v) of no node is %s, %v", s, tokensShown(got), ok)
			}
		}
	}
}

// checkSized checks a tree that has so many tokens, whatever the style but for
// its Gap: a stream comes of it or none.
func checkSized(t *testing.T, name string, gap int, list []impl.Node, count int) {
	t.Helper()
	tree := styled(list)
	styles := everyStyle()
	for k := 256 * gap; k < 256*(gap+1); k += 5 {
		s := styles[k]
		if s.Gap != gap || len(expectedTokens(s, list)) != count {
			t.Fatalf("%s with Gap %d: not %d tokens are expected", name, gap, count)
		}
		got, ok := impl.TokensOf(s, list)
		if checkStyled(t, s, tree) != (count <= 400) || ok != (count <= 400) || ok && len(got) != count {
			t.Fatalf("%s with Gap %d: %d tokens and %v", name, gap, len(got), ok)
		}
	}
}

func TestTokensOfMaxTokens(t *testing.T) {
	flat := func(first string, atoms int, last string) []impl.Node {
		return slices.Concat(nodes(t, first), slices.Repeat(nodes(t, "1a"), atoms), nodes(t, last))
	}
	for _, gap := range []int{0, 1} {
		for _, block := range []string{"0(", "0[", "0{"} {
			checkSized(t, "196 atoms in "+block, gap, flat(block, 196, ""), 395)
			checkSized(t, "196 atoms and a note in "+block, gap, flat(block, 196, "1;n"), 398)
			checkSized(t, "198 atoms in "+block, gap, flat(block, 198, ""), 399)
			checkSized(t, "198 atoms and a note in "+block, gap, flat(block, 198, "1;n"), 402)
			checkSized(t, "196 atoms and two notes in "+block, gap, flat(block, 196, "1;n 1;m"), 400)
		}
		checkSized(t, "199 atoms in a block", gap, flat("0(", 199, ""), 401)
		checkSized(t, "197 atoms and a note in a block", gap, flat("0[", 197, "1;n"), 400)
	}
	checkSized(t, "200 atoms", 0, slices.Repeat(nodes(t, "0a"), 200), 399)
	checkSized(t, "200 atoms", 1, slices.Repeat(nodes(t, "0a"), 200), 598)
	checkSized(t, "133 atoms", 1, slices.Repeat(nodes(t, "0a"), 133), 397)
	checkSized(t, "134 atoms", 1, slices.Repeat(nodes(t, "0a"), 134), 400)
	checkSized(t, "135 atoms", 1, slices.Repeat(nodes(t, "0a"), 135), 403)
	checkSized(t, "80 blocks", 0, slices.Repeat(nodes(t, "0("), 80), 399)
	checkSized(t, "80 blocks and a node", 0, append(slices.Repeat(nodes(t, "0("), 80), nodes(t, "0a")...), 401)
	checkSized(t, "67 blocks", 1, slices.Repeat(nodes(t, "0{"), 67), 400)
	checkSized(t, "66 blocks and a quote", 1, append(slices.Repeat(nodes(t, "0["), 66), nodes(t, "0' 1a")...), 398)
	checkSized(t, "67 blocks and a node", 1, append(slices.Repeat(nodes(t, "0["), 67), nodes(t, "0a")...), 403)
	checkSized(t, "200 blocks", 0, slices.Repeat(nodes(t, "0("), 200), 999)
	checkSized(t, "100 quotes", 0, slices.Repeat(nodes(t, "0' 1a"), 100), 299)
	checkSized(t, "100 quotes", 1, slices.Repeat(nodes(t, "0' 1a"), 100), 398)
}

func TestTokensOfMaxDepth(t *testing.T) {
	for _, kind := range []int{3, 4} {
		for count := 1; count <= 13; count++ {
			if got := checkEveryStyle(t, chain(kind, count)); got != 0 && count > 12 || got != 512 && count <= 12 {
				t.Errorf("%d blocks of Kind %d, one in the other: a stream in %d styles", count, kind, got)
			}
		}
	}
	curly := func(count int) []impl.Node {
		list := nodes(t, "0{")
		for depth := 1; depth < count; depth++ {
			list = append(list, impl.Node{Depth: depth, Text: "k"}, impl.Node{Depth: depth, Kind: 5})
		}
		return list
	}
	twelve, deep := chain(3, 12), chain(4, 13)
	for _, one := range []struct {
		name string
		list []impl.Node
		want int
	}{
		{"12 NodeCurlys", curly(12), 512},
		{"13 NodeCurlys", curly(13), 0},
		{"a text within 12", append(slices.Clone(twelve), nodes(t, "12a")...), 512},
		{"a note within 12", append(slices.Clone(twelve), nodes(t, "12;n")...), 512},
		{"a block within 12", append(slices.Clone(twelve), nodes(t, "12[")...), 0},
		{"two texts and a block within 12", append(slices.Clone(twelve), nodes(t, "12a 12b 12{")...), 0},
		{"13 behind a text", append(nodes(t, "0a"), deep...), 0},
		{"13 ahead of a text", append(slices.Clone(deep), nodes(t, "0a")...), 0},
		{"12 and 12", slices.Concat(twelve, twelve), 512},
		{"12 and 13", slices.Concat(twelve, deep), 0},
		{"a quote ahead of 12", nodes(t, "0' 1( 2( 3( 4( 5( 6( 7( 8( 9( 10( 11( 12("), 512},
		{"a quote within 11", append(chain(3, 11), nodes(t, "11' 12[")...), 512},
		{"12 quotes", append(chain(6, 12), nodes(t, "12(")...), 512},
	} {
		if got := checkEveryStyle(t, one.list); got != one.want {
			t.Errorf("%s: a stream in %d styles, not in %d", one.name, got, one.want)
		}
	}
}

// No tree has a Text that is longer than a token's may be.
func TestTokensOfMaxText(t *testing.T) {
	for kind, ends := range [][2]string{{"", ""}, {`"`, `"`}, {";", ""}} {
		for size := 38; size <= 44; size++ {
			n := impl.Node{Kind: kind, Text: lexemeOf(ends[0], size, ends[1])}
			within := n
			within.Depth = 1
			for _, list := range [][]impl.Node{{n}, {{Kind: 3}, within}, {{Kind: 5}, {Depth: 1, Text: "k"}, {Depth: 1, Text: "v"}, within, within}} {
				if size <= 40 {
					if got := checkEveryStyle(t, list); got != 512 {
						t.Errorf("a Text of %d bytes: a stream in %d styles", size, got)
					}
					continue
				}
				checkNoTokens(t, fmt.Sprintf("a Text of %d bytes", size), impl.DefaultStyle(), list)
				checkNoTokens(t, fmt.Sprintf("a Text of %d bytes", size), impl.Style{}, list)
			}
		}
	}
}

func checkNoTokens(t *testing.T, name string, s impl.Style, list []impl.Node) {
	t.Helper()
	if got, ok := impl.TokensOf(s, list); ok || len(got) != 0 {
		t.Errorf("%s: TokensOf(%v, %q) = %s, %v", name, s, shownNodes(list), tokensShown(got), ok)
	}
}

func TestTokensOfListsThatAreNoTree(t *testing.T) {
	for name, list := range notTrees(t) {
		for _, s := range everyStyle() {
			checkNoTokens(t, name, s, list)
		}
		checkNoTokens(t, name, impl.Style{Gap: 2}, list)
	}
}

func TestTokensOfStylesThatAreNone(t *testing.T) {
	for _, list := range [][]impl.Node{nil, nodes(t, "0a"), nodes(t, "0( 1a 1[ 2b 1' 2c 0;x 0{ 1k 1v"), chain(3, 13)} {
		for _, s := range wrongStyles() {
			checkNoTokens(t, "a style that is none", s, list)
		}
	}
}

// shortTrees has all trees of up to so many nodes over six Kinds.
func shortTrees(reader lexReader, longest int) [][]impl.Node {
	trees := [][]impl.Node{}
	var grow func(list []impl.Node)
	grow = func(list []impl.Node) {
		if expectedNoTree(reader, list) == "" {
			trees = append(trees, list)
		}
		if len(list) == longest {
			return
		}
		deepest := 0
		if len(list) > 0 {
			deepest = list[len(list)-1].Depth
			if list[len(list)-1].Kind >= 3 {
				deepest++
			}
		}
		for _, n := range []impl.Node{{Text: "a"}, {Kind: 2, Text: ";n"}, {Kind: 3}, {Kind: 4}, {Kind: 5}, {Kind: 6}} {
			for n.Depth = 0; n.Depth <= deepest; n.Depth++ {
				grow(append(slices.Clip(list), n))
			}
		}
	}
	grow(nil)
	return trees
}

// Every style for those of up to 3 nodes, and some styles for each of the others.
func TestPromiseOfStylesOfAllShortTrees(t *testing.T) {
	trees := shortTrees(newLexReader(), oftenOrShort(4, 3))
	if len(trees) < oftenOrShort(2000, 100) {
		t.Errorf("there are only %d trees", len(trees))
	}
	for k, list := range trees {
		first, step := 0, 1
		if len(list) == 4 {
			first, step = k%17, 17
		}
		if _, others := checkStyles(t, styled(list), first, step); others > 0 {
			t.Errorf("TokensOf(%q) is no stream in %d styles", shownNodes(list), others)
		}
	}
}

// The children of one block: up to 6 atoms, notes and quotes in any order.
func TestPromiseOfStylesOfFlatBlocks(t *testing.T) {
	reader := newLexReader()
	trees := 0
	var grow func(list []impl.Node, children int)
	grow = func(list []impl.Node, children int) {
		if expectedNoTree(reader, list) == "" {
			checkStyles(t, styled(list), trees%7, 7)
			trees++
		}
		if children == oftenOrShort(6, 3) {
			return
		}
		for _, child := range []string{"1a", "1;n", "1' 2b"} {
			grow(append(slices.Clip(list), nodes(t, child)...), children+1)
		}
	}
	for _, first := range []string{"0(", "0[", "0{"} {
		grow(nodes(t, first), 0)
	}
	if trees < oftenOrShort(2500, 50) {
		t.Errorf("there are only %d trees", trees)
	}
}

// Every style for some trees, and some styles for all.
func TestPromiseOfStylesOfRandomTrees(t *testing.T) {
	r := rand.New(rand.NewSource(8))
	streams, others := 0, 0
	for k := range oftenOrShort(1500, 100) {
		tree := styled(randomTree(r, nil, 0, r.Intn(1+r.Intn(200))))
		first, step := k%31, 31
		if k%20 == 0 {
			first, step = 0, 1
		}
		more, moreOthers := checkStyles(t, tree, first, step)
		streams, others = streams+more, others+moreOthers
	}
	if streams < oftenOrShort(40000, 2000) || others < oftenOrShort(2000, 100) {
		t.Errorf("there are %d streams, and %d lists that are none", streams, others)
	}
}

// What LexText reads of a text is what the tokens have: promise 9 from the text on.
func TestPromiseOfStylesOfRandomTexts(t *testing.T) {
	r := rand.New(rand.NewSource(81))
	styles := everyStyle()
	streams := 0
	for range oftenOrShort(20000, 400) {
		text := randomTreeText(r, r.Intn(1+r.Intn(60)))
		list, code, _ := impl.ParseTree(text)
		if code != 0 {
			continue
		}
		lexemes, _ := impl.LexText(text)
		tree := styledTree{list: list}
		for _, one := range lexemes {
			tree.texts = append(tree.texts, one.Text)
		}
		for range 5 {
			if checkStyled(t, styles[r.Intn(len(styles))], tree) {
				streams++
			}
		}
	}
	if streams < oftenOrShort(10000, 100) {
		t.Errorf("there are only %d streams", streams)
	}
}
