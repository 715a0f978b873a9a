package tests

import (
	"fmt"
	"math"
	"math/rand"
	"regexp"
	"slices"
	"strconv"
	"strings"
	"testing"

	"loop.example/g00829/impl"
)

var nodeWord = regexp.MustCompile(`^(-?[0-9]+)(.+)$`)

// nodes reads a list as the cases below have it, such as `0( 1a 1' 2"s" 0;n`:
// the Depth of each node, and its bracket, its quote or its Text.
func nodes(t *testing.T, text string) []impl.Node {
	t.Helper()
	list := []impl.Node{}
	for _, word := range strings.Fields(text) {
		parts := nodeWord.FindStringSubmatch(word)
		if parts == nil {
			t.Fatalf("%q is no node", word)
		}
		depth, _ := strconv.Atoi(parts[1])
		n := impl.Node{Depth: depth}
		switch {
		case len(parts[2]) == 1 && strings.Contains("([{'", parts[2]):
			n.Kind = 3 + strings.Index("([{'", parts[2])
		case parts[2][0] == '"':
			n.Kind, n.Text = 1, parts[2]
		case parts[2][0] == ';':
			n.Kind, n.Text = 2, parts[2]
		default:
			n.Text = parts[2]
		}
		list = append(list, n)
	}
	return list
}

// nodesShown writes a list as nodes reads it, and what that does not read in a
// longer form.
func nodesShown(list []impl.Node) string {
	words := []string{}
	for _, n := range list {
		shape := n.Text
		if n.Kind >= 3 && n.Kind <= 6 {
			shape += "([{'"[n.Kind-3:][:1]
		}
		if n.Kind < 0 || n.Kind > 6 {
			shape = fmt.Sprintf("%s(Kind %d)", n.Text, n.Kind)
		}
		words = append(words, fmt.Sprint(n.Depth, shape))
	}
	return strings.Join(words, " ")
}

// shownNodes is a list that is written only when a message has it.
type shownNodes []impl.Node

func (s shownNodes) String() string { return textShown(nodesShown(s)) }

// parsedShown writes what ParseTree answers: the nodes, or a code and a place.
func parsedShown(list []impl.Node, code int, at int) string {
	if code == 0 && at == -1 {
		return nodesShown(list)
	}
	name := fmt.Sprintf("code %d", code)
	if names := []string{"fine", "lex", "shut", "open", "quote", "odd", "deep"}; code >= 0 && code < len(names) {
		name = names[code]
	}
	if len(list) > 0 {
		name += " and yet " + nodesShown(list)
	}
	return fmt.Sprint(name, " ", at)
}

func chain(kind int, count int) []impl.Node {
	list := []impl.Node{}
	for depth := range count {
		list = append(list, impl.Node{Depth: depth, Kind: kind})
	}
	return list
}

// expectedChildren is the document's sentence: the nodes behind, up to the next
// one whose Depth is not above, with a Depth 1 above.
func expectedChildren(list []impl.Node, k int) []int {
	depth := -1
	if k >= 0 {
		depth = list[k].Depth
	}
	places := []int{}
	for i := k + 1; i < len(list) && list[i].Depth > depth; i++ {
		if list[i].Depth == depth+1 {
			places = append(places, i)
		}
	}
	return places
}

// expectedNoTree tells why a list is no tree, with nothing asked of the program;
// it is empty for a tree.
func expectedNoTree(reader lexReader, list []impl.Node) string {
	if len(list) > 200 {
		return "too many"
	}
	depth, inside := -1, true
	for _, n := range list {
		switch {
		case n.Kind < 0 || n.Kind > 6:
			return "a Kind that is none"
		case n.Depth < 0 || n.Depth > 12:
			return "a Depth that is none"
		case n.Depth > depth+1 || n.Depth == depth+1 && !inside:
			return "too deep behind the one ahead"
		case n.Kind >= 3 && n.Text != "":
			return "a Text where none may be"
		case n.Kind < 3 && !expectedLexeme(reader, n.Kind, n.Text):
			return "a Text that is no such lexeme"
		}
		depth, inside = n.Depth, n.Kind >= 3
	}
	for k, n := range list {
		all := expectedChildren(list, k)
		plain := slices.DeleteFunc(slices.Clone(all), func(i int) bool { return list[i].Kind == 2 })
		if n.Kind == 6 && (len(all) != 1 || len(plain) != 1) {
			return "a quote without its one child"
		}
		if n.Kind == 5 && len(plain)%2 != 0 {
			return "an odd number"
		}
	}
	return ""
}

func expectedLexeme(reader lexReader, kind int, text string) bool {
	list, bad := reader.readAll(text)
	return bad == -1 && len(list) == 1 && list[0].Kind == kind && list[0].Text == text
}

// expectedLexemes closes what is open ahead of each node, from place to place.
func expectedLexemes(list []impl.Node) []impl.Lexeme {
	lexemes, open := []impl.Lexeme{}, []impl.Node{}
	shut := func(depth int) {
		for len(open) > 0 && open[len(open)-1].Depth >= depth {
			if kind := open[len(open)-1].Kind; kind != 6 {
				lexemes = append(lexemes, impl.Lexeme{Kind: 4, Text: ")]}"[kind-3:][:1]})
			}
			open = open[:len(open)-1]
		}
	}
	for _, n := range list {
		shut(n.Depth)
		switch {
		case n.Kind < 3:
			lexemes = append(lexemes, impl.Lexeme{Kind: n.Kind, Text: n.Text})
		case n.Kind == 6:
			lexemes = append(lexemes, impl.Lexeme{Kind: 5, Text: "'"})
		default:
			lexemes = append(lexemes, impl.Lexeme{Kind: 3, Text: "([{"[n.Kind-3:][:1]})
		}
		if n.Kind >= 3 {
			open = append(open, n)
		}
	}
	shut(0)
	return lexemes
}

func expectedPart(list []impl.Node, k int) []impl.Node {
	part := []impl.Node{{Kind: list[k].Kind, Text: list[k].Text}}
	for _, n := range list[k+1:] {
		if n.Depth <= list[k].Depth {
			break
		}
		n.Depth -= list[k].Depth
		part = append(part, n)
	}
	return part
}

// checkTree holds all functions that take a list against what is expected, and
// promise 8. It tells whether the list is a tree.
func checkTree(t *testing.T, reader lexReader, list []impl.Node) bool {
	t.Helper()
	if why := expectedNoTree(reader, list); why != "" {
		checkNoTree(t, why, list)
		return false
	}
	name := shownNodes(list)
	if !impl.TreeOk(list) {
		t.Fatalf("TreeOk(%q) is false", name)
	}
	depth, atoms := 0, []string{}
	for _, n := range list {
		depth = max(depth, n.Depth+1)
		if n.Kind == 0 {
			atoms = append(atoms, n.Text)
		}
	}
	if got := impl.TreeDepth(list); got != depth {
		t.Errorf("TreeDepth(%q) = %d, want %d", name, got, depth)
	}
	if got := impl.AtomsOf(list); !slices.Equal(got, atoms) {
		t.Errorf("AtomsOf(%q) = %q, want %q", name, got, atoms)
	}
	if !impl.SameTree(list, list) || !impl.SameTree(slices.Clone(list), list) {
		t.Errorf("SameTree(%q) with itself is false", name)
	}
	checkTreePlaces(t, list)
	checkTreePromise(t, list)
	return true
}

func checkTreePlaces(t *testing.T, list []impl.Node) {
	t.Helper()
	name := shownNodes(list)
	for k := -1; k < len(list); k++ {
		if got, want := impl.ChildrenOf(list, k), expectedChildren(list, k); !slices.Equal(got, want) {
			t.Errorf("ChildrenOf(%q, %d) = %v, want %v", name, k, got, want)
		}
		if k == -1 {
			continue
		}
		part, want := impl.PartOf(list, k), expectedPart(list, k)
		if !slices.Equal(part, want) || !impl.TreeOk(part) {
			t.Errorf("PartOf(%q, %d) = %q, want %q", name, k, nodesShown(part), nodesShown(want))
		}
	}
	for _, k := range []int{math.MinInt, -2, -1, len(list), len(list) + 1, math.MaxInt} {
		if part := impl.PartOf(list, k); len(part) != 0 {
			t.Errorf("PartOf(%q, %d) = %q", name, k, nodesShown(part))
		}
		if places := impl.ChildrenOf(list, k); k != -1 && len(places) != 0 {
			t.Errorf("ChildrenOf(%q, %d) = %v", name, k, places)
		}
	}
}

// checkTreePromise is promise 8. A tree may print to more than LexText reads;
// what is parsed then fails as LexText does.
func checkTreePromise(t *testing.T, list []impl.Node) {
	t.Helper()
	name := shownNodes(list)
	lexemes := expectedLexemes(list)
	text := impl.PrintTree(list)
	if want := impl.PlainLex(lexemes); text != want {
		t.Fatalf("PrintTree(%q) = %q, want %q", name, textShown(text), textShown(want))
	}
	again, code, at := impl.ParseTree(text)
	if len(lexemes) > 200 || len(text) > 2000 {
		if _, bad := impl.LexText(text); code != 1 || at != bad || bad == -1 || len(again) != 0 {
			t.Errorf("%q is printed as %q and parsed as %q", name, textShown(text), textShown(parsedShown(again, code, at)))
		}
		return
	}
	if code != 0 || at != -1 || !slices.Equal(again, list) || !impl.SameTree(again, list) {
		t.Fatalf("%q is printed as %q and parsed as %q", name, textShown(text), textShown(parsedShown(again, code, at)))
	}
}

func checkNoTree(t *testing.T, why string, list []impl.Node) {
	t.Helper()
	name := shownNodes(list)
	if impl.TreeOk(list) {
		t.Errorf("%s: TreeOk(%q) is true", why, name)
	}
	if text := impl.PrintTree(list); text != "" {
		t.Errorf("%s: PrintTree(%q) = %q", why, name, textShown(text))
	}
	if depth := impl.TreeDepth(list); depth != -1 {
		t.Errorf("%s: TreeDepth(%q) = %d", why, name, depth)
	}
	if atoms := impl.AtomsOf(list); len(atoms) != 0 {
		t.Errorf("%s: AtomsOf(%q) = %q", why, name, atoms)
	}
	if impl.SameTree(list, list) || impl.SameTree(list, nil) || impl.SameTree(nil, list) {
		t.Errorf("%s: SameTree(%q) is true", why, name)
	}
	for k := -2; k <= min(len(list), 6); k++ {
		if places := impl.ChildrenOf(list, k); len(places) != 0 {
			t.Errorf("%s: ChildrenOf(%q, %d) = %v", why, name, k, places)
		}
		if part := impl.PartOf(list, k); len(part) != 0 {
			t.Errorf("%s: PartOf(%q, %d) = %q", why, name, k, nodesShown(part))
		}
	}
}

// checkTrees says of each list by hand whether it is a tree, and has the
// functions and what is expected say the same.
func checkTrees(t *testing.T, reader lexReader, want bool, texts ...string) {
	t.Helper()
	for _, text := range texts {
		if checkTree(t, reader, nodes(t, text)) != want {
			t.Errorf("that %q is a tree is not %v", text, want)
		}
	}
}

func TestTreeConstants(t *testing.T) {
	got := [...]int{impl.MaxNodes, impl.NodeAtom, impl.NodeString, impl.NodeNote, impl.NodeRound, impl.NodeSquare, impl.NodeCurly, impl.NodeQuote,
		impl.TreeFine, impl.TreeLex, impl.TreeShut, impl.TreeOpen, impl.TreeQuote, impl.TreeOdd, impl.TreeDeep}
	if got != [...]int{200, 0, 1, 2, 3, 4, 5, 6, 0, 1, 2, 3, 4, 5, 6} {
		t.Errorf("constants are %v", got)
	}
}

func TestTreeOkDepths(t *testing.T) {
	reader := newLexReader()
	checkTrees(t, reader, true,
		"", "0a", "0(", "0[", "0{", `0"s"`, "0;n", "0a 0b", "0( 0(", "0( 1a", "0[ 1a", "0{ 1a 1b", "0' 1a", "0' 1' 2a",
		"0( 1a 0b", "0( 1( 2( 0b", "0( 1( 2( 1b", "0( 1( 2( 2b", "0( 1( 2a 2b 1c 0d", "0' 1( 2a 2b 0c", "0( 1' 2a 1b",
		"0;n 0a", "0( 1;n 0a", "0( 1;n 1;m", "0( 1;n 1( 2;m")
	checkTrees(t, reader, false,
		"1a", "1(", "2a", "-1a", "12a", "13a", "1( 1a", "1( 0a", "1( 2a", "-1( 0a",
		"0( 2a", "0( 3a", "0( 2(", "0( 1( 3a", "0( 1a 2b", "0( 1a 3b", "0( -1a", "0( 1a -1b", "0a -1b",
		"0a 1b", `0"s" 1b`, "0;n 1b", "0a 1(", "0a 1;n", "0;n 1;m", `0"s" 1"s"`, "0( 1a 2(", "0( 1;n 2a", `0( 1"s" 2a`,
		"0( 1a 1b 2c", "0( 1( 2a 3b", "0( 1( 2a 0b 1c", "0a 2b", "0( 0a 1b")
	for _, depth := range edgeNumbers() {
		if checkTree(t, reader, []impl.Node{{Depth: depth, Kind: 3}}) != (depth == 0) {
			t.Errorf("a first Depth of %d is not taken right", depth)
		}
		list := []impl.Node{{Kind: 3}, {Depth: 1, Kind: 4}, {Depth: depth, Kind: 3}}
		if checkTree(t, reader, list) != (depth >= 0 && depth <= 2) {
			t.Errorf("a Depth of %d is not taken right", depth)
		}
		list[1] = impl.Node{Depth: 1, Text: "a"}
		if checkTree(t, reader, list) != (depth == 0 || depth == 1) {
			t.Errorf("a Depth of %d behind an atom is not taken right", depth)
		}
	}
}

func TestTreeOkMaxDepth(t *testing.T) {
	reader := newLexReader()
	for kind := 3; kind <= 6; kind++ {
		for count := 10; count <= 16; count++ {
			list := chain(kind, count)
			want := count <= 13 && kind < 5
			if checkTree(t, reader, list) != want {
				t.Errorf("that %d nodes of Kind %d, one in the other, are a tree is not %v", count, kind, want)
			}
			for _, leaf := range []impl.Node{{Text: "a"}, {Kind: 1, Text: `""`}, {Kind: 2, Text: ";"}, {Kind: 3}} {
				leaf.Depth = count
				more := slices.Concat(list, []impl.Node{leaf})
				want = count <= 12 && (kind < 5 || kind == 6 && leaf.Kind != 2)
				if checkTree(t, reader, more) != want {
					t.Errorf("that %d nodes of Kind %d with one of Kind %d are a tree is not %v", count, kind, leaf.Kind, want)
				}
			}
		}
	}
	// Behind the deepest one, and right in a curly one all the way down.
	deepest := append(chain(3, 12), nodes(t, "12a 12b 11c 0d")...)
	curly := []impl.Node{}
	for depth := range 12 {
		curly = append(curly, impl.Node{Depth: depth, Text: "k"}, impl.Node{Depth: depth, Kind: 5})
	}
	curly = append(curly, nodes(t, "12k 12{")...)
	if !checkTree(t, reader, deepest) || !checkTree(t, reader, curly[1:]) || !checkTree(t, reader, curly) {
		t.Errorf("the deepest trees are not taken right")
	}
	if checkTree(t, reader, append(curly, nodes(t, "13k 13v")...)) {
		t.Errorf("a tree that is too deep is taken")
	}
}

func TestTreeOkMaxNodes(t *testing.T) {
	reader := newLexReader()
	for _, n := range []impl.Node{{Text: "a"}, {Kind: 1, Text: `"s"`}, {Kind: 2, Text: ";"}, {Kind: 3}, {Kind: 4}, {Kind: 5}} {
		for _, count := range []int{1, 100, 199, 200, 201, 202, 400, 1000} {
			if checkTree(t, reader, slices.Repeat([]impl.Node{n}, count)) != (count <= 200) {
				t.Errorf("%d nodes of Kind %d are not taken right", count, n.Kind)
			}
		}
	}
	quotes := slices.Repeat(nodes(t, "0' 1a"), 100)
	if !checkTree(t, reader, quotes) || checkTree(t, reader, append(quotes, impl.Node{Kind: 3})) {
		t.Errorf("200 nodes with quotes are not taken right")
	}
	deep := slices.Repeat(nodes(t, "0( 1[ 2( 3a 1b"), 40)
	if !checkTree(t, reader, deep) || checkTree(t, reader, append(deep, impl.Node{Depth: 1, Text: "a"})) {
		t.Errorf("200 nodes with blocks are not taken right")
	}
	long := impl.Node{Text: strings.Repeat("x", 40)}
	checkTree(t, reader, slices.Repeat([]impl.Node{long}, 200))
	checkTree(t, reader, slices.Repeat([]impl.Node{long}, 48))
	checkTree(t, reader, slices.Repeat([]impl.Node{long}, 49))
}

// wrongTexts has for each of the three Kinds with a Text some that are no lexeme
// of that Kind, besides those of the other Kinds.
func wrongTexts() [][]string {
	alike := []string{"", " ", "\n", ",", "(", ")", "[", "]", "{", "}", "'", "'a", "a b", "a,b", "a\nb", "(a)", "()", "a;n", `a"b"`, `"a"b`, `"a" "b"`, `"a""b"`,
		"\x01", "a\x01", "\x7f", "\u00e9", "a\u00e9", "\xff", `"`, `"a`, `"a\"`, "\"a\x01\"", "\"a\nb\"", ";a\n;b", ";a\tb", ";a\x01", ";a\nb", strings.Repeat("x", 2001)}
	texts := [][]string{
		slices.Concat(alike, []string{" a", "a ", "\ta", "a\t", "\na", "a\n", "\ra", "a\r", ",a", "a,", lexemeOf("", 41, "")}),
		slices.Concat(alike, []string{` ""`, `"" `, "\t\"a\"", "\"a\"\n", `,"a"`, `"a",`, "\r\"\"", "\"\"\r", lexemeOf(`"`, 41, `"`)}),
		slices.Concat(alike, []string{" ;", "; ", ";\n", ";a\n", ";a ", ";a\t", ";a\r", ";a,", "\n;a", "\t;a", ",;a", "\r;a", lexemeOf(";", 41, "")}),
	}
	return texts
}

func TestTreeOkTexts(t *testing.T) {
	reader := newLexReader()
	around := func(n impl.Node) [][]impl.Node {
		quote := n
		quote.Depth = 1
		return [][]impl.Node{{n}, slices.Concat(nodes(t, "0( 1b"), []impl.Node{n}, nodes(t, "0c")), {{Kind: 6}, quote}}
	}
	samples := lexSamples()
	for kind := range 7 {
		for other, texts := range samples {
			for _, text := range append(texts, lexemeOf("", 40, ""), lexemeOf(`"`, 40, `"`), lexemeOf(";", 40, "")) {
				for i, list := range around(impl.Node{Kind: kind, Text: text}) {
					first := strings.IndexByte(`x";`, text[0])
					right := kind < 3 && (kind == other && len(text) < 40 || kind == first && len(text) == 40) && (i < 2 || kind != 2)
					if checkTree(t, reader, list) != right {
						t.Errorf("that a node of Kind %d has the Text %q is not %v", kind, text, right)
					}
				}
			}
		}
	}
	for kind, texts := range wrongTexts() {
		for _, text := range texts {
			for _, list := range around(impl.Node{Kind: kind, Text: text}) {
				if checkTree(t, reader, list) {
					t.Errorf("a node of Kind %d has the Text %q", kind, text)
				}
			}
		}
	}
	for kind := 3; kind <= 6; kind++ {
		for _, text := range []string{" ", "\n", "a", "(", "()", ")", "[]", "{}", "'", `""`, ";", "\xff", strings.Repeat("x", 41)} {
			list := []impl.Node{{Kind: kind, Text: text}, {Depth: 1, Text: "a"}, {Depth: 1, Text: "a"}}
			checkNoTree(t, "a Text where none may be", list[:2])
			checkNoTree(t, "a Text where none may be", list)
		}
	}
}

func TestTreeOkKindsThatAreNone(t *testing.T) {
	reader := newLexReader()
	for _, kind := range append(edgeNumbers(), 1<<32+3, 1<<32-1, 1<<40) {
		if kind >= 0 && kind <= 6 {
			continue
		}
		for _, text := range []string{"", "a", `"s"`, ";n", "(", "'"} {
			n := impl.Node{Kind: kind, Text: text}
			within := impl.Node{Depth: 1, Kind: kind, Text: text}
			for _, list := range [][]impl.Node{{n}, {{Kind: 3}, within}, {n, {Depth: 1, Text: "a"}}, {{Kind: 6}, within}, {{Text: "a"}, n, {Text: "b"}}} {
				if checkTree(t, reader, list) {
					t.Errorf("a Kind of %d is taken", kind)
				}
			}
		}
	}
}

func TestTreeOkQuotes(t *testing.T) {
	reader := newLexReader()
	checkTrees(t, reader, true,
		"0' 1a", `0' 1"s"`, "0' 1(", "0' 1( 2a 2b", "0' 1[ 2;n", "0' 1{", "0' 1' 2' 3a", "0' 1a 0' 1b", "0' 1a 0;n", "0;n 0' 1a",
		"0( 1' 2a 1' 2b", "0( 1' 2( 3' 4a 3b", "0{ 1' 2a 1' 2b", "0' 1( 2;n 2a")
	checkTrees(t, reader, false,
		"0'", "0' 0a", "0a 0'", "0' 0' 1a", "0' 1'", "0' 1' 0a", "0( 1'", "0( 1' 1a", "0( 1' 0a",
		"0' 1a 1b", "0' 1a 1(", "0' 1( 2a 1b", "0' 1' 2a 2b", "0' 1' 2a 1b", `0' 1a 1"s" 1b`, "0( 1' 2a 2b",
		"0' 1;n", "0' 1;n 1a", "0' 1a 1;n", "0' 1;n 1;m", "0' 1' 2;n", "0( 1' 2;n", "0( 1' 2;n 1a", "0' 1( 1;n", "0' 1a 0'")
}

func TestTreeOkCurlys(t *testing.T) {
	reader := newLexReader()
	checkTrees(t, reader, true,
		"0{", "0{ 1;n", "0{ 1;n 1;m", "0{ 1;n 1;m 1;o", "0{ 1a 1b", "0{ 1;n 1a 1b", "0{ 1a 1;n 1b", "0{ 1a 1b 1;n", "0{ 1;n 1a 1;n 1;m 1b 1;n",
		"0{ 1a 1b 1c 1d", "0{ 1( 1[", "0{ 1( 2a 2b 2c 1d", "0{ 1{ 2a 2b 1{", "0{ 1' 2a 1b", "0( 1{ 2a 2b 1c", "0' 1{ 2a 2b",
		"0{ 1a 1' 2b 1;n", "0{ 1a 1( 2;n 2;m 2b")
	checkTrees(t, reader, false,
		"0{ 1a", "0{ 1;n 1a", "0{ 1a 1;n", "0{ 1a 1;n 1;m", "0{ 1;n 1a 1;m 1;o", "0{ 1a 1b 1c", "0{ 1a 1;n 1b 1;m 1c", "0{ 1(", "0{ 1( 2a", "0{ 1( 2a 2b",
		"0{ 1' 2a", "0{ 1{ 1b 1c", "0{ 1{ 2a 1b", "0{ 1{ 2a 2b", "0( 1{ 2a 1b", "0{ 1a 0b", "0{ 1a 0{ 1b", "0{ 1a 1b 0{ 1c", "0' 1{ 2a", `0{ 1"s"`, "0{ 1a 1( 2b 1c")
	for count := range 30 {
		list := append(nodes(t, "0{ 1;n"), slices.Repeat(nodes(t, "1a"), count)...)
		if checkTree(t, reader, list) != (count%2 == 0) || checkTree(t, reader, append(list, nodes(t, "1;m")...)) != (count%2 == 0) {
			t.Errorf("a NodeCurly with %d children that are no notes is not taken right", count)
		}
	}
}

// All lists of up to 4 nodes over six Kinds and the Depths 0 to 3.
func TestTreeOfAllShortLists(t *testing.T) {
	reader := newLexReader()
	longest := oftenOrShort(4, 3)
	trees := 0
	var grow func(list []impl.Node)
	grow = func(list []impl.Node) {
		if checkTree(t, reader, list) {
			trees++
		}
		if len(list) == longest {
			return
		}
		for _, n := range []impl.Node{{Text: "a"}, {Kind: 1, Text: `"s"`}, {Kind: 2, Text: ";n"}, {Kind: 3}, {Kind: 5}, {Kind: 6}} {
			for n.Depth = 0; n.Depth < 4; n.Depth++ {
				grow(append(slices.Clip(list), n))
			}
		}
	}
	grow(nil)
	if trees < oftenOrShort(2000, 100) {
		t.Errorf("only %d of the lists are trees", trees)
	}
}

// randomTree has up to count nodes more at a Depth; a NodeCurly gets what it
// lacks, and a NodeQuote its one child.
func randomTree(r *rand.Rand, list []impl.Node, depth int, count int) []impl.Node {
	for count > 0 && len(list) < 198 {
		before := len(list)
		list = randomNode(r, list, depth, count-1, true)
		count -= len(list) - before
	}
	return list
}

func randomNode(r *rand.Rand, list []impl.Node, depth int, inside int, notes bool) []impl.Node {
	kind := r.Intn(10)
	if kind > 6 {
		kind = 0
	}
	if kind >= 3 && (depth >= 11 || len(list) >= 180) || kind == 2 && !notes {
		kind = 0
	}
	n := impl.Node{Depth: depth, Kind: kind}
	if kind < 3 {
		samples := lexSamples()[kind]
		n.Text = samples[r.Intn(len(samples))]
		return append(list, n)
	}
	at := len(list)
	list = append(list, n)
	if kind == 6 {
		return randomNode(r, list, depth+1, inside-1, false)
	}
	list = randomTree(r, list, depth+1, r.Intn(max(1, inside)+1)*r.Intn(4)/3)
	if kind == 5 {
		plain := 0
		for _, k := range expectedChildren(list, at) {
			if list[k].Kind != 2 {
				plain++
			}
		}
		if plain%2 == 1 {
			list = append(list, impl.Node{Depth: depth + 1, Text: "v"})
		}
	}
	return list
}

func TestPromiseOfRandomTrees(t *testing.T) {
	r := rand.New(rand.NewSource(7))
	reader := newLexReader()
	seen, large := [7]int{}, 0
	for range oftenOrShort(1500, 100) {
		list := randomTree(r, nil, 0, r.Intn(1+r.Intn(200)))
		if !checkTree(t, reader, list) {
			t.Fatalf("%q is no tree", nodesShown(list))
		}
		for _, n := range list {
			seen[n.Kind]++
		}
		if len(list) > 100 {
			large++
		}
		checkChangedTree(t, r, reader, list)
	}
	if slices.Min(seen[:]) < oftenOrShort(2000, 100) || large < oftenOrShort(150, 5) {
		t.Errorf("nodes of each Kind: %v; %d trees of more than 100 nodes", seen, large)
	}
}

// checkChangedTree changes a tree in one place, which may be a tree or not.
func checkChangedTree(t *testing.T, r *rand.Rand, reader lexReader, list []impl.Node) {
	t.Helper()
	if len(list) == 0 {
		return
	}
	k := r.Intn(len(list))
	changed := slices.Clone(list)
	switch r.Intn(5) {
	case 0:
		changed[k].Depth += r.Intn(5) - 2
	case 1:
		changed[k].Kind = r.Intn(9) - 1
	case 2:
		changed = slices.Delete(changed, k, k+1)
	case 3:
		changed[k], changed[len(list)-1] = changed[len(list)-1], changed[k]
	case 4:
		changed[k].Text = []string{"", "a", ";n", `"s"`, "(", "a b"}[r.Intn(6)]
	}
	checkTree(t, reader, changed)
	if same := slices.Equal(changed, list); impl.SameTree(changed, list) != same || impl.SameTree(list, changed) != same {
		t.Errorf("SameTree of %q and %q is not %v", nodesShown(changed), nodesShown(list), same)
	}
}
