package tests

import (
	"slices"
	"strings"
	"testing"

	"loop.example/g00829/impl"
)

// expectedRename is the document's sentence; whether to is an atom is asked of
// the tests' own reader.
func expectedRename(reader lexReader, list []impl.Node, from string, to string) ([]impl.Node, int) {
	if expectedNoTree(reader, list) != "" || !expectedLexeme(reader, 0, to) {
		return list, -1
	}
	next, count := []impl.Node{}, 0
	for _, n := range list {
		if n.Kind == 0 && n.Text == from {
			n = impl.Node{Depth: n.Depth, Text: to}
			count++
		}
		next = append(next, n)
	}
	return next, count
}

// checkRename tells how many atoms were renamed.
func checkRename(t *testing.T, reader lexReader, list []impl.Node, from string, to string) int {
	t.Helper()
	got, count := impl.RenameAtoms(list, from, to)
	want, wantCount := expectedRename(reader, list, from, to)
	if count != wantCount || !slices.Equal(got, want) {
		t.Errorf("RenameAtoms(%q, %q, %q) = %q, %d, want %q, %d", shownNodes(list), from, textShown(to), shownNodes(got), count, shownNodes(want), wantCount)
	}
	return count
}

func TestRenameAtomsByHand(t *testing.T) {
	reader := newLexReader()
	for _, one := range []struct {
		list  string
		from  string
		to    string
		want  string
		count int
	}{
		{"0( 1a 1[ 2b 1' 2a 0;a", "a", "z", "0( 1z 1[ 2b 1' 2z 0;a", 2},
		{"0( 1a 1[ 2b 1' 2a 0;a", "b", "zz", "0( 1a 1[ 2zz 1' 2a 0;a", 1},
		{"0( 1a 1[ 2b 1' 2a 0;a", "c", "z", "0( 1a 1[ 2b 1' 2a 0;a", 0},
		{"0a 0a 0a", "a", "b'c", "0b'c 0b'c 0b'c", 3},
		{"0a 0a 0b", "a", "a", "0a 0a 0b", 2},
		{"0a 0b 0a", "a", "b", "0b 0b 0b", 2},
		{"0a 0A 0aa 0a'", "a", "z", "0z 0A 0aa 0a'", 1},
		{"0{ 1k 1k 1;k", "k", "v", "0{ 1v 1v 1;k", 2},
		{"", "a", "b", "", 0},
		// nodes of other Kinds with that Text
		{`0"s" 0a 0"s"`, `"s"`, "z", `0"s" 0a 0"s"`, 0},
		{"0;n 0( 1;n", ";n", "z", "0;n 0( 1;n", 0},
		{"0( 1[ 1{ 1' 2a", "", "z", "0( 1[ 1{ 1' 2a", 0},
		{"0( 1[ 1{ 1' 2a", "(", "z", "0( 1[ 1{ 1' 2a", 0},
		{"0( 1[ 1{ 1' 2a", "'", "z", "0( 1[ 1{ 1' 2a", 0},
		{"0a", "a ", "z", "0a", 0},
		{"0a", "a b", "z", "0a", 0},
		// what is no atom
		{"0a 0b", "a", "", "0a 0b", -1},
		{"0a 0b", "a", `"s"`, "0a 0b", -1},
		{"0a 0b", "a", ";n", "0a 0b", -1},
		{"0a 0b", "a", "(", "0a 0b", -1},
		{"0a 0b", "a", "]", "0a 0b", -1},
		{"0a 0b", "a", "'", "0a 0b", -1},
		{"0a 0b", "a", "x y", "0a 0b", -1},
		{"0a 0b", "a", "x,y", "0a 0b", -1},
		{"0a 0b", "a", " x", "0a 0b", -1},
		{"0a 0b", "a", "x ", "0a 0b", -1},
		{"0a 0b", "a", "x\n", "0a 0b", -1},
		{"0a 0b", "a", ",x", "0a 0b", -1},
		{"0a 0b", "a", " ", "0a 0b", -1},
		{"0a 0b", "a", "'x", "0a 0b", -1},
		{"0a 0b", "a", "''", "0a 0b", -1},
		{"0a 0b", "a", "x(", "0a 0b", -1},
		{"0a 0b", "a", "x;y", "0a 0b", -1},
		{"0a 0b", "a", `x"y"`, "0a 0b", -1},
		{"0a 0b", "a", "x\x7f", "0a 0b", -1},
		{"0a 0b", "a", "é", "0a 0b", -1},
		{"0a 0b", "a", "x\x00", "0a 0b", -1},
		{"0a 0b", "c", "(", "0a 0b", -1},
		{"", "a", "(", "", -1},
		// lists that are no tree
		{"1a", "a", "z", "1a", -1},
		{"0a 0'", "a", "z", "0a 0'", -1},
		{"0{ 1a", "a", "z", "0{ 1a", -1},
		{"0a 0'", "a", "(", "0a 0'", -1},
	} {
		list := nodes(t, one.list)
		checkRename(t, reader, list, one.from, one.to)
		got, count := impl.RenameAtoms(list, one.from, one.to)
		if count != one.count || nodesShown(got) != one.want {
			t.Errorf("RenameAtoms(%q, %q, %q) = %q, %d, want %q, %d", one.list, one.from, one.to, nodesShown(got), count, one.want, one.count)
		}
	}
}

func TestRenameAtomsAtTheLimits(t *testing.T) {
	reader := newLexReader()
	longest, tooLong := strings.Repeat("x", 40), strings.Repeat("x", 41)
	for name, list := range treesAtTheLimits(t) {
		atoms := expectedCount(list, 0)
		for _, from := range []string{"a", "k", "z"} {
			for _, to := range []string{longest, "b", from} {
				if count := checkRename(t, reader, list, from, to); count > atoms {
					t.Errorf("%s: %d of %d atoms are renamed", name, count, atoms)
				}
			}
			for _, to := range []string{tooLong, strings.Repeat("x", 2001), strings.Repeat("x ", 300), strings.Repeat("(", 201), ""} {
				if count := checkRename(t, reader, list, from, to); count != -1 {
					t.Errorf("%s: to %q %d are renamed", name, textShown(to), count)
				}
			}
		}
	}
	flat := treesAtTheLimits(t)["flat"]
	if got, count := impl.RenameAtoms(flat, "a", longest); count != 200 || !slices.Equal(got, slices.Repeat([]impl.Node{{Text: longest}}, 200)) {
		t.Errorf("200 atoms are renamed %d times to %q", count, shownNodes(got))
	}
	if got, count := impl.RenameAtoms([]impl.Node{{Text: longest}}, longest, "a"); count != 1 || nodesShown(got) != "0a" {
		t.Errorf("the longest atom is renamed %d times to %q", count, nodesShown(got))
	}
}

func TestRenameAtomsOfListsThatAreNoTree(t *testing.T) {
	reader := newLexReader()
	for name, list := range moreNotTrees(t) {
		for _, from := range []string{"a", "b", "x", "", ";n"} {
			for _, to := range []string{"z", from, "", "("} {
				if count := checkRename(t, reader, list, from, to); count != -1 {
					t.Errorf("%s: %d are renamed", name, count)
				}
			}
		}
	}
}

// What a NodeAtom may not have as its Text, no atom is renamed to.
func TestRenameAtomsToWrongTexts(t *testing.T) {
	reader := newLexReader()
	list := nodes(t, "0( 1a 1' 2a 0;a")
	for _, to := range wrongTexts()[0] {
		if count := checkRename(t, reader, list, "a", to); count != -1 {
			t.Errorf("to %q %d are renamed", textShown(to), count)
		}
		if count := checkRename(t, reader, list, to, "z"); count != 0 {
			t.Errorf("from %q %d are renamed", textShown(to), count)
		}
	}
}

// Every text of up to 4 of these bytes is an atom, or it is refused.
func TestRenameAtomsToAllShortTexts(t *testing.T) {
	const bytes = "a'\"; (\\\n~,"
	reader := newLexReader()
	list := nodes(t, "0( 1a 1' 2a 0;a")
	longest := oftenOrShort(4, 3)
	atoms := 0
	var grow func(to string)
	grow = func(to string) {
		if checkRename(t, reader, list, "a", to) == 2 {
			atoms++
		}
		if len(to) == longest {
			return
		}
		for i := range len(bytes) {
			grow(to + bytes[i:i+1])
		}
	}
	grow("")
	if atoms < oftenOrShort(200, 40) {
		t.Errorf("only %d of the texts are atoms", atoms)
	}
}
