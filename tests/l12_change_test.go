package tests

import (
	"math"
	"slices"
	"testing"

	"loop.example/g00829/impl"
)

// bush is a node with all that is in it. The expected changes are made on
// bushes, which know no Depths, and not on lists.
type bush struct {
	kind   int
	text   string
	inside []*bush
}

// bushOf takes -1 for what all of Depth 0 hangs on.
func bushOf(list []impl.Node, k int) *bush {
	b := &bush{}
	if k >= 0 {
		b.kind, b.text = list[k].Kind, list[k].Text
	}
	for _, child := range expectedChildren(list, k) {
		b.inside = append(b.inside, bushOf(list, child))
	}
	return b
}

func (b *bush) nodes(depth int) []impl.Node {
	list := []impl.Node{}
	for _, child := range b.inside {
		list = append(list, impl.Node{Depth: depth, Kind: child.kind, Text: child.text})
		list = append(list, child.nodes(depth+1)...)
	}
	return list
}

// expectedChange takes so many away at a path, and puts all that is in part there.
func expectedChange(reader lexReader, list []impl.Node, path []int, gone int, part []impl.Node) ([]impl.Node, bool) {
	whole := bushOf(list, -1)
	over := whole
	for _, step := range path[:len(path)-1] {
		over = over.inside[step]
	}
	at := path[len(path)-1]
	over.inside = slices.Replace(over.inside, at, at+gone, bushOf(part, -1).inside...)
	next := whole.nodes(0)
	if expectedNoTree(reader, next) != "" {
		return list, false
	}
	return next, true
}

func expectedOnePart(reader lexReader, part []impl.Node) bool {
	return expectedNoTree(reader, part) == "" && len(expectedChildren(part, -1)) == 1
}

func expectedReplace(reader lexReader, list []impl.Node, k int, part []impl.Node) ([]impl.Node, bool) {
	if expectedNoTree(reader, list) != "" || k < 0 || k >= len(list) || !expectedOnePart(reader, part) {
		return list, false
	}
	return expectedChange(reader, list, expectedPaths(list)[k], 1, part)
}

func expectedRemove(reader lexReader, list []impl.Node, k int) ([]impl.Node, bool) {
	if expectedNoTree(reader, list) != "" || k < 0 || k >= len(list) {
		return list, false
	}
	return expectedChange(reader, list, expectedPaths(list)[k], 1, nil)
}

func expectedInsert(reader lexReader, list []impl.Node, k int, part []impl.Node) ([]impl.Node, bool) {
	if expectedNoTree(reader, list) != "" || k < 0 || k > len(list) || !expectedOnePart(reader, part) {
		return list, false
	}
	if k == len(list) {
		return expectedChange(reader, list, []int{len(expectedChildren(list, -1))}, 0, part)
	}
	return expectedChange(reader, list, expectedPaths(list)[k], 0, part)
}

// change is one of the three that change a tree at a place; RemoveAt takes no
// part.
type change struct {
	name     string
	does     func(list []impl.Node, k int, part []impl.Node) ([]impl.Node, bool)
	expected func(reader lexReader, list []impl.Node, k int, part []impl.Node) ([]impl.Node, bool)
}

func replacing() change { return change{"ReplaceAt", impl.ReplaceAt, expectedReplace} }

func inserting() change { return change{"InsertAhead", impl.InsertAhead, expectedInsert} }

func removing() change {
	return change{
		"RemoveAt",
		func(list []impl.Node, k int, _ []impl.Node) ([]impl.Node, bool) { return impl.RemoveAt(list, k) },
		func(reader lexReader, list []impl.Node, k int, _ []impl.Node) ([]impl.Node, bool) {
			return expectedRemove(reader, list, k)
		},
	}
}

func changes() []change { return []change{replacing(), inserting(), removing()} }

// check holds one change against what is expected, and tells whether it was made.
func (c change) check(t *testing.T, reader lexReader, list []impl.Node, k int, part []impl.Node) bool {
	t.Helper()
	got, ok := c.does(list, k, part)
	want, wantOk := c.expected(reader, list, k, part)
	if ok != wantOk || !slices.Equal(got, want) {
		t.Errorf("%s(%q, %d, %q) = %q, %v, want %q, %v", c.name, shownNodes(list), k, shownNodes(part), shownNodes(got), ok, shownNodes(want), wantOk)
	}
	if ok && !impl.TreeOk(got) {
		t.Errorf("%s(%q, %d, %q) is true and no tree", c.name, shownNodes(list), k, shownNodes(part))
	}
	return ok
}

// changeCase is a change by hand; want is what comes, or "refused".
type changeCase struct {
	list string
	k    int
	part string
	want string
}

func (c change) checkByHand(t *testing.T, cases []changeCase) {
	t.Helper()
	reader := newLexReader()
	for _, one := range cases {
		list, part := nodes(t, one.list), nodes(t, one.part)
		c.check(t, reader, list, one.k, part)
		got, ok := c.does(list, one.k, part)
		if one.want == "refused" {
			if ok || nodesShown(got) != one.list {
				t.Errorf("%s(%q, %d, %q) = %q, %v", c.name, one.list, one.k, one.part, nodesShown(got), ok)
			}
		} else if !ok || nodesShown(got) != one.want {
			t.Errorf("%s(%q, %d, %q) = %q, %v, want %q", c.name, one.list, one.k, one.part, nodesShown(got), ok, one.want)
		}
	}
}

const changedTree = "0( 1a 1[ 2b 1' 2c 0;x"

func TestReplaceAtByHand(t *testing.T) {
	replacing().checkByHand(t, []changeCase{
		{changedTree, 0, "0z", "0z 0;x"},
		{changedTree, 1, "0z", "0( 1z 1[ 2b 1' 2c 0;x"},
		{changedTree, 2, "0z", "0( 1a 1z 1' 2c 0;x"},
		{changedTree, 3, "0( 1p 1[ 2q", "0( 1a 1[ 2( 3p 3[ 4q 1' 2c 0;x"},
		{changedTree, 2, "0' 1{ 2k 2v", "0( 1a 1' 2{ 3k 3v 1' 2c 0;x"},
		{changedTree, 6, "0( 1p", "0( 1a 1[ 2b 1' 2c 0( 1p"},
		{changedTree, 1, "0;n", "0( 1;n 1[ 2b 1' 2c 0;x"},
		{changedTree, 1, `0"s"`, `0( 1"s" 1[ 2b 1' 2c 0;x`},
		{"0a", 0, "0b", "0b"},
		{"0( 1( 2(", 2, "0[", "0( 1( 2["},
		{"0( 1( 2(", 1, "0[ 1a 1b", "0( 1[ 2a 2b"},
		// a quote, its child, and what hangs below it
		{changedTree, 4, "0z", "0( 1a 1[ 2b 1z 0;x"},
		{changedTree, 4, "0;n", "0( 1a 1[ 2b 1;n 0;x"},
		{changedTree, 5, "0z", "0( 1a 1[ 2b 1' 2z 0;x"},
		{changedTree, 5, "0;n", "refused"},
		{changedTree, 5, "0' 1z", "0( 1a 1[ 2b 1' 2' 3z 0;x"},
		{changedTree, 5, "0( 1;n", "0( 1a 1[ 2b 1' 2( 3;n 0;x"},
		{"0' 1( 2a", 2, "0;n", "0' 1( 2;n"},
		{"0' 1( 2a", 1, "0;n", "refused"},
		{"0' 1' 2a", 1, "0b", "0' 1b"},
		{"0' 1' 2a", 2, "0;n", "refused"},
		// what stands in curly brackets
		{"0{ 1k 1v 1;n", 1, "0;m", "refused"},
		{"0{ 1k 1v 1;n", 3, "0w", "refused"},
		{"0{ 1k 1v 1;n", 3, "0;m", "0{ 1k 1v 1;m"},
		{"0{ 1k 1v 1;n", 2, "0( 1;m 1a", "0{ 1k 1( 2;m 2a 1;n"},
		{"0{ 1k 1( 2a", 3, "0;n", "0{ 1k 1( 2;n"},
		// parts that are none, two, or no tree
		{changedTree, 1, "", "refused"},
		{changedTree, 1, "0p 0q", "refused"},
		{changedTree, 1, "0p 0;q", "refused"},
		{changedTree, 1, "0;p 0q", "refused"},
		{changedTree, 1, "0( 1p 0q", "refused"},
		{changedTree, 0, "1p", "refused"},
		{changedTree, 3, "2p", "refused"},
		{changedTree, 1, "0'", "refused"},
		{changedTree, 1, "0{ 1p", "refused"},
		{changedTree, 1, "0( 2p", "refused"},
		{changedTree, 1, "0p 1q", "refused"},
		{changedTree, 1, "-1p", "refused"},
		// places that there are not, and lists that are no tree
		{changedTree, -1, "0z", "refused"},
		{changedTree, 7, "0z", "refused"},
		{changedTree, 8, "0z", "refused"},
		{changedTree, math.MinInt, "0z", "refused"},
		{changedTree, math.MaxInt, "0z", "refused"},
		{"", 0, "0z", "refused"},
		{"", -1, "0z", "refused"},
		{"", 1, "0z", "refused"},
		{"0'", 0, "0z", "refused"},
		{"0{ 1a", 1, "0;n", "refused"},
		{"1a", 0, "0z", "refused"},
		{"0a 2b", 1, "0z", "refused"},
	})
}

func TestRemoveAtByHand(t *testing.T) {
	removing().checkByHand(t, []changeCase{
		{changedTree, 0, "", "0;x"},
		{changedTree, 1, "", "0( 1[ 2b 1' 2c 0;x"},
		{changedTree, 2, "", "0( 1a 1' 2c 0;x"},
		{changedTree, 3, "", "0( 1a 1[ 1' 2c 0;x"},
		{changedTree, 4, "", "0( 1a 1[ 2b 0;x"},
		{changedTree, 5, "", "refused"},
		{changedTree, 6, "", "0( 1a 1[ 2b 1' 2c"},
		{"0a", 0, "", ""},
		{"0( 1a 1b", 0, "", ""},
		{"0( 1( 2a 2b 1c", 1, "", "0( 1c"},
		{"0( 1( 2a 2b", 3, "", "0( 1( 2a"},
		{"0( 1( 2a", 1, "", "0("},
		{"0a 0b 0c", 1, "", "0a 0c"},
		{"0' 1a", 0, "", ""},
		{"0' 1a", 1, "", "refused"},
		{"0' 1' 2a", 1, "", "refused"},
		{"0' 1' 2a", 2, "", "refused"},
		{"0' 1( 2a", 2, "", "0' 1("},
		{"0' 1( 2a", 1, "", "refused"},
		{"0( 1' 2( 3a 3b 1c", 1, "", "0( 1c"},
		{"0( 1' 2( 3a 3b 1c", 2, "", "refused"},
		{"0{ 1k 1v 1;n", 1, "", "refused"},
		{"0{ 1k 1v 1;n", 2, "", "refused"},
		{"0{ 1k 1v 1;n", 3, "", "0{ 1k 1v"},
		{"0{ 1k 1{ 2k 2v", 2, "", "refused"},
		{"0( 1{ 2k 2v 1a", 1, "", "0( 1a"},
		{"0{ 1k 1( 2a", 3, "", "0{ 1k 1("},
		{changedTree, -1, "", "refused"},
		{changedTree, 7, "", "refused"},
		{changedTree, 8, "", "refused"},
		{changedTree, math.MinInt, "", "refused"},
		{changedTree, math.MaxInt, "", "refused"},
		{"", 0, "", "refused"},
		{"", -1, "", "refused"},
		{"", 1, "", "refused"},
		{"0'", 0, "", "refused"},
		{"0{ 1a", 1, "", "refused"},
		{"1a", 0, "", "refused"},
		{"0a 2b", 1, "", "refused"},
	})
}

func TestInsertAheadByHand(t *testing.T) {
	inserting().checkByHand(t, []changeCase{
		{changedTree, 0, "0z", "0z 0( 1a 1[ 2b 1' 2c 0;x"},
		{changedTree, 1, "0z", "0( 1z 1a 1[ 2b 1' 2c 0;x"},
		{changedTree, 2, "0;n", "0( 1a 1;n 1[ 2b 1' 2c 0;x"},
		{changedTree, 3, "0( 1p 1[ 2q", "0( 1a 1[ 2( 3p 3[ 4q 2b 1' 2c 0;x"},
		{changedTree, 4, "0' 1z", "0( 1a 1[ 2b 1' 2z 1' 2c 0;x"},
		{changedTree, 6, "0( 1p", "0( 1a 1[ 2b 1' 2c 0( 1p 0;x"},
		{changedTree, 7, "0( 1p", "0( 1a 1[ 2b 1' 2c 0;x 0( 1p"},
		{"0( 1[ 2b", 3, "0z", "0( 1[ 2b 0z"},
		{"0( 1[ 2b", 3, "0' 1( 2z", "0( 1[ 2b 0' 1( 2z"},
		{"0( 1[ 2b 1c", 3, "0{ 1k 1v", "0( 1[ 2b 1{ 2k 2v 1c"},
		{"", 0, "0z", "0z"},
		{"", 0, "0( 1' 2z", "0( 1' 2z"},
		{"0a", 0, "0;n", "0;n 0a"},
		{"0a", 1, "0;n", "0a 0;n"},
		// ahead of a quote's child, of what hangs below it, and of what comes behind
		{changedTree, 5, "0z", "refused"},
		{changedTree, 5, "0;n", "refused"},
		{"0' 1' 2a", 1, "0z", "refused"},
		{"0' 1' 2a", 2, "0;n", "refused"},
		{"0' 1( 2a", 1, "0z", "refused"},
		{"0' 1( 2a", 2, "0z", "0' 1( 2z 2a"},
		{"0' 1( 2a", 3, "0z", "0' 1( 2a 0z"},
		{"0' 1a", 2, "0z", "0' 1a 0z"},
		{"0( 1' 2a 1b", 3, "0z", "0( 1' 2a 1z 1b"},
		// what stands in curly brackets
		{"0{ 1k 1v", 1, "0z", "refused"},
		{"0{ 1k 1v", 2, "0' 1z", "refused"},
		{"0{ 1k 1v", 2, "0;n", "0{ 1k 1;n 1v"},
		{"0{ 1k 1v", 3, "0z", "0{ 1k 1v 0z"},
		{"0{ 1k 1v", 0, "0z", "0z 0{ 1k 1v"},
		{"0{ 1k 1( 2a", 3, "0z", "0{ 1k 1( 2z 2a"},
		// parts that are none, two, or no tree
		{changedTree, 1, "", "refused"},
		{changedTree, 7, "", "refused"},
		{changedTree, 1, "0p 0q", "refused"},
		{changedTree, 7, "0p 0q", "refused"},
		{changedTree, 1, "0p 0;q", "refused"},
		{changedTree, 0, "0( 1p 0q", "refused"},
		{changedTree, 1, "1p", "refused"},
		{changedTree, 7, "1p", "refused"},
		{changedTree, 1, "0'", "refused"},
		{changedTree, 7, "0{ 1p", "refused"},
		{changedTree, 1, "0( 2p", "refused"},
		{changedTree, 1, "-1p", "refused"},
		{"", 0, "", "refused"},
		{"", 0, "0p 0q", "refused"},
		// places that there are not, and lists that are no tree
		{changedTree, -1, "0z", "refused"},
		{changedTree, 8, "0z", "refused"},
		{changedTree, math.MinInt, "0z", "refused"},
		{changedTree, math.MaxInt, "0z", "refused"},
		{"", -1, "0z", "refused"},
		{"", 1, "0z", "refused"},
		{"0'", 1, "0z", "refused"},
		{"0{ 1a", 1, "0z", "refused"},
		{"0{ 1a", 2, "0z", "refused"},
		{"1a", 0, "0z", "refused"},
		{"1a", 1, "0z", "refused"},
		{"0' 1;n", 1, "0z", "refused"},
	})
}

// At the limits a change is made that meets them, and refused when one node or
// one Depth more would come.
func TestChangesAtTheLimits(t *testing.T) {
	reader := newLexReader()
	trees := treesAtTheLimits(t)
	one, two, deep := nodes(t, "0z"), nodes(t, "0( 1z"), trees["deepest"]
	for _, c := range []struct {
		change change
		list   string
		k      int
		part   []impl.Node
		want   bool
	}{
		{replacing(), "flat", 7, one, true},
		{replacing(), "flat", 7, two, false},
		{replacing(), "flat", 199, two, false},
		{replacing(), "flat", 200, one, false},
		{replacing(), "flat", 201, one, false},
		{replacing(), "flat less one", 7, two, true},
		{replacing(), "flat less one", 198, nodes(t, "0( 1y 1z"), false},
		{replacing(), "flat less one", 199, one, false},
		{replacing(), "inside", 0, trees["inside"], true},
		{replacing(), "inside", 1, two, false},
		{replacing(), "one", 0, trees["inside"], true},
		{replacing(), "one", 0, append(slices.Clone(trees["inside"]), impl.Node{Depth: 1, Text: "z"}), false},
		{replacing(), "none", 0, one, false},
		{replacing(), "deepest", 12, one, true},
		{replacing(), "deepest", 12, two, false},
		{replacing(), "deepest", 11, two, true},
		{replacing(), "deepest", 11, deep[:3], false},
		{replacing(), "deepest", 0, deep, true},
		{replacing(), "deepest", 1, deep, false},
		{replacing(), "deepest", 1, deep[:12], true},
		{replacing(), "deepest by atom", 12, nodes(t, "0' 1z"), false},
		{inserting(), "flat", 0, one, false},
		{inserting(), "flat", 199, one, false},
		{inserting(), "flat", 200, one, false},
		{inserting(), "flat", 201, one, false},
		{inserting(), "flat less one", 0, one, true},
		{inserting(), "flat less one", 199, one, true},
		{inserting(), "flat less one", 199, two, false},
		{inserting(), "flat less one", 200, one, false},
		{inserting(), "inside less one", 1, one, true},
		{inserting(), "inside less one", 1, two, false},
		{inserting(), "none", 0, trees["inside"], true},
		{inserting(), "none", 0, append(slices.Clone(trees["inside"]), impl.Node{Depth: 1, Text: "z"}), false},
		{inserting(), "one", 1, trees["inside less one"], true},
		{inserting(), "one", 1, trees["inside"], false},
		{inserting(), "deepest", 12, one, true},
		{inserting(), "deepest", 12, two, false},
		{inserting(), "deepest", 11, two, true},
		{inserting(), "deepest", 1, deep, false},
		{inserting(), "deepest", 1, deep[:12], true},
		{inserting(), "deepest", 13, deep, true},
		{inserting(), "deepest", 0, deep, true},
		{inserting(), "many deepest", 195, nodes(t, "0( 1( 2( 3( 4z"), true},
		{inserting(), "many deepest", 195, deep[:6], false},
		{inserting(), "deepest pairs", 12, nodes(t, "0;n"), false},
		{removing(), "flat", 199, nil, true},
		{removing(), "flat", 200, nil, false},
		{removing(), "flat", 201, nil, false},
		{removing(), "inside", 0, nil, true},
		{removing(), "deepest", 12, nil, true},
		{removing(), "deepest", 0, nil, true},
		{removing(), "deepest by atom", 12, nil, false},
		{removing(), "deepest by atom", 1, nil, false},
		{removing(), "deepest by atom", 0, nil, true},
		{removing(), "deepest pairs", 199, nil, false},
		{removing(), "deepest pairs", 11, nil, true},
		{removing(), "none", 0, nil, false},
		{removing(), "one", 0, nil, true},
		{removing(), "one", 1, nil, false},
	} {
		if got := c.change.check(t, reader, trees[c.list], c.k, c.part); got != c.want {
			t.Errorf("%s of %q at %d with %d nodes is %v", c.change.name, c.list, c.k, len(c.part), got)
		}
	}
}

func TestChangesOfListsThatAreNoTree(t *testing.T) {
	reader := newLexReader()
	good := nodes(t, changedTree)
	for name, wrong := range moreNotTrees(t) {
		for _, c := range changes() {
			for _, part := range [][]impl.Node{nil, nodes(t, "0z"), nodes(t, "0;n"), wrong} {
				for _, k := range placesAround(wrong[:min(len(wrong), 20)]) {
					if c.check(t, reader, wrong, k, part) {
						t.Errorf("%s: %s is true", name, c.name)
					}
				}
			}
		}
		for _, c := range []change{replacing(), inserting()} {
			for _, k := range placesAround(good) {
				if c.check(t, reader, good, k, wrong) {
					t.Errorf("%s: %s of that part is true", name, c.name)
				}
			}
		}
	}
}
