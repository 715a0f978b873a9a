package tests

import (
	"math"
	"slices"
	"testing"

	"loop.example/g00829/impl"
)

// expectedPaths goes on from the path of the node ahead: it is cut where the
// next node stands, and counts up there.
func expectedPaths(list []impl.Node) [][]int {
	paths, last := [][]int{}, []int{}
	for _, n := range list {
		if n.Depth < len(last) {
			last = slices.Clone(last[:n.Depth+1])
			last[n.Depth]++
		} else {
			last = append(slices.Clone(last), 0)
		}
		paths = append(paths, last)
	}
	return paths
}

func expectedPlace(list []impl.Node, path []int) int {
	return slices.IndexFunc(expectedPaths(list), func(one []int) bool { return slices.Equal(one, path) })
}

// expectedParent is found by the sentence of chapter 7 on children.
func expectedParent(list []impl.Node, k int) int {
	for i := range list {
		if slices.Contains(expectedChildren(list, i), k) {
			return i
		}
	}
	return -1
}

// placesAround has every place of a list, and numbers that are none.
func placesAround(list []impl.Node) []int {
	places := []int{math.MinInt, math.MinInt + 1, -1 << 32, -256, -2, -1}
	for k := range len(list) + 2 {
		places = append(places, k)
	}
	return append(places, len(list)+256, 1<<32, 1<<32+1, math.MaxInt-1, math.MaxInt)
}

// checkPathPlaces holds what is asked at a place of a tree against what is expected,
// and the first two sentences of promise 14.
func checkPathPlaces(t *testing.T, list []impl.Node) {
	t.Helper()
	name := shownNodes(list)
	paths := expectedPaths(list)
	for _, k := range placesAround(list) {
		if k < 0 || k >= len(list) {
			checkNoPlace(t, list, k)
			continue
		}
		path, ok := impl.PathOf(list, k)
		if !ok || !slices.Equal(path, paths[k]) || len(path) != list[k].Depth+1 {
			t.Errorf("PathOf(%q, %d) = %v, %v, want %v", name, k, path, ok, paths[k])
		}
		if got := impl.PlaceAt(list, path); got != k {
			t.Errorf("PlaceAt(%q, %v) = %d, want %d", name, path, got, k)
		}
		parent := expectedParent(list, k)
		if got := impl.ParentOf(list, k); got != parent {
			t.Errorf("ParentOf(%q, %d) = %d, want %d", name, k, got, parent)
		}
		if got, want := impl.Siblings(list, k), expectedChildren(list, parent); !slices.Equal(got, want) {
			t.Errorf("Siblings(%q, %d) = %v, want %v", name, k, got, want)
		}
		if got, want := impl.SizeOfPart(list, k), len(expectedPart(list, k)); got != want {
			t.Errorf("SizeOfPart(%q, %d) = %d, want %d", name, k, got, want)
		}
	}
}

// checkNoPlace is for lists that are no tree, and for places that there are not.
func checkNoPlace(t *testing.T, list []impl.Node, k int) {
	t.Helper()
	path, ok := impl.PathOf(list, k)
	parent, siblings, size := impl.ParentOf(list, k), impl.Siblings(list, k), impl.SizeOfPart(list, k)
	if len(path) != 0 || ok || parent != -1 || len(siblings) != 0 || size != 0 {
		t.Errorf("at %d of %q: the path %v, %v, the parent %d, the siblings %v, the size %d", k, shownNodes(list), path, ok, parent, siblings, size)
	}
}

func checkPlaceAt(t *testing.T, list []impl.Node, path []int) {
	t.Helper()
	if got, want := impl.PlaceAt(list, path), expectedPlace(list, path); got != want {
		t.Errorf("PlaceAt(%q, %v) = %d, want %d", shownNodes(list), path, got, want)
	}
}

// checkPathsAround asks for every path of a tree with each step in turn changed,
// left out, or too many.
func checkPathsAround(t *testing.T, list []impl.Node) {
	t.Helper()
	for k, path := range expectedPaths(list) {
		for at, step := range path {
			children := len(expectedChildren(list, expectedPlace(list, path[:at])))
			for _, other := range []int{math.MinInt, -1 << 32, -256, -2, -1, 0, step - 1, step + 1, children - 1, children, children + 1, step + 256, step + 1<<32, math.MaxInt - 1, math.MaxInt} {
				changed := slices.Clone(path)
				changed[at] = other
				checkPlaceAt(t, list, changed)
			}
			checkPlaceAt(t, list, path[:at])
			checkPlaceAt(t, list, path[at:])
		}
		for _, more := range []int{-1, 0, 1, len(expectedChildren(list, k)), math.MinInt, math.MaxInt} {
			checkPlaceAt(t, list, append(slices.Clip(path), more))
			checkPlaceAt(t, list, append([]int{more}, path...))
		}
	}
}

func expectedCount(list []impl.Node, kind int) int {
	count := 0
	for _, n := range list {
		if n.Kind == kind {
			count++
		}
	}
	return count
}

// expectedDeepest looks from the last place on, so that the first of several is
// found last.
func expectedDeepest(list []impl.Node) int {
	deepest := -1
	for k := len(list) - 1; k >= 0; k-- {
		if deepest == -1 || list[k].Depth >= list[deepest].Depth {
			deepest = k
		}
	}
	return deepest
}

func checkWholeTree(t *testing.T, list []impl.Node) {
	t.Helper()
	name := shownNodes(list)
	for kind := -2; kind <= 9; kind++ {
		if got, want := impl.CountNodes(list, kind), expectedCount(list, kind); got != want {
			t.Errorf("CountNodes(%q, %d) = %d, want %d", name, kind, got, want)
		}
	}
	if got, want := impl.DeepestOf(list), expectedDeepest(list); got != want {
		t.Errorf("DeepestOf(%q) = %d, want %d", name, got, want)
	}
}

func TestPathOfByHand(t *testing.T) {
	list := nodes(t, "0( 1a 1[ 2b 2( 3c 1' 2' 3d 1;n 0;x 0{ 1k 1v 0(")
	for k, want := range [][]int{
		{0}, {0, 0}, {0, 1}, {0, 1, 0}, {0, 1, 1}, {0, 1, 1, 0}, {0, 2}, {0, 2, 0}, {0, 2, 0, 0}, {0, 3}, {1}, {2}, {2, 0}, {2, 1}, {3},
	} {
		if path, ok := impl.PathOf(list, k); !ok || !slices.Equal(path, want) {
			t.Errorf("PathOf at %d = %v, %v, want %v", k, path, ok, want)
		}
		if got := impl.PlaceAt(list, want); got != k {
			t.Errorf("PlaceAt %v = %d, want %d", want, got, k)
		}
	}
	for _, k := range []int{-1, 15, 16, math.MinInt, math.MaxInt} {
		if path, ok := impl.PathOf(list, k); ok || len(path) != 0 {
			t.Errorf("PathOf at %d = %v, %v", k, path, ok)
		}
	}
}

func TestPlaceAtThatThereIsNot(t *testing.T) {
	list := nodes(t, "0( 1a 1[ 2b 2( 3c 1' 2' 3d 1;n 0;x 0{ 1k 1v 0(")
	for _, path := range [][]int{
		nil, {}, {-1}, {4}, {5}, {math.MinInt}, {math.MaxInt}, {-1, 0}, {4, 0},
		{0, -1}, {0, 4}, {0, math.MaxInt}, {0, -1, 0}, {0, 4, 0}, {-1, 1}, {0, math.MinInt, 0},
		{0, 1, -1}, {0, 1, 2}, {0, 1, 1, 1}, {0, 1, 1, -1}, {0, 1, -1, 0}, {0, -1, 1, 0}, {-1, 1, 1, 0},
		{0, 0, 0}, {1, 0}, {3, 0}, {0, 1, 1, 0, 0}, {0, 2, 0, 0, 0}, {0, 2, 1}, {0, 2, 0, 1}, {2, 2},
		slices.Repeat([]int{0}, 13), slices.Repeat([]int{0}, 14), slices.Repeat([]int{0}, 5000), slices.Repeat([]int{-1}, 13), slices.Repeat([]int{-1}, 14),
		append([]int{0, 1}, slices.Repeat([]int{-1}, 11)...), append([]int{0, 1}, slices.Repeat([]int{-1}, 12)...), {256}, {0, 257}, {1 << 32},
	} {
		if got := impl.PlaceAt(list, path); got != -1 {
			t.Errorf("PlaceAt %v = %d", path, got)
		}
	}
}

func TestParentsAndSiblingsByHand(t *testing.T) {
	list := nodes(t, "0( 1a 1[ 2b 2( 3c 1' 2' 3d 1;n 0;x 0{ 1k 1v 0(")
	parents := []int{-1, 0, 0, 2, 2, 4, 0, 6, 7, 0, -1, -1, 11, 11, -1}
	siblings := map[int][]int{-1: {0, 10, 11, 14}, 0: {1, 2, 6, 9}, 2: {3, 4}, 4: {5}, 6: {7}, 7: {8}, 11: {12, 13}}
	sizes := []int{10, 1, 4, 1, 2, 1, 3, 2, 1, 1, 1, 3, 1, 1, 1}
	for k, parent := range parents {
		if got := impl.ParentOf(list, k); got != parent {
			t.Errorf("ParentOf at %d = %d, want %d", k, got, parent)
		}
		if got := impl.Siblings(list, k); !slices.Equal(got, siblings[parent]) {
			t.Errorf("Siblings at %d = %v, want %v", k, got, siblings[parent])
		}
		if got := impl.SizeOfPart(list, k); got != sizes[k] {
			t.Errorf("SizeOfPart at %d = %d, want %d", k, got, sizes[k])
		}
	}
	for _, k := range []int{-2, -1, 15, 16, math.MinInt, math.MaxInt} {
		checkNoPlace(t, list, k)
	}
}

func TestCountNodesByHand(t *testing.T) {
	for text, want := range map[string][7]int{
		"":                        {},
		"0a":                      {1, 0, 0, 0, 0, 0, 0},
		`0( 1a 1"s" 1;n 1' 2b 0c`: {3, 1, 1, 1, 0, 0, 1},
		"0( 1( 2[ 2{ 3' 4a 3[ 0;": {1, 0, 1, 2, 2, 1, 1},
		"0' 1' 2' 3a 0;n 0;n":     {1, 0, 2, 0, 0, 0, 3},
		`0"a" 0"b" 0"" 0{ 0{`:     {0, 3, 0, 0, 0, 2, 0},
	} {
		list := nodes(t, text)
		for _, kind := range append(edgeNumbers(), 1<<32+3) {
			count := 0
			if kind >= 0 && kind <= 6 {
				count = want[kind]
			}
			if got := impl.CountNodes(list, kind); got != count {
				t.Errorf("CountNodes(%q, %d) = %d, want %d", text, kind, got, count)
			}
		}
	}
}

func TestDeepestOfByHand(t *testing.T) {
	for text, want := range map[string]int{
		"": -1, "0a": 0, "0a 0b": 0, "0( 1a": 1, "0( 0[ 1a 1b 0( 1c": 2, "0( 1a 1[ 2b 1' 2c 0;x": 3, "0a 0( 1( 1( 2( 1( 2( 3a 0( 1( 2( 3b": 7, "0' 1a 0' 1b": 1,
		"0;n 0;m": 0, "0( 1( 0( 1( 2(": 4,
	} {
		if got := impl.DeepestOf(nodes(t, text)); got != want {
			t.Errorf("DeepestOf(%q) = %d, want %d", text, got, want)
		}
	}
}

// treesAtTheLimits are as many nodes, or as deep, as the document allows, or
// next to it.
func treesAtTheLimits(t *testing.T) map[string][]impl.Node {
	t.Helper()
	flat := slices.Repeat(nodes(t, "0a"), 200)
	inside := append(nodes(t, "0("), slices.Repeat(nodes(t, "1a"), 199)...)
	return map[string][]impl.Node{
		"none":             nil,
		"one":              nodes(t, "0a"),
		"one bracket":      nodes(t, "0{"),
		"flat":             flat,
		"flat less one":    flat[:199],
		"inside":           inside,
		"inside less one":  inside[:199],
		"deepest":          chain(3, 13),
		"deepest less one": chain(3, 12),
		"deepest by atom":  append(chain(6, 12), nodes(t, "12a")...),
		"deepest at end":   append(slices.Repeat(nodes(t, "0a"), 187), chain(4, 13)...),
		"deepest pairs":    append(append(chain(4, 11), nodes(t, "11{")...), slices.Repeat(nodes(t, "12k 12v"), 94)...),
		"many deepest":     slices.Repeat(chain(3, 13), 15),
	}
}

func TestPathsAtTheLimits(t *testing.T) {
	for name, list := range treesAtTheLimits(t) {
		if !impl.TreeOk(list) {
			t.Fatalf("%s: no tree", name)
		}
		checkPathPlaces(t, list)
		checkWholeTree(t, list)
		if len(list) < 20 {
			checkPathsAround(t, list)
		}
	}
	trees := treesAtTheLimits(t)
	for _, one := range []struct {
		name string
		path []int
		want int
	}{
		{"flat", []int{199}, 199}, {"flat", []int{200}, -1}, {"flat less one", []int{198}, 198}, {"flat less one", []int{199}, -1},
		{"inside", []int{0, 198}, 199}, {"inside", []int{0, 199}, -1}, {"inside", []int{198}, -1},
		{"deepest", slices.Repeat([]int{0}, 13), 12}, {"deepest", slices.Repeat([]int{0}, 14), -1}, {"deepest less one", slices.Repeat([]int{0}, 12), 11}, {"deepest less one", slices.Repeat([]int{0}, 13), -1},
		{"deepest pairs", append(slices.Repeat([]int{0}, 12), 187), 199}, {"deepest pairs", append(slices.Repeat([]int{0}, 12), 188), -1}, {"many deepest", append([]int{14}, slices.Repeat([]int{0}, 12)...), 194},
		{"deepest by atom", append(slices.Repeat([]int{0}, 13), -1), -1}, {"none", []int{0}, -1}, {"one", []int{0}, 0}, {"one", []int{1}, -1}, {"one", []int{0, 0}, -1},
	} {
		if got := impl.PlaceAt(trees[one.name], one.path); got != one.want {
			t.Errorf("%s: PlaceAt %v = %d, want %d", one.name, one.path, got, one.want)
		}
	}
	if path, ok := impl.PathOf(trees["deepest pairs"], 199); !ok || len(path) != 13 || path[12] != 187 {
		t.Errorf("the path of the last of the deepest pairs is %v, %v", path, ok)
	}
	if got := impl.Siblings(trees["flat"], 77); len(got) != 200 || !slices.IsSorted(got) {
		t.Errorf("the siblings of 200 nodes are %v", got)
	}
}

// checkPathsOfNoTree asks all that takes a list, at each place and at some paths.
func checkPathsOfNoTree(t *testing.T, list []impl.Node) {
	t.Helper()
	name := shownNodes(list)
	for _, k := range placesAround(list) {
		checkNoPlace(t, list, k)
	}
	for _, path := range [][]int{nil, {}, {0}, {1}, {0, 0}, {0, 1}, {0, 0, 0}, {-1}, slices.Repeat([]int{0}, 14)} {
		if got := impl.PlaceAt(list, path); got != -1 {
			t.Errorf("PlaceAt(%q, %v) = %d", name, path, got)
		}
	}
	for _, kind := range edgeNumbers() {
		if got := impl.CountNodes(list, kind); got != -1 {
			t.Errorf("CountNodes(%q, %d) = %d", name, kind, got)
		}
	}
	if got := impl.DeepestOf(list); got != -1 {
		t.Errorf("DeepestOf(%q) = %d", name, got)
	}
}

func TestPathsOfListsThatAreNoTree(t *testing.T) {
	for _, list := range moreNotTrees(t) {
		checkPathsOfNoTree(t, list)
	}
}

// moreNotTrees has lists of each kind that TreeOk refuses.
func moreNotTrees(t *testing.T) map[string][]impl.Node {
	t.Helper()
	lists := notTrees(t)
	for name, text := range map[string]string{
		"a Depth of -2 alone":     "-2a",
		"a Depth of -1 alone":     "-1a",
		"a child of a string":     `0"s" 1a`,
		"a child of a note":       "0;n 1a",
		"a quote alone":           "0'",
		"a quote of two":          "0' 1a 1b",
		"a quote of a note":       "0' 1;n",
		"a quote and a note":      "0' 1a 1;n",
		"a quote of no last node": "0a 0'",
		"one in curly brackets":   "0{ 1a",
		"one and a note":          "0{ 1;n 1a",
		"three within":            "0( 1{ 2a 2b 2c",
	} {
		lists[name] = nodes(t, text)
	}
	lists["a Kind of -1"] = []impl.Node{{Kind: -1}}
	lists["an atom without a Text"] = []impl.Node{{}}
	lists["two lexemes"] = []impl.Node{{Text: "'a"}}
	lists["a note as an atom"] = []impl.Node{{Text: ";n"}}
	lists["a Text too long"] = []impl.Node{{Text: lexemeOf("", 41, "")}}
	lists["far too many"] = slices.Repeat(nodes(t, "0a"), 5000)
	return lists
}
