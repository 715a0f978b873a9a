package tests

import (
	"math"
	"slices"
	"strings"
	"testing"

	"loop.example/g00829/impl"
)

// notTrees has lists that look like trees but for one thing.
func notTrees(t *testing.T) map[string][]impl.Node {
	t.Helper()
	good := nodes(t, "0( 1a 1[ 2b 1' 2c 0;x")
	changed := func(k int, n impl.Node) []impl.Node {
		list := slices.Clone(good)
		list[k] = n
		return list
	}
	return map[string][]impl.Node{
		"a first Depth of 1":      nodes(t, "1a"),
		"a Depth that is 2 more":  nodes(t, "0( 2a"),
		"a Depth below 0":         changed(6, impl.Node{Depth: -1, Text: "x"}),
		"a child of an atom":      nodes(t, "0a 1b"),
		"a Text that is none":     changed(1, impl.Node{Depth: 1, Text: "a b"}),
		"a bracket with a Text":   changed(0, impl.Node{Kind: 3, Text: "("}),
		"a Kind that is none":     changed(6, impl.Node{Kind: 7, Text: "x"}),
		"a quote without a child": nodes(t, "0( 1a 1'"),
		"an odd number":           nodes(t, "0a 0{ 1b"),
		"too deep":                chain(3, 14),
		"too many":                slices.Repeat(nodes(t, "0a"), 201),
	}
}

func TestTreeFunctionsOfListsThatAreNoTree(t *testing.T) {
	for name, list := range notTrees(t) {
		checkNoTree(t, name, list)
		for _, k := range edgeNumbers() {
			if len(impl.ChildrenOf(list, k)) > 0 || len(impl.PartOf(list, k)) > 0 {
				t.Errorf("%s: there is something at %d", name, k)
			}
		}
		good := nodes(t, "0( 1a")
		if impl.SameTree(list, good) || impl.SameTree(good, list) || impl.SameTree(list, slices.Clone(list)) {
			t.Errorf("%s: SameTree is true", name)
		}
	}
}

func TestTreeOfNoNodes(t *testing.T) {
	for _, list := range [][]impl.Node{nil, {}} {
		if !impl.TreeOk(list) || impl.PrintTree(list) != "" || impl.TreeDepth(list) != 0 || len(impl.AtomsOf(list)) != 0 {
			t.Errorf("no nodes: %v, %q, %d, %q", impl.TreeOk(list), impl.PrintTree(list), impl.TreeDepth(list), impl.AtomsOf(list))
		}
		if !impl.SameTree(list, nil) || !impl.SameTree([]impl.Node{}, list) || impl.SameTree(list, nodes(t, "0a")) || impl.SameTree(nodes(t, "0a"), list) {
			t.Errorf("SameTree of no nodes is wrong")
		}
		for _, k := range edgeNumbers() {
			if len(impl.ChildrenOf(list, k)) != 0 || len(impl.PartOf(list, k)) != 0 {
				t.Errorf("no nodes have something at %d", k)
			}
		}
	}
}

func TestPrintTreeByHand(t *testing.T) {
	for text, want := range map[string]string{
		"":                                 "",
		"0a":                               "a",
		"0a 0b":                            "a b",
		"0(":                               "()",
		"0( 0[ 0{":                         "() [] {}",
		"0( 1( 2( 1( 0(":                   "((()) ()) ()",
		"0( 1a 1[ 2b 1' 2c 0;x":            "(a [b] 'c) ;x",
		`0' 1"s" 0' 1' 2[ 3' 4a 0b`:        `'"s" ''['a] b`,
		"0;n":                              ";n",
		"0;n 0;m":                          ";n\n;m",
		"0( 1;n":                           "(;n\n)",
		"0( 1;n 0a":                        "(;n\n) a",
		"0( 1a 1;n 1( 2;m 0b":              "(a ;n\n(;m\n)) b",
		"0{ 1;n 1a 1;m 1b 1;o":             "{;n\na ;m\nb ;o\n}",
		"0{ 1' 2{ 1' 2( 3a 3b 0' 1a":       "{'{} '(a b)} 'a",
		"0{ 1k 1v 1k 1{ 2k 2v 0[ 1( 1[ 2(": "{k v k {k v}} [() [()]]",
	} {
		if got := impl.PrintTree(nodes(t, text)); got != want {
			t.Errorf("PrintTree(%q) = %q, want %q", text, got, want)
		}
	}
	twisted := []impl.Node{{Text: "a'"}, {Kind: 6}, {Depth: 1, Text: "b'c"}, {Kind: 1, Text: `"x y"`}, {Kind: 2, Text: "; ) z"}}
	if got := impl.PrintTree(twisted); got != "a' 'b'c \"x y\" ; ) z" {
		t.Errorf("PrintTree(%q) = %q", nodesShown(twisted), got)
	}
}

// A tree may be larger than what LexText reads; it is printed all the same.
func TestPrintTreeOfLargeTrees(t *testing.T) {
	for _, one := range []struct {
		list []impl.Node
		want string
	}{
		{slices.Repeat(nodes(t, "0("), 100), strings.Repeat("() ", 99) + "()"},
		{slices.Repeat(nodes(t, "0("), 101), strings.Repeat("() ", 100) + "()"},
		{slices.Repeat(nodes(t, "0("), 200), strings.Repeat("() ", 199) + "()"},
		{slices.Repeat([]impl.Node{{Text: lexemeOf("", 40, "")}}, 200), strings.Repeat(lexemeOf("", 40, "")+" ", 199) + lexemeOf("", 40, "")},
	} {
		if got := impl.PrintTree(one.list); got != one.want {
			t.Errorf("PrintTree of %d nodes is %q", len(one.list), textShown(got))
		}
		checkTreePromise(t, one.list)
	}
}

func TestChildrenByHand(t *testing.T) {
	list := nodes(t, "0( 1a 1[ 2b 2( 3c 1' 2' 3d 1;n 0;x 0{ 1k 1v 0(")
	for k, want := range map[int][]int{
		-1: {0, 10, 11, 14}, 0: {1, 2, 6, 9}, 1: {}, 2: {3, 4}, 3: {}, 4: {5}, 5: {}, 6: {7}, 7: {8}, 8: {}, 9: {}, 10: {}, 11: {12, 13}, 12: {}, 13: {}, 14: {},
		-2: {}, 15: {}, 16: {}, math.MinInt: {}, math.MaxInt: {}, 1 << 32: {}, -1 << 32: {}, 1<<32 - 1: {}, 256: {}, -256: {},
	} {
		if got := impl.ChildrenOf(list, k); !slices.Equal(got, want) {
			t.Errorf("ChildrenOf at %d = %v, want %v", k, got, want)
		}
	}
	flat := append(nodes(t, "0("), slices.Repeat(nodes(t, "1a"), 199)...)
	got := impl.ChildrenOf(flat, 0)
	if len(got) != 199 || got[0] != 1 || got[198] != 199 || !slices.IsSorted(got) || !slices.Equal(impl.ChildrenOf(flat, -1), []int{0}) {
		t.Errorf("ChildrenOf a flat tree = %v", got)
	}
	if got := impl.ChildrenOf(slices.Repeat(nodes(t, "0a"), 200), -1); len(got) != 200 || !slices.IsSorted(got) {
		t.Errorf("200 nodes have %d with Depth 0", len(got))
	}
}

func TestPartsByHand(t *testing.T) {
	list := nodes(t, "0( 1a 1[ 2b 2( 3c 1' 2' 3d 1;n 0;x 0{ 1k 1v 0(")
	for k, want := range map[int]string{
		0: "0( 1a 1[ 2b 2( 3c 1' 2' 3d 1;n", 1: "0a", 2: "0[ 1b 1( 2c", 3: "0b", 4: "0( 1c", 5: "0c", 6: "0' 1' 2d", 7: "0' 1d", 8: "0d", 9: "0;n",
		10: "0;x", 11: "0{ 1k 1v", 12: "0k", 13: "0v", 14: "0(",
		-2: "", -1: "", 15: "", 16: "", math.MinInt: "", math.MaxInt: "", 1 << 32: "", -1 << 32: "", 1<<32 - 1: "", 256: "", -256: "",
	} {
		part := impl.PartOf(list, k)
		if got := nodesShown(part); got != want || !impl.TreeOk(part) {
			t.Errorf("PartOf at %d = %q, want %q", k, got, want)
		}
	}
	deepest := append(chain(3, 12), nodes(t, "12a 12b")...)
	for k := range 12 {
		part := impl.PartOf(deepest, k)
		if impl.TreeDepth(part) != 13-k || len(part) != 14-k || part[0].Depth != 0 {
			t.Errorf("PartOf the deepest tree at %d is %q", k, nodesShown(part))
		}
	}
}

func TestTreeDepthByHand(t *testing.T) {
	for text, want := range map[string]int{
		"": 0, "0a": 1, "0a 0b": 1, "0(": 1, "0( 1a": 2, "0( 1( 2( 0a": 3, "0a 0( 1' 2a 0b": 3, "0;n": 1, "1a": -1, "0'": -1, "0{ 1a": -1, "0( 2a": -1,
	} {
		if got := impl.TreeDepth(nodes(t, text)); got != want {
			t.Errorf("TreeDepth(%q) = %d, want %d", text, got, want)
		}
	}
	if got := impl.TreeDepth(chain(4, 13)); got != 13 {
		t.Errorf("TreeDepth of the deepest tree = %d", got)
	}
}

func TestSameTree(t *testing.T) {
	lists := [][]impl.Node{}
	for _, text := range []string{
		"", "0a", "0b", "0( 1a", "0( 0a", "0[ 1a", "0' 1a", "0( 1a 0b", "0( 1a 1b", "0a 0( 1a", "0{ 1a 1b", "0{ 1b 1a", `0"a"`, "0;a", "0;a 0;a", "0( 1;a", "0(", "0[", "0{",
		"0( 1( 2a", "0( 1( 1a",
	} {
		lists = append(lists, nodes(t, text))
	}
	for i, a := range lists {
		for k, b := range lists {
			if impl.SameTree(a, b) != (i == k) {
				t.Errorf("SameTree(%q, %q) is not %v", nodesShown(a), nodesShown(b), i == k)
			}
		}
	}
	one, _, _ := impl.ParseTree("(a 'b) ;n")
	two, _, _ := impl.ParseTree(" (\na,' b );n \n")
	if !impl.SameTree(one, two) || impl.SameTree(one, two[:3]) || impl.SameTree(one[:4], two) {
		t.Errorf("SameTree of what two texts are parsed to is wrong")
	}
}

func TestNodeLine(t *testing.T) {
	shapes := []string{"x y", "x y", "x y", "()", "[]", "{}", "'"}
	for _, depth := range append(edgeNumbers(), 13, 14, 1<<32+1, 1<<40) {
		for _, kind := range append(edgeNumbers(), 1<<32+3, 13) {
			want := ""
			if depth >= 0 && depth <= 12 && kind >= 0 && kind <= 6 {
				want = strings.Repeat(" ", 2*depth) + shapes[kind]
			}
			if got := impl.NodeLine(impl.Node{Depth: depth, Kind: kind, Text: "x y"}); got != want {
				t.Errorf("NodeLine of Depth %d and Kind %d = %q, want %q", depth, kind, got, want)
			}
		}
	}
	for want, n := range map[string]impl.Node{
		"a":                              {Text: "a"},
		"    \"s\"":                      {Depth: 2, Kind: 1, Text: `"s"`},
		"  ;n":                           {Depth: 1, Kind: 2, Text: ";n"},
		"  {}":                           {Depth: 1, Kind: 5},
		"'":                              {Kind: 6},
		"":                               {},
		"      ":                         {Depth: 3, Kind: 2},
		"\xff\n":                         {Text: "\xff\n"},
		"  " + strings.Repeat("x", 5000): {Depth: 1, Text: strings.Repeat("x", 5000)},
	} {
		if got := impl.NodeLine(n); got != want {
			t.Errorf("NodeLine(%q) = %q, want %q", nodesShown([]impl.Node{n}), textShown(got), textShown(want))
		}
	}
}

func TestAtomsByHand(t *testing.T) {
	for text, want := range map[string][]string{
		"":                        {},
		"0a":                      {"a"},
		"0b 0a 0b":                {"b", "a", "b"},
		`0( 1a 1"s" 1;n 1' 2b 0c`: {"a", "b", "c"},
		`0"s" 0;n 0( 1[`:          {},
		"0( 1[ 2{ 3k 3( 4v 1z":    {"k", "v", "z"},
		"0( 2a":                   {},
		"0a 0'":                   {},
	} {
		if got := impl.AtomsOf(nodes(t, text)); !slices.Equal(got, want) {
			t.Errorf("AtomsOf(%q) = %q, want %q", text, got, want)
		}
	}
}

// roomyNodes is a copy of list that an append would write behind; spare is what
// stands there.
func roomyNodes(list []impl.Node) (again []impl.Node, spare []impl.Node) {
	room := append(slices.Clone(list), slices.Repeat([]impl.Node{{Depth: 77, Kind: 77, Text: "spare"}}, 9)...)
	return room[:len(list)], room[len(list):]
}

func TestTreeArgumentsAreNotWrittenInto(t *testing.T) {
	lists := notTrees(t)
	lists["none"] = nil
	lists["one"] = nodes(t, "0a")
	lists["a tree"] = nodes(t, "0( 1a 1[ 2b 1' 2c 0;x 0{ 1k 1v")
	for name, want := range lists {
		list, spare := roomyNodes(want)
		other, otherSpare := roomyNodes(want)
		for k := -2; k <= len(list) && k < 12; k++ {
			impl.ChildrenOf(list, k)
			impl.PartOf(list, k)
		}
		impl.TreeOk(list)
		impl.PrintTree(list)
		impl.TreeDepth(list)
		impl.SameTree(list, other)
		impl.AtomsOf(list)
		if !slices.Equal(list, want) || !slices.Equal(other, want) {
			t.Errorf("%s: an argument is written into", name)
		}
		for k := range spare {
			if spare[k] != (impl.Node{Depth: 77, Kind: 77, Text: "spare"}) || otherSpare[k] != spare[k] {
				t.Errorf("%s: behind an argument is written: %v, %v", name, spare, otherSpare)
			}
		}
	}
}

// What is written into one answer, or behind it, shows in no other and not in
// its argument.
func TestTreeAnswersAreNewMemory(t *testing.T) {
	const text = "(a [b] 'c) ;x"
	want := nodes(t, "0( 1a 1[ 2b 1' 2c 0;x")
	list, _, _ := impl.ParseTree(text)
	other, _, _ := impl.ParseTree(text)
	for k := range other {
		other[k] = impl.Node{Depth: 55, Kind: 55, Text: "other"}
	}
	_ = append(other, impl.Node{Depth: 55})
	for k := range list {
		part, again := impl.PartOf(list, k), impl.PartOf(list, k)
		for i := range part {
			part[i] = impl.Node{Depth: 55, Kind: 55, Text: "other"}
		}
		_ = append(part, part[0], part[0])
		if !slices.Equal(again, expectedPart(want, k)) {
			t.Errorf("two answers of PartOf share memory: %q", nodesShown(again))
		}
	}
	for k := -1; k < len(list); k++ {
		places, again := impl.ChildrenOf(list, k), impl.ChildrenOf(list, k)
		for i := range places {
			places[i] = 55
		}
		_ = append(places, 55, 55)
		if !slices.Equal(again, expectedChildren(want, k)) {
			t.Errorf("two answers of ChildrenOf share memory: %v", again)
		}
	}
	atoms, atomsAgain := impl.AtomsOf(list), impl.AtomsOf(list)
	for i := range atoms {
		atoms[i] = "other"
	}
	_ = append(atoms, "other")
	if !slices.Equal(atomsAgain, []string{"a", "b", "c"}) || !slices.Equal(list, want) {
		t.Errorf("an answer shares memory: %q, %q", atomsAgain, nodesShown(list))
	}
	part, places, printed := impl.PartOf(list, 2), impl.ChildrenOf(list, 0), impl.PrintTree(list)
	for k := range list {
		list[k] = impl.Node{Depth: 55}
	}
	if nodesShown(part) != "0[ 1b" || !slices.Equal(places, []int{1, 2, 4}) || !slices.Equal(atomsAgain, []string{"a", "b", "c"}) || printed != text {
		t.Errorf("an answer changes with its argument: %q, %v, %q, %q", nodesShown(part), places, atomsAgain, printed)
	}
}
