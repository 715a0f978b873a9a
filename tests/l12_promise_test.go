package tests

import (
	"fmt"
	"math/rand"
	"slices"
	"testing"

	"loop.example/g00829/impl"
)

// pathCounts tells how often a change was made, and how often it was refused.
type pathCounts map[string]int

// checkPutIn is promise 14 for one part at one place: what is put ahead of a
// node is there, and gone again when it is removed; what is put in a node's
// place is there, and the node's own part brings it back.
func checkPutIn(t *testing.T, list []impl.Node, k int, part []impl.Node, counts pathCounts) {
	t.Helper()
	name, what := shownNodes(list), shownNodes(part)
	next, ok := impl.InsertAhead(list, k, part)
	counts[fmt.Sprint("insert ", ok)]++
	if ok {
		if got := impl.PartOf(next, k); !slices.Equal(got, part) {
			t.Errorf("%q ahead of %d in %q: there is %q", what, k, name, shownNodes(got))
		}
		if gone, ok := impl.RemoveAt(next, k); !ok || !slices.Equal(gone, list) {
			t.Errorf("%q ahead of %d in %q, and removed: %q, %v", what, k, name, shownNodes(gone), ok)
		}
	}
	if k == len(list) {
		return
	}
	next, ok = impl.ReplaceAt(list, k, part)
	counts[fmt.Sprint("replace ", ok)]++
	if ok {
		if got := impl.PartOf(next, k); !slices.Equal(got, part) {
			t.Errorf("%q in the place of %d in %q: there is %q", what, k, name, shownNodes(got))
		}
		if back, ok := impl.ReplaceAt(next, k, impl.PartOf(list, k)); !ok || !slices.Equal(back, list) {
			t.Errorf("%q in the place of %d in %q, and back: %q, %v", what, k, name, shownNodes(back), ok)
		}
	}
}

// checkTakenOut is promise 14 for each place of a tree: a path leads back, what
// is replaced by itself stays, and what is removed can be put in again where it
// stood ahead of a node of its Depth.
func checkTakenOut(t *testing.T, list []impl.Node, counts pathCounts) {
	t.Helper()
	name := shownNodes(list)
	for k := range list {
		path, ok := impl.PathOf(list, k)
		if at := impl.PlaceAt(list, path); !ok || at != k || len(path) != list[k].Depth+1 {
			t.Errorf("%q: the path of %d is %v, %v, and leads to %d", name, k, path, ok, at)
		}
		part := impl.PartOf(list, k)
		if same, ok := impl.ReplaceAt(list, k, part); !ok || !slices.Equal(same, list) {
			t.Errorf("%q with %d in the place of itself: %q, %v", name, k, shownNodes(same), ok)
		}
		next, ok := impl.RemoveAt(list, k)
		counts[fmt.Sprint("remove ", ok)]++
		if !ok || k < len(next) && next[k].Depth != list[k].Depth || k == len(next) && list[k].Depth != 0 {
			continue
		}
		if back, ok := impl.InsertAhead(next, k, part); !ok || !slices.Equal(back, list) {
			t.Errorf("%q without %d, and put in again: %q, %v", name, k, shownNodes(back), ok)
		}
	}
}

// checkTreeChanges holds all changes of a tree, at each place there is and next
// to them, against what is expected, and promise 14.
func checkTreeChanges(t *testing.T, reader lexReader, list []impl.Node, parts [][]impl.Node, counts pathCounts) {
	t.Helper()
	for k := -1; k <= len(list)+1; k++ {
		removing().check(t, reader, list, k, nil)
		for _, part := range parts {
			replacing().check(t, reader, list, k, part)
			inserting().check(t, reader, list, k, part)
			if k >= 0 && k <= len(list) {
				checkPutIn(t, list, k, part, counts)
			}
		}
	}
	checkTakenOut(t, list, counts)
}

func (c pathCounts) checkEnough(t *testing.T, least int) {
	t.Helper()
	for _, name := range []string{"insert true", "insert false", "replace true", "replace false", "remove true", "remove false"} {
		if c[name] < least {
			t.Errorf("%s only %d times", name, c[name])
		}
	}
}

func partsToPutIn(t *testing.T) [][]impl.Node {
	t.Helper()
	parts := [][]impl.Node{}
	for _, text := range []string{"0z", "0;n", "0' 1z", "0( 1p 1;q", "0{ 1p 1[ 2q", "0(", "0p 0q", "", "1z"} {
		parts = append(parts, nodes(t, text))
	}
	return parts
}

func TestPromiseOfPathsOfAllShortTrees(t *testing.T) {
	reader, counts := newLexReader(), pathCounts{}
	parts := partsToPutIn(t)
	for at, list := range shortTrees(reader, oftenOrShort(4, 3)) {
		checkPathPlaces(t, list)
		checkWholeTree(t, list)
		if len(list) < 4 {
			checkPathsAround(t, list)
			checkTreeChanges(t, reader, list, parts, counts)
		} else {
			// For time, two parts each, so that each part has its share.
			checkTreeChanges(t, reader, list, [][]impl.Node{parts[at%9], parts[(at+4)%9]}, counts)
		}
		checkRename(t, reader, list, "a", "b")
		checkRename(t, reader, list, "a", "'b")
	}
	counts.checkEnough(t, 200)
}

// All lists of up to 3 nodes that are no tree.
func TestPathsOfAllShortListsThatAreNoTree(t *testing.T) {
	reader := newLexReader()
	lists := 0
	var grow func(list []impl.Node)
	grow = func(list []impl.Node) {
		if expectedNoTree(reader, list) != "" {
			lists++
			checkPathsOfNoTree(t, list)
			for k := -1; k <= len(list)+1; k++ {
				for _, c := range changes() {
					c.check(t, reader, list, k, []impl.Node{{Text: "z"}})
				}
				replacing().check(t, reader, []impl.Node{{Text: "z"}}, k, list)
				inserting().check(t, reader, []impl.Node{{Text: "z"}}, k, list)
			}
			checkRename(t, reader, list, "a", "b")
		}
		if len(list) == oftenOrShort(3, 2) {
			return
		}
		for _, n := range []impl.Node{{Text: "a"}, {Kind: 2, Text: ";n"}, {Kind: 3}, {Kind: 5}, {Kind: 6}, {Kind: 7}} {
			for n.Depth = -1; n.Depth < 3; n.Depth++ {
				grow(append(slices.Clip(list), n))
			}
		}
	}
	grow(nil)
	if lists < oftenOrShort(5000, 200) {
		t.Errorf("only %d lists are no tree", lists)
	}
}

// The parts are trees of their own, and parts of the tree itself.
func TestPromiseOfPathsOfRandomTrees(t *testing.T) {
	r := rand.New(rand.NewSource(12))
	reader, counts := newLexReader(), pathCounts{}
	large := 0
	for range oftenOrShort(250, 25) {
		list := randomTree(r, nil, 0, r.Intn(1+r.Intn(200)))
		checkPathPlaces(t, list)
		checkWholeTree(t, list)
		checkTakenOut(t, list, counts)
		if len(list) > 100 {
			large++
		}
		for range 12 {
			part := randomNode(r, nil, 0, r.Intn(12), true)
			if len(list) > 0 && r.Intn(3) == 0 {
				part = expectedPart(list, r.Intn(len(list)))
			}
			k := r.Intn(len(list) + 1)
			checkPutIn(t, list, k, part, counts)
			for _, c := range changes() {
				c.check(t, reader, list, k, part)
			}
		}
		for range 5 {
			from := lexSamples()[0][r.Intn(len(lexSamples()[0]))]
			checkRename(t, reader, list, from, "z")
		}
	}
	counts.checkEnough(t, oftenOrShort(100, 10))
	if large < oftenOrShort(20, 1) {
		t.Errorf("only %d trees of more than 100 nodes", large)
	}
}

func TestPromiseOfPathsAtTheLimits(t *testing.T) {
	counts := pathCounts{}
	for name, list := range treesAtTheLimits(t) {
		if testing.Short() && len(list) > 20 {
			continue
		}
		checkTakenOut(t, list, counts)
		for k := range len(list) + 1 {
			for _, part := range [][]impl.Node{nodes(t, "0z"), nodes(t, "0( 1p 1' 2q")} {
				checkPutIn(t, list, k, part, counts)
			}
		}
		if t.Failed() {
			t.Fatalf("%s fails", name)
		}
	}
	counts.checkEnough(t, 10)
}

// pathCalls has calls of every function, each of which writes what it is
// answered.
func pathCalls(t *testing.T) []func() string {
	t.Helper()
	calls := []func() string{}
	for _, text := range []string{"", "0a", changedTree, "0( 1[ 2b 2( 3c 1' 2' 3d 1;n 0;x 0{ 1k 1v", "0a 0'"} {
		list := nodes(t, text)
		for _, k := range []int{-1, 0, 1, 4, len(list) - 1, len(list)} {
			calls = append(calls,
				func() string { return fmt.Sprint(impl.PathOf(list, k)) },
				func() string { return fmt.Sprint(impl.PlaceAt(list, []int{0, k})) },
				func() string { return fmt.Sprint(impl.ReplaceAt(list, k, nodes(t, "0( 1z"))) },
				func() string { return fmt.Sprint(impl.RemoveAt(list, k)) },
				func() string { return fmt.Sprint(impl.InsertAhead(list, k, nodes(t, "0' 1z"))) },
				func() string { return fmt.Sprint(impl.ParentOf(list, k), impl.SizeOfPart(list, k)) },
				func() string { return fmt.Sprint(impl.CountNodes(list, k), impl.DeepestOf(list)) },
				func() string { return fmt.Sprint(impl.Siblings(list, k)) },
			)
		}
		calls = append(calls,
			func() string { return fmt.Sprint(impl.RenameAtoms(list, "a", "b")) },
			func() string { return fmt.Sprint(impl.RenameAtoms(list, "a", "'b")) },
		)
	}
	return calls
}

func TestPathsDoNotHangOnEarlierCalls(t *testing.T) { checkAnyOrder(t, pathCalls(t)) }

func TestPathsSideBySide(t *testing.T) { checkSideBySide(t, pathCalls(t)) }

// listsForMemory are what is changed, what is refused, and what is no tree.
func listsForMemory(t *testing.T) map[string][]impl.Node {
	t.Helper()
	lists := moreNotTrees(t)
	lists["none"] = nil
	lists["one"] = nodes(t, "0a")
	lists["a tree"] = nodes(t, changedTree)
	lists["as many as can be"] = treesAtTheLimits(t)["flat"]
	lists["as deep as can be"] = treesAtTheLimits(t)["deepest"]
	return lists
}

func TestPathArgumentsAreNotWrittenInto(t *testing.T) {
	extra := slices.Repeat([]impl.Node{{Depth: 77, Kind: 77, Text: "spare"}}, 9)
	for name, want := range listsForMemory(t) {
		list, spare := roomyNodes(want)
		for _, wantPart := range [][]impl.Node{nil, nodes(t, "0a"), nodes(t, "0( 1a 1[ 2a"), nodes(t, "0a 0b"), nodes(t, "1a"), want} {
			part, partSpare := roomyNodes(wantPart)
			for k := -1; k <= min(len(list)+1, 20); k++ {
				for _, c := range changes() {
					c.does(list, k, part)
				}
				path, pathSpare := roomyNumbers([]int{0, k})
				impl.PlaceAt(list, path)
				if !slices.Equal(path, []int{0, k}) || slices.ContainsFunc(pathSpare, func(n int) bool { return n != 77 }) {
					t.Errorf("%s: PlaceAt writes into a path: %v, %v", name, path, pathSpare)
				}
				impl.PathOf(list, k)
				impl.ParentOf(list, k)
				impl.SizeOfPart(list, k)
				impl.Siblings(list, k)
				impl.CountNodes(list, k)
			}
			impl.DeepestOf(list)
			impl.RenameAtoms(list, "a", "b")
			impl.RenameAtoms(list, "a", "(")
			if !slices.Equal(list, want) || !slices.Equal(spare, extra) || !slices.Equal(part, wantPart) || !slices.Equal(partSpare, extra) {
				t.Fatalf("%s: an argument is written into: %q, %q, %q, %q", name, shownNodes(list), shownNodes(spare), shownNodes(part), shownNodes(partSpare))
			}
		}
	}
}

// nodesAsked are the calls whose answer is a list of nodes, with list and part
// as they are now.
func nodesAsked(list []impl.Node, part []impl.Node) map[string]func() []impl.Node {
	asked := map[string]func() []impl.Node{}
	for k := -1; k <= min(len(list)+1, 20); k++ {
		for _, c := range changes() {
			asked[fmt.Sprint(c.name, " ", k)] = func() []impl.Node {
				next, _ := c.does(list, k, part)
				return next
			}
		}
	}
	for _, to := range []string{"b", "a", "("} {
		for _, from := range []string{"a", "c"} {
			asked[fmt.Sprint("RenameAtoms ", from, " ", to)] = func() []impl.Node {
				next, _ := impl.RenameAtoms(list, from, to)
				return next
			}
		}
	}
	return asked
}

// What is written into an answer, or behind it, shows in no other and in no
// argument; what is written into an argument shows in no answer.
func TestPathAnswersAreNewMemory(t *testing.T) {
	other := impl.Node{Depth: 55, Kind: 55, Text: "other"}
	for name, want := range listsForMemory(t) {
		for _, wantPart := range [][]impl.Node{nodes(t, "0( 1a 1;n"), nodes(t, "0a 0b")} {
			list, part := slices.Clone(want), slices.Clone(wantPart)
			for call, ask := range nodesAsked(list, part) {
				kept := slices.Clone(ask())
				one, two := ask(), ask()
				for k := range one {
					one[k] = other
				}
				_ = append(one, other, other)
				if !slices.Equal(two, kept) || !slices.Equal(ask(), kept) || !slices.Equal(list, want) || !slices.Equal(part, wantPart) {
					t.Fatalf("%s: %s shares memory", name, call)
				}
				for k := range list {
					list[k] = other
				}
				for k := range part {
					part[k] = other
				}
				if !slices.Equal(two, kept) {
					t.Fatalf("%s: the answer of %s changes with an argument", name, call)
				}
				copy(list, want)
				copy(part, wantPart)
			}
		}
	}
	list := nodes(t, changedTree)
	for k := range list {
		checkNumbersAreNew(t, "Siblings", func() []int { return impl.Siblings(list, k) })
		checkNumbersAreNew(t, "PathOf", func() []int {
			path, _ := impl.PathOf(list, k)
			return path
		})
	}
}

// A part may lie within the list that it is put into.
func TestPathsPartOfTheListItself(t *testing.T) {
	reader := newLexReader()
	want := nodes(t, "0( 1a 1' 2b 0{ 1k 1v 0z")
	for first := range want {
		for end := first; end <= len(want); end++ {
			for k := range len(want) + 1 {
				for _, c := range changes() {
					list := slices.Clone(want)
					c.check(t, reader, list, k, list[first:end])
					if !slices.Equal(list, want) {
						t.Fatalf("%s with a part of the list itself writes into it: %q", c.name, shownNodes(list))
					}
				}
			}
		}
	}
}
