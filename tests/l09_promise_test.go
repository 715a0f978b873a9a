package tests

import (
	"math/rand"
	"strings"
	"testing"

	"loop.example/g00829/impl"
)

// Trees as texts, in widths and styles of all sorts. Some are laid out longer
// than an input may be.
func TestPromiseOfFormatsOfRandomTrees(t *testing.T) {
	r := rand.New(rand.NewSource(9))
	reader := newLexReader()
	styles := everyStyle()
	counts, long := map[string]int{}, 0
	for k := range oftenOrShort(1500, 60) {
		p := readTextOf(reader, expectedPlainTree(treeToForm(r, k%5)))
		width, s := 1+r.Intn(1+r.Intn(200)), styles[r.Intn(512)]
		counts[checkForm(t, p, width, s)]++
		if want, _, _ := expectedForm(p, width, s); len(want) > 2000 {
			long++
		}
	}
	if counts["fine"] < oftenOrShort(1000, 30) || counts["big"] < oftenOrShort(50, 0) || long < oftenOrShort(15, 0) {
		t.Errorf("the codes are %v, and %d formats are too long for an input", counts, long)
	}
}

// treeToForm is a tree in some blocks, one in the other. Of the first sort are
// trees with many nodes, of the second one those that are long in a small width.
func treeToForm(r *rand.Rand, sort int) []impl.Node {
	depth := r.Intn(14)
	list := chain(3+r.Intn(2), depth)
	switch {
	case sort == 0:
		return randomTree(r, list, 0, 120+r.Intn(50))
	case sort == 1:
		depth = 8 + depth/4
		return randomTree(r, chain(3, depth), depth, 90+r.Intn(60))
	case depth == 13:
		return list
	}
	return randomTree(r, list, depth, r.Intn(1+r.Intn(200)))
}

// Texts with white bytes of all sorts, many of which fail.
func TestPromiseOfFormatsOfRandomTexts(t *testing.T) {
	r := rand.New(rand.NewSource(93))
	reader := newLexReader()
	styles := everyStyle()
	counts := map[string]int{}
	for range oftenOrShort(6000, 100) {
		p := readTextOf(reader, randomTreeText(r, r.Intn(1+r.Intn(70))))
		counts[checkForm(t, p, 1+r.Intn(1+r.Intn(200)), styles[r.Intn(512)])]++
	}
	for _, name := range formNames {
		if name != "width" && counts[name] < oftenOrShort(3, 0) {
			t.Errorf("only %d random texts are %s: %v", counts[name], name, counts)
		}
	}
}

// All short texts over some bytes, each in one width and style.
func TestPromiseOfFormatsOfShortTexts(t *testing.T) {
	reader := newLexReader()
	styles := everyStyle()
	count, fine := 0, 0
	for bytes, longest := range map[string]int{"a(){}';\n\" ": 4, "a [(])": 6} {
		var grow func(text string)
		grow = func(text string) {
			count++
			p := readTextOf(reader, text)
			if checkForm(t, p, 1+count%8, styles[count%512]) == "fine" {
				fine++
			}
			checkSqueeze(t, p)
			if len(text) == oftenOrShort(longest, 3) {
				return
			}
			for i := range len(bytes) {
				grow(text + bytes[i:i+1])
			}
		}
		grow("")
	}
	if fine < oftenOrShort(2000, 20) {
		t.Errorf("only %d of %d short texts are formatted", fine, count)
	}
}

// Every width from 1 to 200 for some large trees.
func TestPromiseOfFormatsInEveryWidth(t *testing.T) {
	r := rand.New(rand.NewSource(94))
	reader := newLexReader()
	styles := everyStyle()
	for done := 0; done < oftenOrShort(6, 1); {
		p := readTextOf(reader, expectedPlainTree(randomTree(r, nil, 0, 40)))
		s := styles[r.Intn(512)]
		if _, name, _ := expectedForm(p, 200, s); name != "fine" || strings.Count(p.text, "(") < 2 {
			continue
		}
		done++
		for width := 1; width <= 200; width += oftenOrShort(1, 50) {
			checkForm(t, p, width, s)
		}
	}
}
