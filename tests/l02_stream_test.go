package tests

import (
	"math"
	"math/rand"
	"slices"
	"strings"
	"testing"

	"loop.example/g00829/impl"
)

// tokens reads tokens that are written with one blank between each two.
func tokens(t *testing.T, text string) []impl.Token {
	t.Helper()
	list := []impl.Token{}
	for _, word := range strings.Fields(text) {
		k, ok := impl.ParseToken(word)
		if !ok {
			t.Fatalf("%q is no token", word)
		}
		list = append(list, k)
	}
	return list
}

func tokensShown(list []impl.Token) string {
	if len(list) > 60 {
		return tokensShown(list[:30]) + " .. " + tokensShown(list[len(list)-30:])
	}
	words := []string{}
	for _, k := range list {
		words = append(words, shown(k))
	}
	return strings.Join(words, " ")
}

func repeated(k impl.Token, count int) []impl.Token {
	return slices.Repeat([]impl.Token{k}, count)
}

// nested is a text within so many blocks.
func nested(depth int) []impl.Token {
	list := repeated(impl.Token{Kind: impl.TokBegin}, depth)
	list = append(list, impl.Token{Text: "a"})
	return append(list, repeated(impl.Token{Kind: impl.TokEnd}, depth)...)
}

// expectedStream is what the document says of a list, token by token, found
// without the program.
type expectedStream struct {
	ok      bool
	depth   int
	levels  []int
	sizes   []int
	matches []int
	plain   string
}

func expectedOf(list []impl.Token) expectedStream {
	e := expectedStream{ok: len(list) <= 400}
	stack := []int{}
	for k, t := range list {
		if !impl.TokenOk(t) {
			e.ok = false
		}
		e.matches = append(e.matches, -1)
		switch t.Kind {
		case impl.TokBegin:
			e.levels = append(e.levels, len(stack))
			stack = append(stack, k)
			e.depth = max(e.depth, len(stack))
		case impl.TokEnd:
			if len(stack) == 0 {
				return expectedStream{depth: -1}
			}
			begin := stack[len(stack)-1]
			stack = stack[:len(stack)-1]
			e.levels = append(e.levels, len(stack))
			e.matches[begin], e.matches[k] = k, begin
		default:
			e.levels = append(e.levels, len(stack))
		}
	}
	if !e.ok || len(stack) > 0 || e.depth > 12 {
		return expectedStream{depth: -1}
	}
	for k, t := range list {
		e.sizes = append(e.sizes, expectedSize(list, e.levels, k))
		e.plain += expectedPlain(t)
	}
	return e
}

func expectedWidth(t impl.Token) int {
	switch t.Kind {
	case impl.TokText:
		return len(t.Text)
	case impl.TokBlank:
		return t.Width
	}
	return 0
}

func expectedPlain(t impl.Token) string {
	if t.Kind == impl.TokLine {
		return "\n"
	}
	if t.Kind == impl.TokBlank {
		return "         "[:t.Width]
	}
	return t.Text
}

func expectedSize(list []impl.Token, levels []int, k int) int {
	sum := expectedWidth(list[k])
	if list[k].Kind != impl.TokBegin && list[k].Kind != impl.TokBlank {
		return sum
	}
	for at := k + 1; at < len(list); at++ {
		isLine := list[at].Kind == impl.TokLine
		if (isLine || list[at].Kind == impl.TokBlank) && levels[at] <= levels[k] {
			return sum
		}
		if isLine {
			return 1000000
		}
		sum += expectedWidth(list[at])
	}
	return sum
}

// checkStream holds every function of one list against what is expected.
func checkStream(t *testing.T, list []impl.Token) {
	t.Helper()
	e := expectedOf(list)
	if ok := impl.StreamOk(list); ok != e.ok {
		t.Errorf("StreamOk(%s) = %v", tokensShown(list), ok)
	}
	if got := impl.LevelsOf(list); !slices.Equal(got, e.levels) {
		t.Errorf("LevelsOf(%s) = %v, want %v", tokensShown(list), got, e.levels)
	}
	if got := impl.DepthOf(list); got != e.depth {
		t.Errorf("DepthOf(%s) = %d, want %d", tokensShown(list), got, e.depth)
	}
	if got := impl.SizesOf(list); !slices.Equal(got, e.sizes) {
		t.Errorf("SizesOf(%s) = %v, want %v", tokensShown(list), got, e.sizes)
	}
	if got := impl.PlainOf(list); got != e.plain {
		t.Errorf("PlainOf(%s) = %q, want %q", tokensShown(list), got, e.plain)
	}
	checkPlaces(t, list, e)
}

func checkPlaces(t *testing.T, list []impl.Token, e expectedStream) {
	t.Helper()
	for k := -2; k < len(list)+2; k++ {
		size, match := -1, -1
		if e.ok && k >= 0 && k < len(list) {
			size, match = e.sizes[k], e.matches[k]
		}
		if got := impl.SizeAt(list, k); got != size {
			t.Errorf("SizeAt(%s, %d) = %d, want %d", tokensShown(list), k, got, size)
		}
		if got := impl.MatchOf(list, k); got != match {
			t.Errorf("MatchOf(%s, %d) = %d, want %d", tokensShown(list), k, got, match)
		}
	}
}

// checkPromise holds a stream against promise 2 alone, without sizes or
// matches from elsewhere.
func checkPromise(t *testing.T, list []impl.Token) {
	t.Helper()
	sizes := impl.SizesOf(list)
	if len(sizes) != len(list) {
		t.Fatalf("SizesOf(%s) = %v", tokensShown(list), sizes)
	}
	for k, token := range list {
		match := impl.MatchOf(list, k)
		switch token.Kind {
		case impl.TokBegin:
			if match <= k || list[match].Kind != impl.TokEnd || impl.MatchOf(list, match) != k {
				t.Fatalf("MatchOf(%s, %d) = %d", tokensShown(list), k, match)
			}
			if most := slices.Max(sizes[k:match]); most != sizes[k] {
				t.Errorf("%s: the block at %d has size %d, and %d within it", tokensShown(list), k, sizes[k], most)
			}
		case impl.TokEnd:
			if match < 0 || match >= k || list[match].Kind != impl.TokBegin || impl.MatchOf(list, match) != k {
				t.Fatalf("MatchOf(%s, %d) = %d", tokensShown(list), k, match)
			}
		default:
			if match != -1 {
				t.Errorf("MatchOf(%s, %d) = %d, want -1", tokensShown(list), k, match)
			}
		}
	}
}

// checkWrapped expects a wrapped stream one level deeper, with all in its first size.
func checkWrapped(t *testing.T, list []impl.Token, tight bool, off int) {
	t.Helper()
	want := []impl.Token{{Kind: impl.TokBegin, Off: off}}
	if tight {
		want[0].Width = 1
	}
	want = append(append(want, list...), impl.Token{Kind: impl.TokEnd})
	got, ok := impl.WrapStream(list, tight, off)
	if !ok || !slices.Equal(got, want) {
		t.Fatalf("WrapStream(%s, %v, %d) = %s, %v", tokensShown(list), tight, off, tokensShown(got), ok)
	}
	sum := 0
	for _, k := range list {
		sum += expectedWidth(k)
	}
	if slices.ContainsFunc(list, func(k impl.Token) bool { return k.Kind == impl.TokLine }) {
		sum = impl.Big
	}
	if size := impl.SizeAt(got, 0); size != sum {
		t.Errorf("%s wrapped has size %d, want %d", tokensShown(list), size, sum)
	}
	if depth := impl.DepthOf(got); depth != impl.DepthOf(list)+1 {
		t.Errorf("%s wrapped has depth %d", tokensShown(list), depth)
	}
	for k, level := range impl.LevelsOf(list) {
		if impl.LevelsOf(got)[k+1] != level+1 {
			t.Errorf("%s wrapped: place %d is not one level deeper", tokensShown(list), k)
		}
	}
}

func checkJoined(t *testing.T, a []impl.Token, b []impl.Token, wantOk bool) {
	t.Helper()
	want := []impl.Token{}
	if wantOk {
		want = append(append(want, a...), b...)
	}
	if got, ok := impl.JoinStreams(a, b); ok != wantOk || !slices.Equal(got, want) {
		t.Errorf("JoinStreams(%s; %s) = %s, %v", tokensShown(a), tokensShown(b), tokensShown(got), ok)
	}
}

func checkNoWrap(t *testing.T, list []impl.Token, off int) {
	t.Helper()
	for _, tight := range []bool{false, true} {
		if got, ok := impl.WrapStream(list, tight, off); ok || len(got) != 0 {
			t.Errorf("WrapStream(%s, %v, %d) = %s, %v", tokensShown(list), tight, off, tokensShown(got), ok)
		}
	}
}

// randomStream is a stream of just count tokens; blocks are opened while the
// tokens that are left can close them.
func randomStream(r *rand.Rand, count int) []impl.Token {
	list := []impl.Token{}
	open := 0
	for left := count; left > 0; left-- {
		kind := r.Intn(6)
		switch {
		case open == left || kind == 0 && open > 0:
			list = append(list, impl.Token{Kind: impl.TokEnd})
			open--
		case kind <= 1 && open < 12 && open+2 <= left:
			list = append(list, impl.Token{Kind: impl.TokBegin, Width: r.Intn(2), Off: r.Intn(10)})
			open++
		case kind == 2 && r.Intn(8) == 0:
			list = append(list, impl.Token{Kind: impl.TokLine, Off: r.Intn(19) - 9})
		case kind <= 3:
			list = append(list, impl.Token{Kind: impl.TokBlank, Width: r.Intn(10), Off: r.Intn(19) - 9})
		default:
			list = append(list, impl.Token{Text: strings.Repeat("x", 1+r.Intn(40))})
		}
	}
	return list
}

func randomStreams() [][]impl.Token {
	r := rand.New(rand.NewSource(2))
	lists := [][]impl.Token{}
	for i := 0; i < 300; i++ {
		lists = append(lists, randomStream(r, 1+r.Intn(40)))
	}
	for _, count := range []int{100, 200, 398, 399, 400} {
		lists = append(lists, randomStream(r, count))
	}
	return lists
}

// badLists is one list for each reason for which a list is no stream.
func badLists(t *testing.T) map[string][]impl.Token {
	lists := map[string][]impl.Token{
		"a text alone that is empty":      {{}},
		"a text that is too long":         {{Text: strings.Repeat("x", 41)}},
		"a blank that is too wide":        {{Text: "a"}, {Kind: impl.TokBlank, Width: 10}, {Text: "b"}},
		"a line too far in":               {{Text: "a"}, {Kind: impl.TokLine, Off: 10}},
		"a begin with an Off below 0":     {{Kind: impl.TokBegin, Off: -1}, {Kind: impl.TokEnd}},
		"a begin neither tight nor loose": {{Kind: impl.TokBegin, Width: 2}, {Kind: impl.TokEnd}},
		"an end with an Off":              {{Kind: impl.TokBegin}, {Kind: impl.TokEnd, Off: 1}},
		"a kind below all":                {{Kind: -1}},
		"a kind above all":                {{Text: "a"}, {Kind: 5}},
		"a bad token at the end":          {{Text: "a"}, {Kind: impl.TokBlank, Width: 1}, {Text: " "}},
		"MaxTokens + 1 texts":             repeated(impl.Token{Text: "a"}, 401),
		"MaxDepth + 1 blocks":             nested(13),
		"far too many blocks":             nested(100),
	}
	for _, text := range []string{
		">", "<0", "[3", `"a" >`, `<0 "a"`, "> <0", "<0 > >", "<0 > > <0", "<0 <0 >", `> "a" <0`, `<0 "a" > > <0 "b" >`, `<0 [0 "a" > | <0 >`,
	} {
		lists[text] = tokens(t, text)
	}
	for at := 0; at <= 4; at++ {
		lists["a bad token among good ones, "+string(rune('0'+at))] = slices.Insert(tokens(t, `<0 "a" _1 >`), at, impl.Token{Kind: impl.TokText, Text: "\n"})
	}
	return lists
}

func TestBig(t *testing.T) {
	if impl.Big != 1000000 {
		t.Errorf("Big is %d", impl.Big)
	}
}

func TestAllShortLists(t *testing.T) {
	alphabet := []impl.Token{
		{Kind: impl.TokText, Text: "abc"}, {Kind: impl.TokBlank, Width: 2}, {Kind: impl.TokBegin, Width: 1, Off: 4}, {Kind: impl.TokEnd}, {Kind: impl.TokLine}, {Kind: impl.TokText},
	}
	var grow func(list []impl.Token)
	grow = func(list []impl.Token) {
		checkStream(t, list)
		if expectedOf(list).ok {
			checkPromise(t, list)
			checkWrapped(t, list, true, 1)
		}
		if len(list) == 7 || t.Failed() {
			return
		}
		for _, k := range alphabet {
			grow(append(slices.Clone(list), k))
		}
	}
	grow(nil)
}

func TestRandomStreams(t *testing.T) {
	for _, list := range randomStreams() {
		checkStream(t, list)
		checkPromise(t, list)
	}
}

func TestSizesByHand(t *testing.T) {
	big := impl.Big
	for _, c := range []struct {
		text   string
		levels []int
		sizes  []int
	}{
		{`_3`, []int{0}, []int{3}},
		{`"a"`, []int{0}, []int{1}},
		{`|`, []int{0}, []int{0}},
		{`<0 >`, []int{0, 0}, []int{0, 0}},
		{`_1 "ab" _2 "cde"`, []int{0, 0, 0, 0}, []int{3, 2, 5, 3}},
		// The size of a block goes on behind its end, up to the next break of its level.
		{`<0 "ab" > "c" _1 "d"`, []int{0, 1, 0, 0, 0, 0}, []int{3, 2, 0, 1, 2, 1}},
		{`<0 "ab" > "c" | "d"`, []int{0, 1, 0, 0, 0, 0}, []int{3, 2, 0, 1, 0, 1}},
		// A break of a lower level stops what is in a block.
		{`<0 "a" _1 "bb" > "c" _1 "d"`, []int{0, 1, 1, 1, 0, 0, 0, 0}, []int{5, 1, 4, 2, 0, 1, 2, 1}},
		{`<0 <0 "a" > > _1 "d"`, []int{0, 1, 2, 1, 0, 0, 0}, []int{1, 1, 1, 0, 0, 2, 1}},
		// Deeper breaks are summed.
		{`_1 <0 "a" _2 "b" > "c"`, []int{0, 0, 1, 1, 1, 0, 0}, []int{6, 5, 1, 4, 1, 0, 1}},
		{`<0 [0 _1 > _2 "a" >`, []int{0, 1, 2, 1, 1, 1, 0}, []int{4, 1, 1, 0, 3, 1, 0}},
		// Nothing behind stops it: the end of the stream does.
		{`"a" _4`, []int{0, 0}, []int{1, 4}},
		{`<0 "a" _4 >`, []int{0, 1, 1, 0}, []int{5, 1, 4, 0}},
		// A line within the block, deeper within it, and in a block behind it.
		{`<0 "a" | "b" >`, []int{0, 1, 1, 1, 0}, []int{big, 1, 0, 1, 0}},
		{`<0 "a" <0 | > >`, []int{0, 1, 1, 2, 1, 0}, []int{big, 1, big, 0, 0, 0}},
		{`<0 "a" > <0 | >`, []int{0, 1, 0, 0, 1, 0}, []int{big, 1, 0, big, 0, 0}},
		{`_1 "a" <0 "b" | >`, []int{0, 0, 0, 1, 1, 0}, []int{big, 1, big, 1, 0, 0}},
		// A line that stops the sum is none of it, and one behind the stop neither.
		{`<0 _1 "a" | "b" >`, []int{0, 1, 1, 1, 1, 0}, []int{big, 2, 1, 0, 1, 0}},
		{`_1 "a" | "b"`, []int{0, 0, 0, 0}, []int{2, 1, 0, 1}},
		{`<0 "a" > _1 <0 | >`, []int{0, 1, 0, 0, 0, 1, 0}, []int{1, 1, 0, big, big, 0, 0}},
		{`<0 "a" > | <0 | >`, []int{0, 1, 0, 0, 0, 1, 0}, []int{1, 1, 0, 0, big, 0, 0}},
		// Several lines make it no more than Big, and an Off does not count.
		{`<0 | | |+9 "a" >`, []int{0, 1, 1, 1, 1, 0}, []int{big, 0, 0, 0, 1, 0}},
		{`[9 _0+9 "a" _0-9 >`, []int{0, 1, 1, 1, 0}, []int{1, 1, 1, 0, 0}},
	} {
		list := tokens(t, c.text)
		if got := impl.LevelsOf(list); !slices.Equal(got, c.levels) {
			t.Errorf("LevelsOf(%s) = %v, want %v", c.text, got, c.levels)
		}
		if got := impl.SizesOf(list); !slices.Equal(got, c.sizes) {
			t.Errorf("SizesOf(%s) = %v, want %v", c.text, got, c.sizes)
		}
		checkStream(t, list)
		checkPromise(t, list)
	}
}

func TestMatchesByHand(t *testing.T) {
	list := tokens(t, `"a" <0 [1 "b" > _1 <2 > > | [3 >`)
	want := []int{-1, 8, 4, -1, 2, -1, 7, 6, 1, -1, 11, 10}
	for k, match := range want {
		if got := impl.MatchOf(list, k); got != match {
			t.Errorf("MatchOf at %d = %d, want %d", k, got, match)
		}
	}
}

func TestPlainOf(t *testing.T) {
	for text, want := range map[string]string{
		``:                            "",
		`<0 >`:                        "",
		`"a" _0 "b" _1 "c" _9 "d"`:    "ab c         d",
		`_2 "a" _3`:                   "  a   ",
		`| [4 "a" |+3 |-3 "b" > _1+5`: "\na\n\nb ",
	} {
		if got := impl.PlainOf(tokens(t, text)); got != want {
			t.Errorf("PlainOf(%s) = %q, want %q", text, got, want)
		}
	}
}

func TestEmptyStream(t *testing.T) {
	for _, list := range [][]impl.Token{nil, {}} {
		checkStream(t, list)
		checkWrapped(t, list, false, 0)
		checkWrapped(t, list, true, 9)
		checkJoined(t, list, nil, true)
		checkJoined(t, list, []impl.Token{{Text: "a"}}, true)
		checkJoined(t, []impl.Token{{Text: "a"}}, list, true)
	}
}

func TestListsThatAreNoStreams(t *testing.T) {
	good := tokens(t, `<0 "a" >`)
	for name, list := range badLists(t) {
		if e := expectedOf(list); e.ok {
			t.Fatalf("%s is a stream", name)
		}
		checkStream(t, list)
		checkJoined(t, list, good, false)
		checkJoined(t, good, list, false)
		checkJoined(t, list, nil, false)
		checkJoined(t, nil, list, false)
		checkNoWrap(t, list, 0)
	}
}

// Two lists that are no streams are not joined, even where a stream would come of it.
func TestHalvesAreNotJoined(t *testing.T) {
	checkJoined(t, tokens(t, `<0 "a"`), tokens(t, `_1 "b" >`), false)
	checkNoWrap(t, tokens(t, `"a" > <0 "b"`), 0)
}

func TestPlacesThatAreNone(t *testing.T) {
	list := tokens(t, `<0 "a" >`)
	for _, k := range []int{math.MinInt, math.MinInt + 1, -4, -3, -2, -1, 3, 4, 400, 1 << 32, math.MaxInt - 1, math.MaxInt} {
		if got := impl.SizeAt(list, k); got != -1 {
			t.Errorf("SizeAt at %d = %d", k, got)
		}
		if got := impl.MatchOf(list, k); got != -1 {
			t.Errorf("MatchOf at %d = %d", k, got)
		}
		if impl.SizeAt(nil, k) != -1 || impl.MatchOf(nil, k) != -1 {
			t.Errorf("an empty stream has the place %d", k)
		}
	}
	if impl.SizeAt(nil, 0) != -1 || impl.MatchOf(nil, 0) != -1 {
		t.Error("an empty stream has the place 0")
	}
}

func TestStreamLimits(t *testing.T) {
	text := impl.Token{Text: strings.Repeat("x", 40)}
	for count, want := range map[int]bool{399: true, 400: true, 401: false, 800: false} {
		list := repeated(text, count)
		if got := impl.StreamOk(list); got != want {
			t.Errorf("StreamOk of %d tokens = %v", count, got)
		}
		checkStream(t, list)
	}
	for depth, want := range map[int]bool{11: true, 12: true, 13: false} {
		list := nested(depth)
		if got := impl.StreamOk(list); got != want {
			t.Errorf("StreamOk of %d blocks = %v", depth, got)
		}
		checkStream(t, list)
		checkStream(t, append(slices.Clone(list), list...))
	}
	widest, ok := impl.WrapStream(repeated(text, 398), false, 0)
	if !ok || impl.SizeAt(widest, 0) != 398*40 {
		t.Errorf("the widest block: %v, size %d", ok, impl.SizeAt(widest, 0))
	}
}

func TestJoinStreams(t *testing.T) {
	a := repeated(impl.Token{Text: "a"}, 200)
	b := repeated(impl.Token{Text: "b"}, 200)
	checkJoined(t, a, b, true)
	checkJoined(t, b, a, true)
	checkJoined(t, a, a, true)
	checkJoined(t, a, append(b, impl.Token{Text: "c"}), false)
	checkJoined(t, append(b, impl.Token{Text: "c"}), a, false)
	checkJoined(t, repeated(impl.Token{Text: "a"}, 400), nil, true)
	checkJoined(t, nil, repeated(impl.Token{Text: "a"}, 400), true)
	checkJoined(t, repeated(impl.Token{Text: "a"}, 400), []impl.Token{{Text: "b"}}, false)
	checkJoined(t, nested(12), nested(12), true)
	checkJoined(t, nested(12), nested(13), false)
	lists := randomStreams()
	for i := 1; i < len(lists); i++ {
		checkJoined(t, lists[i-1], lists[i], len(lists[i-1])+len(lists[i]) <= 400)
	}
}

func TestWrapStream(t *testing.T) {
	for _, text := range []string{
		`"a"`, `_1`, `|`, `"a" _1 "b" _1 "c"`, `"a" | "b"`, `<0 "a" > _1 [2 "b" _1 "c" >`, `<0 "a" | > _1 "b"`, `_1 <0 <0 | > > "a"`,
	} {
		for off := 0; off <= 9; off++ {
			checkWrapped(t, tokens(t, text), false, off)
			checkWrapped(t, tokens(t, text), true, off)
		}
	}
	for i, list := range randomStreams() {
		if len(list) <= 398 && impl.DepthOf(list) < 12 {
			checkWrapped(t, list, i%2 == 0, i%10)
		}
	}
	checkWrapped(t, repeated(impl.Token{Text: "a"}, 398), false, 0)
	checkWrapped(t, nested(11), true, 0)
}

func TestWrapStreamRefuses(t *testing.T) {
	for _, off := range edgeNumbers() {
		if off < 0 || off > 9 {
			checkNoWrap(t, tokens(t, `"a"`), off)
			checkNoWrap(t, nil, off)
		}
	}
	checkNoWrap(t, repeated(impl.Token{Text: "a"}, 399), 0)
	checkNoWrap(t, repeated(impl.Token{Text: "a"}, 400), 0)
	checkNoWrap(t, nested(12), 0)
}

// roomy is a copy of list that an append would write behind; spare is what
// stands there.
func roomy(list []impl.Token) (again []impl.Token, spare []impl.Token) {
	room := append(slices.Clone(list), repeated(impl.Token{Text: "spare"}, 8)...)
	return room[:len(list)], room[len(list):]
}

func checkUntouched(t *testing.T, name string, list []impl.Token, want []impl.Token, spare []impl.Token) {
	t.Helper()
	if !slices.Equal(list, want) || !slices.Equal(spare, repeated(impl.Token{Text: "spare"}, 8)) {
		t.Errorf("%s writes into its argument: %s; %s", name, tokensShown(list), tokensShown(spare))
	}
}

func TestStreamArgumentsAreNotWrittenInto(t *testing.T) {
	texts := []string{``, `"a"`, `<0 "a" _1 "b" > | "c"`, `<0 "a"`, `"a" >`}
	for _, text := range texts {
		want := tokens(t, text)
		list, spare := roomy(want)
		other, otherSpare := roomy(want)
		impl.StreamOk(list)
		impl.LevelsOf(list)
		impl.DepthOf(list)
		impl.SizesOf(list)
		impl.PlainOf(list)
		for k := range list {
			impl.SizeAt(list, k)
			impl.MatchOf(list, k)
		}
		checkUntouched(t, "a function of one list", list, want, spare)
		impl.JoinStreams(list, other)
		checkUntouched(t, "JoinStreams", list, want, spare)
		checkUntouched(t, "JoinStreams", other, want, otherSpare)
		impl.WrapStream(list, true, 1)
		checkUntouched(t, "WrapStream", list, want, spare)
	}
}

func TestStreamAnswersAreNewMemory(t *testing.T) {
	for _, text := range []string{`"a"`, `<0 "a" _1 "b" >`, `"a" | "b"`} {
		want := tokens(t, text)
		a, aSpare := roomy(want)
		b, bSpare := roomy(want)
		joined, _ := impl.JoinStreams(a, b)
		first, _ := impl.JoinStreams(a, nil)
		second, _ := impl.JoinStreams(nil, b)
		twice, _ := impl.JoinStreams(a, a)
		wrapped, _ := impl.WrapStream(a, false, 0)
		for _, answer := range [][]impl.Token{joined, first, second, twice, wrapped} {
			kept := slices.Clone(answer)
			for k := range a {
				a[k], b[k] = impl.Token{Text: "other"}, impl.Token{Text: "other"}
			}
			if !slices.Equal(answer, kept) {
				t.Errorf("an answer for %s changes with the argument", text)
			}
			copy(a, want)
			copy(b, want)
			for k := range answer {
				answer[k] = impl.Token{Text: "other"}
			}
			_ = append(answer, impl.Token{Text: "behind"}, impl.Token{Text: "behind"})
			checkUntouched(t, "who writes into an answer", a, want, aSpare)
			checkUntouched(t, "who writes into an answer", b, want, bSpare)
		}
	}
}

func TestNumbersAreNewMemory(t *testing.T) {
	list := tokens(t, `<0 "a" _1 "b" > | "c"`)
	for name, ask := range map[string]func([]impl.Token) []int{"LevelsOf": impl.LevelsOf, "SizesOf": impl.SizesOf} {
		checkNumbersAreNew(t, name, func() []int { return ask(list) })
	}
}
