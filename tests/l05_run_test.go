package tests

import (
	"math"
	"math/rand"
	"runtime"
	"slices"
	"strings"
	"sync"
	"testing"
	"time"

	"loop.example/g00829/impl"
)

// oftenOrShort is how much of a long test is run: under the race detector, with
// -short, it is less.
func oftenOrShort(often int, short int) int {
	if testing.Short() {
		return short
	}
	return often
}

// checkOut holds promise 5 for one stream and one width: what comes token by
// token is the layout, the program's and the expected one.
func checkOut(t *testing.T, width int, list []impl.Token) string {
	t.Helper()
	text, ok := impl.StreamOut(width, list)
	layout, layoutOk := impl.Layout(width, list)
	want := expectedLayout(width, list, expectedOf(list).sizes).text
	if !ok || !layoutOk || text != layout || text != want {
		t.Errorf("StreamOut(%d, %s) =\n%q, %v, Layout is\n%q, want\n%q", width, tokensShown(list), textShown(text), ok, textShown(layout), textShown(want))
	}
	return text
}

// checkSteps feeds a stream token by token: each step is the expected one,
// WrittenBy is what was written so far and a beginning of the layout, and no
// more than the width is held (promises 5 and 6).
func checkSteps(t *testing.T, width int, list []impl.Token) {
	t.Helper()
	layout := checkOut(t, width, list)
	e, ok := impl.NewEngine(width)
	if !ok || impl.HeldWidth(e) != 0 {
		t.Fatalf("NewEngine(%d) = %+v, %v", width, e, ok)
	}
	written, mostItems, mostWidth := "", 0, 0
	checkWritten(t, width, list, 0, "")
	for k, token := range list {
		next, text, ok := checkFeed(t, e, token)
		if !ok || !impl.EngineOk(next) {
			t.Fatalf("FeedToken of %d of %s in %d: %v, %+v", k, tokensShown(list), width, ok, next)
		}
		checkHeldNoMoreThanWidth(t, next)
		e, written = next, written+text
		mostItems, mostWidth = max(mostItems, len(e.Items)), max(mostWidth, impl.HeldWidth(e))
		checkWritten(t, width, list, k+1, written)
		if !strings.HasPrefix(layout, written) {
			t.Errorf("behind %d of %s in %d: %q is no beginning of %q", k, tokensShown(list), width, textShown(written), textShown(layout))
		}
	}
	for _, k := range []int{len(list) + 1, math.MaxInt} {
		checkWritten(t, width, list, k, written)
	}
	items, held, ok := impl.MostHeld(width, list)
	if !ok || items != mostItems || held != mostWidth {
		t.Errorf("MostHeld(%d, %s) = %d, %d, %v, want %d, %d", width, tokensShown(list), items, held, ok, mostItems, mostWidth)
	}
	last, text, ok := checkFinish(t, e)
	if !ok || written+text != layout || len(last.Items) != 0 || impl.HeldWidth(last) != 0 || last.Level != 0 {
		t.Errorf("FinishEngine behind %s in %d = %+v, %q, %v", tokensShown(list), width, last, textShown(text), ok)
	}
}

func checkWritten(t *testing.T, width int, list []impl.Token, k int, want string) {
	t.Helper()
	if got, ok := impl.WrittenBy(width, list, k); !ok || got != want {
		t.Errorf("WrittenBy(%d, %s, %d) = %q, %v, want %q", width, tokensShown(list), k, textShown(got), ok, textShown(want))
	}
}

// checkNoOut expects the answers for what is no stream or no width.
func checkNoOut(t *testing.T, name string, width int, list []impl.Token) {
	t.Helper()
	if text, ok := impl.StreamOut(width, list); ok || text != "" {
		t.Errorf("%s: StreamOut(%d) = %q, %v", name, width, textShown(text), ok)
	}
	if items, held, ok := impl.MostHeld(width, list); ok || items != 0 || held != 0 {
		t.Errorf("%s: MostHeld(%d) = %d, %d, %v", name, width, items, held, ok)
	}
}

// checkNotWritten expects WrittenBy's answer for what is refused.
func checkNotWritten(t *testing.T, name string, width int, list []impl.Token, k int) {
	t.Helper()
	if text, ok := impl.WrittenBy(width, list, k); ok || text != "" {
		t.Errorf("%s: WrittenBy(%d, %d) = %q, %v", name, width, k, textShown(text), ok)
	}
}

// checkAnyList takes lists that are no streams, too: each beginning of one may
// still be fed up to the first token that is refused.
func checkAnyList(t *testing.T, name string, width int, list []impl.Token) {
	t.Helper()
	if expectedOf(list).ok {
		checkOut(t, width, list)
	} else {
		checkNoOut(t, name, width, list)
	}
	e := impl.Engine{Width: width, Marks: marksOf(1)}
	written, ok := "", true
	for k := 0; k <= len(list); k++ {
		if ok {
			checkWritten(t, width, list, k, written)
		} else {
			checkNotWritten(t, name, width, list, k)
		}
		if ok && k < len(list) {
			var text string
			e, text, ok = expectedFeed(e, list[k])
			written += text
		}
	}
}

func TestEngineRunsByHand(t *testing.T) {
	for _, c := range []struct {
		width   int
		text    string
		want    string
		items   int
		held    int
		written []string // behind 0, 1, 2 .. tokens
	}{
		{9, ``, "", 0, 0, []string{""}},
		{9, `"ab"`, "ab", 0, 0, []string{"", "ab"}},
		{9, `_2`, "", 1, 2, []string{"", ""}},
		{1, `_2`, "\n", 0, 0, []string{"", "\n"}},
		{9, `|+3`, "\n", 0, 0, []string{"", "\n"}},
		{9, `<1 >`, "", 2, 0, []string{"", "", ""}},
		{5, `"ab" _1 "cd"`, "ab cd", 2, 3, []string{"", "ab", "ab", "ab"}},
		{4, `"ab" _1 "cd"`, "ab\ncd", 1, 1, []string{"", "ab", "ab", "ab\ncd"}},
		{4, `"ab" _1 "c" "d"`, "ab\ncd", 2, 2, []string{"", "ab", "ab", "ab", "ab\ncd"}},
		{9, `"ab" _1 "cd" _1 "e"`, "ab cd e", 2, 3, []string{"", "ab", "ab", "ab", "ab cd", "ab cd"}},
		{9, `"ab" _1 "cd" | "e"`, "ab cd\ne", 2, 3, []string{"", "ab", "ab", "ab", "ab cd\n", "ab cd\ne"}},
		{20, `[2 "ab" _1 "cd" | "e" >`, "ab\n  cd\n  e", 4, 5, []string{"", "", "", "", "", "ab\n  cd\n", "ab\n  cd\n  e", "ab\n  cd\n  e"}},
		{20, `<2 "ab" _1 "cd" | "e" >`, "ab cd\n  e", 4, 5, []string{"", "", "", "", "", "ab cd\n", "ab cd\n  e", "ab cd\n  e"}},
		{6, `<1 "a" _1 [2 "b" _1 "c" > _1 "d" >`, "a b c\n d", 9, 6, []string{"", "", "", "", "", "", "", "", "", "", "a b c\n d", "a b c\n d"}},
	} {
		list := tokens(t, c.text)
		text, ok := impl.StreamOut(c.width, list)
		items, held, ok2 := impl.MostHeld(c.width, list)
		if !ok || !ok2 || text != c.want || items != c.items || held != c.held {
			t.Errorf("%s in %d: %q, %v; %d, %d, %v; want %q, %d, %d", c.text, c.width, text, ok, items, held, ok2, c.want, c.items, c.held)
		}
		for k, want := range c.written {
			checkWritten(t, c.width, list, k, want)
		}
		checkSteps(t, c.width, list)
	}
}

func TestEngineRunsOfAllShortLists(t *testing.T) {
	alphabet := []impl.Token{
		{Text: "ab"}, {Kind: impl.TokBlank}, {Kind: impl.TokBlank, Width: 2, Off: -1}, {Kind: impl.TokBegin, Off: 1}, {Kind: impl.TokBegin, Width: 1, Off: 2}, {Kind: impl.TokEnd}, {Kind: impl.TokLine, Off: 1},
	}
	most := oftenOrShort(5, 4)
	var grow func(list []impl.Token)
	grow = func(list []impl.Token) {
		for _, width := range []int{1, 2, 3, 4, 6} {
			if expectedOf(list).ok {
				checkSteps(t, width, list)
			} else {
				checkNoOut(t, tokensShown(list), width, list)
			}
		}
		if len(list) == most || t.Failed() {
			return
		}
		for _, k := range alphabet {
			grow(append(slices.Clone(list), k))
		}
	}
	grow(nil)
}

// A stream that is wrapped once more has all its breaks known of by one more.
func TestEngineRunsAtRandom(t *testing.T) {
	r := rand.New(rand.NewSource(50))
	for i := 0; i < oftenOrShort(700, 60) && !t.Failed(); i++ {
		list := mildStream(r, 1+r.Intn(40))
		if i%3 == 0 {
			list = randomStream(r, 1+r.Intn(40))
		}
		for _, width := range []int{1, 1 + r.Intn(12), 1 + r.Intn(40), 1 + r.Intn(200), 200} {
			checkSteps(t, width, list)
			if wrapped, ok := impl.WrapStream(list, i%2 == 0, i%10); ok {
				checkOut(t, width, wrapped)
			}
		}
	}
}

func TestEngineRunsInEveryWidth(t *testing.T) {
	r := rand.New(rand.NewSource(51))
	for i := 0; i < oftenOrShort(40, 4) && !t.Failed(); i++ {
		list := mildStream(r, 100+r.Intn(301))
		if i%2 == 0 {
			list = randomStream(r, 100+r.Intn(301))
		}
		for width := 1; width <= 200; width++ {
			checkOut(t, width, list)
		}
	}
}

// longStreams have MaxTokens tokens, each in another way.
func longStreams(t *testing.T) map[string][]impl.Token {
	text := impl.Token{Text: strings.Repeat("x", 40)}
	blank, end := impl.Token{Kind: impl.TokBlank}, impl.Token{Kind: impl.TokEnd}
	loose, tight := impl.Token{Kind: impl.TokBegin, Off: 9}, impl.Token{Kind: impl.TokBegin, Width: 1, Off: 9}
	around := func(begin impl.Token, inner ...impl.Token) []impl.Token {
		return append(append([]impl.Token{begin}, inner...), end)
	}
	steps := []impl.Token{}
	for _, begin := range []impl.Token{loose, tight} {
		for range 6 {
			steps = append(steps, begin, impl.Token{Text: "a"}, impl.Token{Kind: impl.TokBlank, Width: 1, Off: 9})
		}
	}
	steps = append(steps, repeated(impl.Token{Text: "b"}, 352)...)
	r := rand.New(rand.NewSource(52))
	return map[string][]impl.Token{
		"texts":             repeated(text, 400),
		"blanks":            repeated(blank, 400),
		"wide blanks":       repeated(impl.Token{Kind: impl.TokBlank, Width: 9, Off: -9}, 400),
		"lines":             repeated(impl.Token{Kind: impl.TokLine, Off: 9}, 400),
		"blanks in a loose": around(loose, repeated(blank, 398)...),
		"blanks in a tight": around(tight, repeated(blank, 398)...),
		"texts and blanks":  slices.Repeat([]impl.Token{text, {Kind: impl.TokBlank, Width: 9, Off: 9}}, 200),
		"empty blocks":      slices.Repeat([]impl.Token{loose, tight, end, end}, 100),
		"twelve deep":       append(steps, repeated(end, 12)...),
		"lines in a block":  around(tight, slices.Repeat([]impl.Token{{Text: "a"}, {Kind: impl.TokLine, Off: -9}}, 199)...),
		"at random":         randomStream(r, 400),
		"mild":              mildStream(r, 400),
	}
}

func TestEngineRunsAtTheLimits(t *testing.T) {
	for name, list := range longStreams(t) {
		if len(list) != 400 {
			t.Fatalf("%s: %d tokens", name, len(list))
		}
		for width := 1; width <= 200; width += oftenOrShort(1, 66) {
			checkOut(t, width, list)
		}
		for _, width := range []int{50, 1, 200}[:oftenOrShort(3, 1)] {
			checkSteps(t, width, list)
		}
		checkNoOut(t, name+" and one more", 50, append(slices.Clone(list), impl.Token{Text: "a"}))
		checkNoOut(t, name+" in a block", 50, append(append([]impl.Token{{Kind: impl.TokBegin}}, list...), impl.Token{Kind: impl.TokEnd}))
	}
	for _, width := range []int{1, 200} {
		if items, held, ok := impl.MostHeld(width, longStreams(t)["blanks in a loose"]); !ok || items != 400 || held != 0 {
			t.Errorf("MostHeld(%d) of 398 blanks in a block = %d, %d, %v", width, items, held, ok)
		}
	}
	checkSteps(t, 9, nested(12))
	checkNoOut(t, "13 blocks", 9, nested(13))
	checkWritten(t, 9, nested(13), 12, "")
	checkNotWritten(t, "13 blocks", 9, nested(13), 13)
}

// Just as much as the width is held, and then one more is not.
func TestEngineHoldsTheWidth(t *testing.T) {
	for width := 1; width <= 200; width++ {
		list := append([]impl.Token{{Kind: impl.TokBegin}}, repeated(impl.Token{Text: "a"}, width)...)
		fits := append(slices.Clone(list), impl.Token{Kind: impl.TokEnd})
		if items, held, ok := impl.MostHeld(width, fits); !ok || items != width+2 || held != width {
			t.Errorf("MostHeld(%d) of a block as wide = %d, %d, %v", width, items, held, ok)
		}
		checkWritten(t, width, fits, len(fits), "")
		wider := append(slices.Clone(list), impl.Token{Text: "b"}, impl.Token{Kind: impl.TokEnd})
		if items, held, ok := impl.MostHeld(width, wider); !ok || items != width+1 || held != width {
			t.Errorf("MostHeld(%d) of a block wider by one = %d, %d, %v", width, items, held, ok)
		}
		checkWritten(t, width, wider, width+1, "")
		checkWritten(t, width, wider, width+2, strings.Repeat("a", width)+"b")
	}
}

// Whatever comes behind it, what was written early stays the beginning.
func TestEngineWritesABeginningOfWhateverComes(t *testing.T) {
	r := rand.New(rand.NewSource(53))
	for i := 0; i < oftenOrShort(3000, 100) && !t.Failed(); i++ {
		first := mildStream(r, 2+r.Intn(16))
		first = first[:1+r.Intn(len(first))]
		width := 1 + r.Intn(20)
		early, ok := impl.WrittenBy(width, first, len(first))
		ends := repeated(impl.Token{Kind: impl.TokEnd}, blocksOpen(first))
		for range 10 {
			other := slices.Concat(first, mildStream(r, r.Intn(12)), ends)
			layout, layoutOk := impl.Layout(width, other)
			if layoutOk && (!ok || !strings.HasPrefix(layout, early)) {
				t.Errorf("%s in %d: %q, %v is no beginning of %q", tokensShown(other), width, early, ok, layout)
			}
		}
	}
}

func blocksOpen(list []impl.Token) int {
	open := 0
	for _, k := range list {
		switch k.Kind {
		case impl.TokBegin:
			open++
		case impl.TokEnd:
			open--
		}
	}
	return open
}

func TestEngineRunsOfNoStreams(t *testing.T) {
	for name, list := range badLists(t) {
		for _, width := range []int{1, 2, 40, 200} {
			checkAnyList(t, name, width, list)
		}
	}
}

func TestEngineRunsInNoWidth(t *testing.T) {
	list := tokens(t, `<1 "ab" _1 "cd" >`)
	for _, width := range []int{math.MinInt, -200, -1, 0, 201, 400, math.MaxInt} {
		for _, list := range [][]impl.Token{nil, list, list[1:], repeated(list[1], 401)} {
			checkNoOut(t, "no width", width, list)
			for _, k := range []int{math.MinInt, -1, 0, 1, 5, math.MaxInt} {
				checkNotWritten(t, "no width", width, list, k)
			}
		}
	}
	for _, width := range []int{1, 200} {
		checkSteps(t, width, nil)
		checkSteps(t, width, list)
	}
}

func TestEngineWrittenByPlacesThatAreNone(t *testing.T) {
	list := tokens(t, `<1 "ab" _1 "cd" > _1 "e"`)
	for _, k := range []int{math.MinInt, math.MinInt + 1, -7, -1} {
		for _, list := range [][]impl.Token{nil, list, list[:2]} {
			checkNotWritten(t, "k below 0", 7, list, k)
		}
	}
	for _, k := range []int{7, 8, 400, math.MaxInt} {
		checkWritten(t, 7, list, k, "ab cd")
	}
}

// What is behind the first k tokens is not fed, and not looked at.
func TestEngineWrittenByLooksAtTheFirstAlone(t *testing.T) {
	for text, want := range map[string]string{`"a" _1 "b" _1`: "a b", `<1 "a" |`: "a\n", `"a"`: "a", ``: ""} {
		good := tokens(t, text)
		for _, bad := range [][]impl.Token{{{}}, {{Kind: 9}}, tokens(t, `> > >`), repeated(impl.Token{Text: "a"}, 500)} {
			list := append(slices.Clone(good), bad...)
			checkWritten(t, 9, list, len(good), want)
		}
		checkNotWritten(t, text, 9, append(slices.Clone(good), impl.Token{}), len(good)+1)
		checkNotWritten(t, text, 9, append(slices.Clone(good), impl.Token{}), math.MaxInt)
	}
}

// StreamOut alone has a greatest number of tokens; WrittenBy feeds as many as
// FeedToken takes.
func TestEngineRunsOfMoreThanMaxTokens(t *testing.T) {
	list := repeated(impl.Token{Text: "a"}, 401)
	checkNoOut(t, "401 texts", 9, list)
	for _, k := range []int{399, 400, 401} {
		checkWritten(t, 9, list, k, strings.Repeat("a", k))
	}
	checkWritten(t, 9, list, 402, strings.Repeat("a", 401))
	held := append([]impl.Token{{Kind: impl.TokBegin}}, repeated(impl.Token{Kind: impl.TokBlank}, 3000)...)
	checkWritten(t, 9, held, 400, "")
	for _, k := range []int{401, 402, 3001, math.MaxInt} {
		checkNotWritten(t, "400 held", 9, held, k)
	}
}

func TestEngineRunsUpToBig(t *testing.T) {
	list := repeated(impl.Token{Text: strings.Repeat("x", 40)}, 25000)
	all := strings.Repeat("x", 1000000)
	checkWritten(t, 200, list, len(list), all)
	checkWritten(t, 200, append(list, impl.Token{Kind: impl.TokLine}), 25001, all+"\n")
	checkNotWritten(t, "Total above Big", 200, append(list, impl.Token{Text: "x"}), 25001)
	checkNotWritten(t, "Total above Big", 200, append(list, repeated(impl.Token{Text: "x"}, 5000)...), math.MaxInt)

	begin, line, text := impl.Token{Kind: impl.TokBegin, Off: 9}, impl.Token{Kind: impl.TokLine, Off: 9}, impl.Token{Text: "y"}
	// The first block's mark is at 999969, the second one's at 999988, the third one's beyond Big.
	list = append(list[:24999], begin, line, text, begin, line, text, begin)
	want := strings.Repeat("x", 999960) + "\n" + strings.Repeat(" ", 999978) + "y\n" + strings.Repeat(" ", 999997) + "y"
	checkWritten(t, 200, list, len(list), want)
	checkNotWritten(t, "a mark beyond Big", 200, append(list, text), len(list)+1)
	checkNotWritten(t, "a mark beyond Big", 200, append(list, repeated(line, 5000)...), math.MaxInt)
}

func TestEngineRunsWriteIntoNothing(t *testing.T) {
	for _, text := range []string{``, `"a"`, `<0 "a" _1 "b" > | "c"`, `[2 "aa" _1 <5 "b" _1 "c" > _1 "dddd" >`, `<0 "a"`, `"a" >`} {
		want := tokens(t, text)
		list, spare := roomy(want)
		for _, width := range []int{-1, 0, 1, 3, 200, 201} {
			impl.StreamOut(width, list)
			impl.MostHeld(width, list)
			for k := -1; k <= len(list)+1; k++ {
				impl.WrittenBy(width, list, k)
			}
		}
		checkUntouched(t, "a function of a width and a list", list, want, spare)
	}
}

// What was answered stays when the argument is changed.
func TestEngineRunsAreKept(t *testing.T) {
	list := tokens(t, `[2 "aa" _1 <5 "b" _1 "c" > _1 "dddd" >`)
	text, _ := impl.StreamOut(4, list)
	early, _ := impl.WrittenBy(4, list, 6)
	for k := range list {
		list[k] = impl.Token{Kind: impl.TokLine}
	}
	if text != "aa\n  b\n       c\n  dddd" || early != "aa\n" {
		t.Errorf("answers change with the argument: %q, %q", text, early)
	}
}

// runsToRepeat are calls that come to their end in all ways: at the end of the
// tokens, where the scanner refuses, and where the printer does.
func runsToRepeat(t *testing.T) map[string]func() string {
	told := func(text string, ok bool) string {
		if !ok {
			return "false" + text
		}
		return "true " + text
	}
	list := randomStream(rand.New(rand.NewSource(54)), 400)
	bad := slices.Insert(slices.Clone(list), 200, impl.Token{})
	held := append([]impl.Token{{Kind: impl.TokBegin}}, repeated(impl.Token{Kind: impl.TokBlank}, 3000)...)
	return map[string]func() string{
		"a stream":        func() string { return told(impl.StreamOut(40, list)) },
		"no tokens":       func() string { return told(impl.StreamOut(40, nil)) },
		"no width":        func() string { return told(impl.StreamOut(0, list)) },
		"too many":        func() string { return told(impl.StreamOut(40, append(list, list...))) },
		"not closed":      func() string { return told(impl.StreamOut(40, []impl.Token{{Kind: impl.TokBegin}})) },
		"a beginning":     func() string { return told(impl.WrittenBy(40, list, 100)) },
		"a bad token":     func() string { return told(impl.WrittenBy(40, bad, 401)) },
		"a bad one ahead": func() string { return told(impl.WrittenBy(40, append([]impl.Token{{}}, list...), 401)) },
		"too many held":   func() string { return told(impl.WrittenBy(40, held, 3001)) },
		"both refuse":     func() string { return told(impl.WrittenBy(40, append(held[:401:401], impl.Token{}), 402)) },
		"one too many":    func() string { return told(impl.WrittenBy(40, held, 401)) },
		"most held": func() string {
			items, width, ok := impl.MostHeld(40, list)
			return told(strings.Repeat("i", items)+strings.Repeat("w", width), ok)
		},
	}
}

// No goroutine is left behind a call. One that is just leaving may be counted
// for a moment.
func TestEngineLeavesNoGoroutine(t *testing.T) {
	for name, call := range runsToRepeat(t) {
		before := runtime.NumGoroutine()
		for range oftenOrShort(200, 50) {
			call()
		}
		for wait := 0; runtime.NumGoroutine() > before; wait++ {
			if wait == 2000 {
				t.Fatalf("%s: %d goroutines, %d before", name, runtime.NumGoroutine(), before)
			}
			time.Sleep(time.Millisecond)
		}
	}
}

// The answer is the same however goroutines take turns, and whoever calls
// beside it.
func TestEngineRunsAreTheSameInAnyOrder(t *testing.T) {
	calls := runsToRepeat(t)
	want := map[string]string{}
	for name, call := range calls {
		want[name] = call()
	}
	for name, told := range want {
		refused := slices.Contains([]string{"no width", "too many", "not closed", "a bad token", "a bad one ahead", "too many held", "both refuse", "one too many"}, name)
		if strings.HasPrefix(told, "false") != refused || refused && told != "false" {
			t.Errorf("%s: %q", name, textShown(told))
		}
	}
	defer runtime.GOMAXPROCS(runtime.GOMAXPROCS(0))
	for _, threads := range []int{1, 2, 8} {
		runtime.GOMAXPROCS(threads)
		var callers sync.WaitGroup
		for range 6 {
			callers.Add(1)
			go func() {
				defer callers.Done()
				for range oftenOrShort(60, 15) {
					for name, call := range calls {
						if got := call(); got != want[name] {
							t.Errorf("%s: %q, want %q", name, textShown(got), textShown(want[name]))
						}
					}
				}
			}()
		}
		callers.Wait()
	}
}
