package tests

import (
	"math"
	"math/rand"
	"slices"
	"strings"
	"testing"

	"loop.example/g00829/impl"
)

// All tests of this chapter begin with TestEngine: .ci/run has them run under
// the race detector by that name.

func expectedEngineOk(e impl.Engine) bool {
	in := func(n int, low int, high int) bool { return n >= low && n <= high }
	ok := in(e.Width, 1, 200) && in(e.Col, 0, 1000000) && in(e.Pend, 0, 1000000) && in(e.Total, 0, 1000000) && in(e.Level, 0, 12)
	ok = ok && in(len(e.Marks), 1, 13) && len(e.Items) <= 400
	for _, m := range e.Marks {
		ok = ok && in(m.Kind, 0, 2) && in(m.Col, -1000000, 1000000)
	}
	stack := len(e.Marks)
	for k, h := range e.Items {
		ok = ok && impl.TokenOk(h.Token) && in(h.Level, 0, 12) && in(h.Start, 0, e.Total) && in(h.Size, -1, 1000000)
		ok = ok && (k == 0 || h.Start >= e.Items[k-1].Start)
		ok = ok && (h.Size != -1 || h.Token.Kind == impl.TokBegin || h.Token.Kind == impl.TokBlank)
		switch h.Token.Kind {
		case impl.TokBegin:
			stack++
		case impl.TokEnd:
			stack--
		}
		ok = ok && in(stack, 1, 13)
	}
	return ok && stack-1 == e.Level
}

// expectedWriting writes as in step 3 with chapter 3's expected printer: what
// was written before stands as that many letters ahead on its first line.
func expectedWriting(e impl.Engine) (impl.Engine, string) {
	p := expectedPrinter{width: e.Width, lines: []string{strings.Repeat("x", e.Col) + strings.Repeat(" ", e.Pend)}}
	kinds := []string{"fits", "tight", "loose"}
	for _, m := range e.Marks {
		p.marks = append(p.marks, expectedMark{kinds[m.Kind], m.Col})
	}
	ahead := e.Col
	for len(e.Items) > 0 {
		first := e.Items[0]
		if first.Size == -1 {
			if e.Total-first.Start <= e.Width-len(*p.last()) {
				break
			}
			first.Size = 1000000
		}
		p.put(first.Token, first.Size)
		e.Items = e.Items[1:]
	}
	e.Marks = nil
	for _, m := range p.marks {
		e.Marks = append(e.Marks, impl.Mark{Kind: slices.Index(kinds, m.kind), Col: m.column})
	}
	reach := len(*p.last())
	p.endLine()
	e.Col = len(*p.last())
	e.Pend = reach - e.Col
	return e, strings.Join(p.lines, "\n")[ahead:]
}

// expectedFeed is what the document says of FeedToken, found without the program.
func expectedFeed(e impl.Engine, k impl.Token) (impl.Engine, string, bool) {
	width, level := expectedWidth(k), e.Level
	begin, end := k.Kind == impl.TokBegin, k.Kind == impl.TokEnd
	if !expectedEngineOk(e) || !impl.TokenOk(k) || end && level == 0 || begin && level == 12 || len(e.Items) == 400 || e.Total+width > 1000000 {
		return e, "", false
	}
	next := e
	next.Items = nil
	for _, h := range e.Items {
		if h.Size == -1 && (k.Kind == impl.TokBlank || k.Kind == impl.TokLine) && h.Level >= level {
			h.Size = e.Total - h.Start
		}
		if h.Size == -1 && k.Kind == impl.TokLine {
			h.Size = 1000000
		}
		next.Items = append(next.Items, h)
	}
	h := impl.Held{Token: k, Level: level, Start: e.Total, Size: width}
	if end {
		h.Level--
		next.Level--
	}
	if begin {
		next.Level++
	}
	if begin || k.Kind == impl.TokBlank {
		h.Size = -1
	}
	next.Items = append(next.Items, h)
	next.Total += width
	written, text := expectedWriting(next)
	return written, text, true
}

func expectedFinish(e impl.Engine) (impl.Engine, string, bool) {
	if !expectedEngineOk(e) || e.Level != 0 {
		return e, "", false
	}
	last := e
	last.Items = nil
	for _, h := range e.Items {
		if h.Size == -1 {
			h.Size = e.Total - h.Start
		}
		last.Items = append(last.Items, h)
	}
	written, text := expectedWriting(last)
	return written, text, true
}

func sameEngines(a impl.Engine, b impl.Engine) bool {
	return a.Width == b.Width && a.Col == b.Col && a.Pend == b.Pend && a.Total == b.Total && a.Level == b.Level &&
		slices.Equal(a.Marks, b.Marks) && slices.Equal(a.Items, b.Items)
}

// textShown is text, or its ends where it is long.
func textShown(text string) string {
	if len(text) > 300 {
		return text[:100] + " .. " + text[len(text)-100:]
	}
	return text
}

// checkFeed holds one FeedToken against what is expected, and gives what it gave.
func checkFeed(t *testing.T, e impl.Engine, k impl.Token) (impl.Engine, string, bool) {
	t.Helper()
	got, text, ok := impl.FeedToken(e, k)
	want, wantText, wantOk := expectedFeed(e, k)
	if ok != wantOk || text != wantText || !sameEngines(got, want) {
		t.Errorf("FeedToken(%+v, %s) =\n%+v, %q, %v, want\n%+v, %q, %v", e, shown(k), got, textShown(text), ok, want, textShown(wantText), wantOk)
	}
	return got, text, ok
}

func checkFinish(t *testing.T, e impl.Engine) (impl.Engine, string, bool) {
	t.Helper()
	got, text, ok := impl.FinishEngine(e)
	want, wantText, wantOk := expectedFinish(e)
	if ok != wantOk || text != wantText || !sameEngines(got, want) {
		t.Errorf("FinishEngine(%+v) =\n%+v, %q, %v, want\n%+v, %q, %v", e, got, textShown(text), ok, want, textShown(wantText), wantOk)
	}
	return got, text, ok
}

// checkEngine holds every function of one engine against what is expected.
func checkEngine(t *testing.T, e impl.Engine) {
	t.Helper()
	ok := expectedEngineOk(e)
	if got := impl.EngineOk(e); got != ok {
		t.Errorf("EngineOk(%+v) = %v", e, got)
	}
	held := 0
	switch {
	case !ok:
		held = -1
	case len(e.Items) > 0:
		held = e.Total - e.Items[0].Start
	}
	if got := impl.HeldWidth(e); got != held {
		t.Errorf("HeldWidth(%+v) = %d, want %d", e, got, held)
	}
	for _, k := range tokensToFeed() {
		if next, _, ok := checkFeed(t, e, k); ok && impl.EngineOk(next) {
			checkHeldNoMoreThanWidth(t, next)
		}
	}
	if last, _, ok := checkFinish(t, e); ok && (len(last.Items) != 0 || len(last.Marks) != 1) {
		t.Errorf("FinishEngine(%+v) leaves %+v", e, last)
	}
}

// checkHeldNoMoreThanWidth is promise 6, for an engine that was fed.
func checkHeldNoMoreThanWidth(t *testing.T, e impl.Engine) {
	t.Helper()
	if got := impl.HeldWidth(e); got < 0 || got > e.Width {
		t.Errorf("HeldWidth(%+v) = %d", e, got)
	}
}

// tokensToFeed has a token of each kind, and some that are none.
func tokensToFeed() []impl.Token {
	return []impl.Token{
		{Text: "a"}, {Text: strings.Repeat("b", 40)},
		{Kind: impl.TokBlank}, {Kind: impl.TokBlank, Width: 9, Off: -9}, {Kind: impl.TokBlank, Width: 1, Off: 3},
		{Kind: impl.TokBegin, Off: 2}, {Kind: impl.TokBegin, Width: 1, Off: 9},
		{Kind: impl.TokEnd},
		{Kind: impl.TokLine}, {Kind: impl.TokLine, Off: -9}, {Kind: impl.TokLine, Off: 9},
		{}, {Text: " a"}, {Kind: impl.TokBlank, Width: 10}, {Kind: impl.TokBegin, Width: 2}, {Kind: impl.TokEnd, Off: 1}, {Kind: 5}, {Kind: -1},
	}
}

// fedWith is the engine behind these tokens.
func fedWith(t *testing.T, width int, text string) impl.Engine {
	t.Helper()
	e, ok := impl.NewEngine(width)
	for _, k := range tokens(t, text) {
		if ok {
			e, _, ok = impl.FeedToken(e, k)
		}
	}
	if !ok {
		t.Fatalf("%q can not be fed in %d", text, width)
	}
	return e
}

func TestEngineIsNew(t *testing.T) {
	for _, width := range append(edgeNumbers(), 13, 199, 200, 201, -200, 400) {
		e, ok := impl.NewEngine(width)
		want := impl.Engine{}
		if width >= 1 && width <= 200 {
			want = impl.Engine{Width: width, Marks: []impl.Mark{{Kind: 2}}}
		}
		if ok != (want.Width > 0) || !sameEngines(e, want) || impl.EngineOk(e) != ok {
			t.Errorf("NewEngine(%d) = %+v, %v", width, e, ok)
		}
	}
}

func TestEngineFeedByHand(t *testing.T) {
	word := func(text string, level int, start int) impl.Held {
		return impl.Held{Token: impl.Token{Text: text}, Level: level, Start: start, Size: len(text)}
	}
	blank := impl.Token{Kind: impl.TokBlank, Width: 1}
	loose, tight := impl.Token{Kind: impl.TokBegin, Off: 1}, impl.Token{Kind: impl.TokBegin, Width: 1, Off: 3}
	end := impl.Held{Token: impl.Token{Kind: impl.TokEnd}}
	base := impl.Mark{Kind: 2}
	for _, c := range []struct {
		name  string
		width int
		ahead string
		fed   string
		want  impl.Engine
		text  string
	}{
		{"a text is written at once", 9, ``, `"ab"`, impl.Engine{Col: 2, Marks: []impl.Mark{base}, Total: 2}, "ab"},
		{"a text goes on", 9, `"ab"`, `"cd"`, impl.Engine{Col: 4, Marks: []impl.Mark{base}, Total: 4}, "cd"},
		{"a text that is too wide is written", 1, `"ab"`, `"cd"`, impl.Engine{Col: 4, Marks: []impl.Mark{base}, Total: 4}, "cd"},
		{"a blank is held", 9, `"ab"`, `_1`, impl.Engine{Col: 2, Marks: []impl.Mark{base}, Total: 3, Items: []impl.Held{{Token: blank, Start: 2, Size: -1}}}, ""},
		{"a blank is held where it fits just so", 3, `"ab"`, `_1`, impl.Engine{Col: 2, Marks: []impl.Mark{base}, Total: 3, Items: []impl.Held{{Token: blank, Start: 2, Size: -1}}}, ""},
		{"a blank is too wide already", 2, `"ab"`, `_1`, impl.Engine{Marks: []impl.Mark{base}, Total: 3}, "\n"},
		{"a begin is held", 9, `"ab"`, `<1`, impl.Engine{Col: 2, Marks: []impl.Mark{base}, Total: 2, Level: 1, Items: []impl.Held{{Token: loose, Start: 2, Size: -1}}}, ""},
		{"a begin of no width is too wide already", 1, `"ab"`, `<1`, impl.Engine{Col: 2, Marks: []impl.Mark{base, {Kind: 2, Col: 3}}, Total: 2, Level: 1}, ""},
		{"an end has the level that is behind it", 9, `<1 "ab"`, `>`, impl.Engine{Marks: []impl.Mark{base}, Total: 2, Items: []impl.Held{
			{Token: loose, Size: -1}, word("ab", 1, 0), {Token: end.Token, Start: 2},
		}}, ""},
		{"an end of an inner block", 9, `<1 <1`, `>`, impl.Engine{Marks: []impl.Mark{base}, Level: 1, Items: []impl.Held{
			{Token: loose, Size: -1}, {Token: loose, Level: 1, Size: -1}, {Token: end.Token, Level: 1},
		}}, ""},
		{"a break sizes several at once, those from its level on", 20, `<1 "ab" _1 [3 "c" >`, `_1`, impl.Engine{Marks: []impl.Mark{base}, Total: 5, Level: 1, Items: []impl.Held{
			{Token: loose, Size: -1}, word("ab", 1, 0), {Token: blank, Level: 1, Start: 2, Size: 2}, {Token: tight, Level: 1, Start: 3, Size: 1}, word("c", 2, 3),
			{Token: end.Token, Level: 1, Start: 4}, {Token: blank, Level: 1, Start: 4, Size: -1},
		}}, ""},
		{"a break sizes three blocks and a blank, and all are written", 20, `<1 [3 "ab" _1 <1 "c" > > >`, `_1`, impl.Engine{Col: 4, Marks: []impl.Mark{base}, Total: 5, Items: []impl.Held{
			{Token: blank, Start: 4, Size: -1},
		}}, "ab c"},
		{"a deeper break sizes none of those above it", 20, `<1 "ab" _1 <1 "c"`, `_1`, impl.Engine{Marks: []impl.Mark{base}, Total: 5, Level: 2, Items: []impl.Held{
			{Token: loose, Size: -1}, word("ab", 1, 0), {Token: blank, Level: 1, Start: 2, Size: -1}, {Token: loose, Level: 1, Start: 3, Size: -1}, word("c", 2, 3),
			{Token: blank, Level: 2, Start: 4, Size: -1},
		}}, ""},
		{"a line makes all others big", 20, `<1 "ab" _1 [3 "c"`, `|`, impl.Engine{Pend: 4, Marks: []impl.Mark{base, {Kind: 2, Col: 1}, {Kind: 1, Col: 4}}, Total: 4, Level: 2}, "ab\n c\n"},
		{"a line sizes those from its level on, and makes the others big", 20, `<1 "ab" _1 [3 "c" >`, `|`, impl.Engine{Pend: 1, Marks: []impl.Mark{base, {Kind: 2, Col: 1}}, Total: 4, Level: 1}, "ab c\n"},
		{"a line ends a block that fits", 20, `<1 "ab" _1 "c" >`, `|+2`, impl.Engine{Pend: 2, Marks: []impl.Mark{base}, Total: 4}, "ab c\n"},
		{"too wide already, once", 4, `<1 "abcd"`, `"e"`, impl.Engine{Col: 5, Marks: []impl.Mark{base, {Kind: 2, Col: 1}}, Total: 5, Level: 1}, "abcde"},
		{"too wide already, three blocks in one call", 4, `<1 <1 [3`, `"abcde"`, impl.Engine{Col: 5, Marks: []impl.Mark{base, {Kind: 2, Col: 1}, {Kind: 2, Col: 1}, {Kind: 1, Col: 3}}, Total: 5, Level: 3}, "abcde"},
		{"too wide already, a block and a blank in one call", 4, `<1 "a" _1 "bb"`, `"c"`, impl.Engine{Col: 4, Marks: []impl.Mark{base, {Kind: 2, Col: 1}}, Total: 5, Level: 1}, "a\n bbc"},
		{"too wide already, but not what is behind it", 4, `<1 "ab" _1`, `"cc"`, impl.Engine{Col: 3, Marks: []impl.Mark{base, {Kind: 2, Col: 1}}, Total: 5, Level: 1}, "ab\n cc"},
		{"too wide already, and the next one is held", 6, `<1 "abcd" _1 [3 "e"`, `"f"`, impl.Engine{Pend: 1, Marks: []impl.Mark{base, {Kind: 2, Col: 1}}, Total: 7, Level: 2, Items: []impl.Held{
			{Token: tight, Level: 1, Start: 5, Size: -1}, word("e", 2, 5), word("f", 2, 6),
		}}, "abcd\n"},
	} {
		c.want.Width = c.width
		e := fedWith(t, c.width, c.ahead)
		next, text, ok := checkFeed(t, e, tokens(t, c.fed)[0])
		if !ok || text != c.text || !sameEngines(next, c.want) {
			t.Errorf("%s: %+v, %q, %v, want\n%+v, %q", c.name, next, text, ok, c.want, c.text)
		}
		checkEngine(t, e)
		checkEngine(t, next)
	}
}

func TestEngineFinishByHand(t *testing.T) {
	for _, c := range []struct {
		width int
		ahead string
		text  string
		col   int
		pend  int
		total int
	}{
		{9, ``, "", 0, 0, 0},
		{9, `"ab"`, "", 2, 0, 2},
		{9, `"ab" _3`, "", 2, 3, 5},
		{4, `"ab" _3`, "", 0, 0, 5},
		{9, `"ab" _3-1 "cd"`, "   cd", 7, 0, 7},
		{9, `<1 "ab" _1 "cd" >`, "ab cd", 5, 0, 5},
		{9, `<1 "ab" _1 [2 "cd" > _1 >`, "ab cd", 5, 1, 6},
		{5, `"a" | [2 "ab" _1 "cd" >`, "ab cd", 5, 0, 6},
		{4, `"a" _1+3`, "", 1, 1, 2},
		{4, `"a" |+3`, "", 0, 3, 1},
		{4, `| |-3`, "", 0, 0, 0},
	} {
		e := fedWith(t, c.width, c.ahead)
		want := impl.Engine{Width: c.width, Col: c.col, Pend: c.pend, Marks: []impl.Mark{{Kind: 2}}, Total: c.total}
		last, text, ok := checkFinish(t, e)
		if !ok || text != c.text || !sameEngines(last, want) {
			t.Errorf("FinishEngine behind %s in %d = %+v, %q, %v", c.ahead, c.width, last, text, ok)
		}
		again, more, ok := checkFinish(t, last)
		if !ok || more != "" || !sameEngines(again, want) {
			t.Errorf("FinishEngine twice behind %s in %d = %+v, %q, %v", c.ahead, c.width, again, more, ok)
		}
	}
}

// An engine goes on when it was finished.
func TestEngineGoesOnBehindItsEnd(t *testing.T) {
	e := fedWith(t, 9, `<1 "ab" _1 "cd" > _2`)
	e, first, _ := checkFinish(t, e)
	e, second, ok := checkFeed(t, e, impl.Token{Text: "e"})
	if !ok || first != "" || second != "  e" || e.Col != 8 || e.Total != 8 {
		t.Errorf("%q, %q, %+v, %v", first, second, e, ok)
	}
}

func randomHeldToken(r *rand.Rand, stack int) impl.Token {
	for {
		k := tokensToFeed()[r.Intn(11)]
		if (k.Kind != impl.TokEnd || stack > 1) && (k.Kind != impl.TokBegin || stack < 13) {
			return k
		}
	}
}

// randomEngine is one that is EngineOk, mostly none that a stream leads to.
func randomEngine(r *rand.Rand) impl.Engine {
	e := impl.Engine{Width: 1 + r.Intn([]int{4, 30, 200}[r.Intn(3)]), Col: r.Intn(12), Pend: r.Intn(5)}
	for range 1 + r.Intn([]int{1, 4, 13}[r.Intn(3)]) {
		e.Marks = append(e.Marks, impl.Mark{Kind: r.Intn(3), Col: r.Intn(20) - 6})
	}
	stack, start := len(e.Marks), r.Intn(10)
	for range r.Intn(14) {
		k := randomHeldToken(r, stack)
		h := impl.Held{Token: k, Level: r.Intn(13), Start: start, Size: r.Intn(30)}
		if r.Intn(4) > 0 {
			h.Level = min(stack-1, 12)
		}
		if (k.Kind == impl.TokBegin || k.Kind == impl.TokBlank) && r.Intn(3) > 0 {
			h.Size = -1
		} else if r.Intn(6) == 0 {
			h.Size = 1000000
		}
		e.Items = append(e.Items, h)
		start += r.Intn(5)
		switch k.Kind {
		case impl.TokBegin:
			stack++
		case impl.TokEnd:
			stack--
		}
	}
	e.Total, e.Level = start, stack-1
	return e
}

func TestEngineAtRandom(t *testing.T) {
	r := rand.New(rand.NewSource(5))
	finished := 0
	for range oftenOrShort(6000, 1500) {
		e := randomEngine(r)
		if !impl.EngineOk(e) {
			t.Fatalf("%+v is not EngineOk", e)
		}
		checkEngine(t, e)
		if e.Level == 0 && len(e.Items) > 0 {
			finished++
		}
		if t.Failed() {
			return
		}
	}
	if finished < 50 {
		t.Errorf("only %d of them could be finished", finished)
	}
}

// Engines with one number changed, of which many are not EngineOk.
func TestEngineWithOneNumberChanged(t *testing.T) {
	r := rand.New(rand.NewSource(55))
	numbers := []int{math.MinInt, math.MaxInt, -1000001, -1000000, -2, -1, 0, 1, 2, 3, 4, 12, 13, 14, 200, 201, 400, 1000000, 1000001}
	good, bad := 0, 0
	for range oftenOrShort(6000, 600) {
		e := randomEngine(r)
		x := numbers[r.Intn(len(numbers))]
		fields := []*int{&e.Width, &e.Col, &e.Pend, &e.Total, &e.Level}
		m := r.Intn(len(e.Marks))
		fields = append(fields, &e.Marks[m].Kind, &e.Marks[m].Col)
		if len(e.Items) > 0 {
			h := &e.Items[r.Intn(len(e.Items))]
			fields = append(fields, &h.Level, &h.Start, &h.Size, &h.Token.Kind, &h.Token.Width, &h.Token.Off)
		}
		*fields[r.Intn(len(fields))] = x
		checkEngine(t, e)
		if impl.EngineOk(e) {
			good++
		} else {
			bad++
		}
		if t.Failed() {
			return
		}
	}
	if good < 100 || bad < 100 {
		t.Errorf("%d good ones, %d bad ones", good, bad)
	}
}

// heldEngine is EngineOk, with 3 marks and 5 Helds.
func heldEngine() impl.Engine {
	return impl.Engine{
		Width: 30, Col: 3, Pend: 2, Marks: []impl.Mark{{Kind: 2}, {Kind: 0, Col: 4}, {Kind: 1, Col: 7}}, Total: 20, Level: 2,
		Items: []impl.Held{
			{Token: impl.Token{Kind: impl.TokBlank, Width: 1}, Level: 2, Start: 5, Size: -1},
			{Token: impl.Token{Kind: impl.TokBegin, Off: 1}, Level: 2, Start: 6, Size: -1},
			{Token: impl.Token{Text: "abc"}, Level: 3, Start: 6, Size: 3},
			{Token: impl.Token{Kind: impl.TokEnd}, Level: 2, Start: 9},
			{Token: impl.Token{Kind: impl.TokBlank, Width: 9, Off: 1}, Level: 2, Start: 11, Size: -1},
		},
	}
}

// heldOf is that many Helds of one token.
func heldOf(h impl.Held, count int) []impl.Held { return slices.Repeat([]impl.Held{h}, count) }

func marksOf(count int) []impl.Mark { return slices.Repeat([]impl.Mark{{Kind: 2}}, count) }

func TestEngineOkLimits(t *testing.T) {
	begin := impl.Held{Token: impl.Token{Kind: impl.TokBegin}, Size: -1}
	end := impl.Held{Token: impl.Token{Kind: impl.TokEnd}}
	line := impl.Held{Token: impl.Token{Kind: impl.TokLine}}
	for _, c := range []struct {
		name   string
		ok     bool
		change func(e *impl.Engine)
	}{
		{"as it is", true, func(e *impl.Engine) {}},
		{"Width 1", true, func(e *impl.Engine) { e.Width = 1 }},
		{"Width 0", false, func(e *impl.Engine) { e.Width = 0 }},
		{"Width below 0", false, func(e *impl.Engine) { e.Width = -1 }},
		{"Width 200", true, func(e *impl.Engine) { e.Width = 200 }},
		{"Width 201", false, func(e *impl.Engine) { e.Width = 201 }},
		{"Col 0", true, func(e *impl.Engine) { e.Col = 0 }},
		{"Col -1", false, func(e *impl.Engine) { e.Col = -1 }},
		{"Col Big", true, func(e *impl.Engine) { e.Col = 1000000 }},
		{"Col Big + 1", false, func(e *impl.Engine) { e.Col = 1000001 }},
		{"Pend 0", true, func(e *impl.Engine) { e.Pend = 0 }},
		{"Pend -1", false, func(e *impl.Engine) { e.Pend = -1 }},
		{"Pend Big", true, func(e *impl.Engine) { e.Pend = 1000000 }},
		{"Pend Big + 1", false, func(e *impl.Engine) { e.Pend = 1000001 }},
		{"Total Big", true, func(e *impl.Engine) { e.Total = 1000000 }},
		{"Total Big + 1", false, func(e *impl.Engine) { e.Total = 1000001 }},
		{"Total 0 and nothing held", true, func(e *impl.Engine) { e.Total, e.Items = 0, nil }},
		{"Total -1 and nothing held", false, func(e *impl.Engine) { e.Total, e.Items = -1, nil }},
		{"Total the last Start", true, func(e *impl.Engine) { e.Total = 11 }},
		{"Total less than the last Start", false, func(e *impl.Engine) { e.Total = 10 }},
		{"Level 1", false, func(e *impl.Engine) { e.Level = 1 }},
		{"Level 3", false, func(e *impl.Engine) { e.Level = 3 }},
		{"Level 0 and one mark", true, func(e *impl.Engine) { e.Level, e.Marks, e.Items = 0, marksOf(1), nil }},
		{"Level -1 and no mark", false, func(e *impl.Engine) { e.Level, e.Marks, e.Items = -1, nil, nil }},
		{"Level 0 and no mark", false, func(e *impl.Engine) { e.Level, e.Marks, e.Items = 0, nil, nil }},
		{"Level 0 and no mark, but one comes", false, func(e *impl.Engine) { e.Level, e.Marks, e.Items = 0, nil, heldOf(begin, 1) }},
		{"Level 12 and 13 marks", true, func(e *impl.Engine) { e.Level, e.Marks, e.Items = 12, marksOf(13), nil }},
		{"Level 13 and 14 marks", false, func(e *impl.Engine) { e.Level, e.Marks, e.Items = 13, marksOf(14), nil }},
		{"Level 12 and 14 marks, one of which goes", false, func(e *impl.Engine) { e.Level, e.Marks, e.Items = 12, marksOf(14), heldOf(end, 1) }},
		{"Level 11 and 13 marks, one of which goes", true, func(e *impl.Engine) { e.Level, e.Marks, e.Items = 11, marksOf(13), heldOf(end, 1) }},
		{"Level 12 and 12 marks, and one comes", true, func(e *impl.Engine) { e.Level, e.Marks, e.Items = 12, marksOf(12), heldOf(begin, 1) }},
		{"Level 13 and 13 marks, and one comes", false, func(e *impl.Engine) { e.Level, e.Marks, e.Items = 13, marksOf(13), heldOf(begin, 1) }},
		{"13 marks, one comes and goes", false, func(e *impl.Engine) {
			e.Level, e.Marks, e.Items = 12, marksOf(13), []impl.Held{begin, end}
		}},
		{"13 marks, one goes and comes", true, func(e *impl.Engine) {
			e.Level, e.Marks, e.Items = 12, marksOf(13), []impl.Held{end, begin}
		}},
		{"one mark goes and comes", false, func(e *impl.Engine) {
			e.Level, e.Marks, e.Items = 0, marksOf(1), []impl.Held{end, begin}
		}},
		{"one mark comes and goes", true, func(e *impl.Engine) {
			e.Level, e.Marks, e.Items = 0, marksOf(1), []impl.Held{begin, end}
		}},
		{"the last mark goes", false, func(e *impl.Engine) { e.Level, e.Marks, e.Items = 0, marksOf(1), heldOf(end, 1) }},
		{"the last mark goes, and Level is -1", false, func(e *impl.Engine) { e.Level, e.Marks, e.Items = -1, marksOf(1), heldOf(end, 1) }},
		{"12 come", true, func(e *impl.Engine) { e.Level, e.Marks, e.Items = 12, marksOf(1), heldOf(begin, 12) }},
		{"12 come and Level is 11", false, func(e *impl.Engine) { e.Level, e.Marks, e.Items = 11, marksOf(1), heldOf(begin, 12) }},
		{"12 go", true, func(e *impl.Engine) { e.Level, e.Marks, e.Items = 0, marksOf(13), heldOf(end, 12) }},
		{"13 go", false, func(e *impl.Engine) { e.Level, e.Marks, e.Items = 0, marksOf(13), heldOf(end, 13) }},
		{"Kind of a mark 2", true, func(e *impl.Engine) { e.Marks[1].Kind = 2 }},
		{"Kind of a mark 3", false, func(e *impl.Engine) { e.Marks[1].Kind = 3 }},
		{"Kind of the last mark 0", true, func(e *impl.Engine) { e.Marks[2].Kind = 0 }},
		{"Kind of the last mark -1", false, func(e *impl.Engine) { e.Marks[2].Kind = -1 }},
		{"Kind of the first mark 3", false, func(e *impl.Engine) { e.Marks[0].Kind = 3 }},
		{"Col of a mark Big", true, func(e *impl.Engine) { e.Marks[1].Col = 1000000 }},
		{"Col of a mark Big + 1", false, func(e *impl.Engine) { e.Marks[1].Col = 1000001 }},
		{"Col of the last mark -Big", true, func(e *impl.Engine) { e.Marks[2].Col = -1000000 }},
		{"Col of the last mark -Big - 1", false, func(e *impl.Engine) { e.Marks[2].Col = -1000001 }},
		{"Col of the first mark Big + 1", false, func(e *impl.Engine) { e.Marks[0].Col = 1000001 }},
		{"400 Helds", true, func(e *impl.Engine) { e.Items = heldOf(line, 400) }},
		{"401 Helds", false, func(e *impl.Engine) { e.Items = heldOf(line, 401) }},
		{"a token that is none", false, func(e *impl.Engine) { e.Items[2].Token.Text = "" }},
		{"a token that is none at the end", false, func(e *impl.Engine) { e.Items[4].Token.Width = 10 }},
		{"a token that is none ahead", false, func(e *impl.Engine) { e.Items[0].Token.Kind = 5 }},
		{"Level of a Held 0", true, func(e *impl.Engine) { e.Items[2].Level = 0 }},
		{"Level of a Held -1", false, func(e *impl.Engine) { e.Items[2].Level = -1 }},
		{"Level of a Held 12", true, func(e *impl.Engine) { e.Items[4].Level = 12 }},
		{"Level of a Held 13", false, func(e *impl.Engine) { e.Items[4].Level = 13 }},
		{"Start 0", true, func(e *impl.Engine) { e.Items[0].Start = 0 }},
		{"Start -1", false, func(e *impl.Engine) { e.Items[0].Start = -1 }},
		{"Start Total", true, func(e *impl.Engine) { e.Items[4].Start = 20 }},
		{"Start Total + 1", false, func(e *impl.Engine) { e.Items[4].Start = 21 }},
		{"all Starts Total", true, func(e *impl.Engine) {
			for k := range e.Items {
				e.Items[k].Start = 20
			}
		}},
		{"Start that of the one ahead", true, func(e *impl.Engine) { e.Items[4].Start = 9 }},
		{"Start less than that of the one ahead", false, func(e *impl.Engine) { e.Items[4].Start = 8 }},
		{"the second Start less than the first", false, func(e *impl.Engine) { e.Items[1].Start = 4 }},
		{"a Start in the midst above Total", false, func(e *impl.Engine) { e.Items[2].Start = 21 }},
		{"Size 0", true, func(e *impl.Engine) { e.Items[0].Size = 0 }},
		{"Size Big of a blank", true, func(e *impl.Engine) { e.Items[0].Size = 1000000 }},
		{"Size Big + 1 of a blank", false, func(e *impl.Engine) { e.Items[0].Size = 1000001 }},
		{"Size -2 of a blank", false, func(e *impl.Engine) { e.Items[0].Size = -2 }},
		{"Size -2 of a begin", false, func(e *impl.Engine) { e.Items[1].Size = -2 }},
		{"Size Big of a text", true, func(e *impl.Engine) { e.Items[2].Size = 1000000 }},
		{"Size Big + 1 of a text", false, func(e *impl.Engine) { e.Items[2].Size = 1000001 }},
		{"Size 0 of a text", true, func(e *impl.Engine) { e.Items[2].Size = 0 }},
		{"Size -1 of a text", false, func(e *impl.Engine) { e.Items[2].Size = -1 }},
		{"Size -1 of an end", false, func(e *impl.Engine) { e.Items[3].Size = -1 }},
		{"Size -1 of a line", false, func(e *impl.Engine) {
			e.Items[4].Token = impl.Token{Kind: impl.TokLine}
		}},
		{"Size 0 of a line", true, func(e *impl.Engine) {
			e.Items[4].Token, e.Items[4].Size = impl.Token{Kind: impl.TokLine}, 0
		}},
		{"the zero value", false, func(e *impl.Engine) { *e = impl.Engine{} }},
	} {
		e := heldEngine()
		c.change(&e)
		if got := impl.EngineOk(e); got != c.ok {
			t.Errorf("%s: EngineOk is %v", c.name, got)
		}
		if got, _, ok := impl.FeedToken(e, impl.Token{Kind: impl.TokLine}); !c.ok && (ok || !sameEngines(got, e)) {
			t.Errorf("%s: FeedToken is %v and gives %+v", c.name, ok, got)
		}
		checkEngine(t, e)
	}
}

func TestEngineRefuses(t *testing.T) {
	text, begin, end := impl.Token{Text: "a"}, impl.Token{Kind: impl.TokBegin}, impl.Token{Kind: impl.TokEnd}
	line := impl.Held{Token: impl.Token{Kind: impl.TokLine}}
	flat := impl.Engine{Width: 9, Marks: marksOf(1)}
	deep := impl.Engine{Width: 9, Marks: marksOf(13), Level: 12}
	full, nearly, wide := flat, flat, flat
	full.Items, nearly.Items = heldOf(line, 400), heldOf(line, 399)
	wide.Total = 1000000
	wider := wide
	wider.Total = 999999
	for _, c := range []struct {
		name string
		e    impl.Engine
		fed  impl.Token
		ok   bool
	}{
		{"an end with Level 0", flat, end, false},
		{"an end with Level 12", deep, end, true},
		{"a begin with Level 0", flat, begin, true},
		{"a begin with Level 12", deep, begin, false},
		{"a begin with Level 11", impl.Engine{Width: 9, Marks: marksOf(12), Level: 11}, begin, true},
		{"a text with Level 12", deep, text, true},
		{"399 Helds", nearly, text, true},
		{"400 Helds", full, text, false},
		{"400 Helds and a line", full, line.Token, false},
		{"Total Big and a text", wide, text, false},
		{"Total Big and a blank", wide, impl.Token{Kind: impl.TokBlank, Width: 1}, false},
		{"Total Big and a blank of no width", wide, impl.Token{Kind: impl.TokBlank}, true},
		{"Total Big and a line", wide, line.Token, true},
		{"Total Big and a begin", wide, begin, true},
		{"Total Big less 1 and a text of one byte", wider, text, true},
		{"Total Big less 1 and a text of two bytes", wider, impl.Token{Text: "ab"}, false},
		{"no token", flat, impl.Token{}, false},
		{"a text with a Width", flat, impl.Token{Text: "a", Width: 1}, false},
		{"no engine", impl.Engine{}, text, false},
	} {
		got, out, ok := checkFeed(t, c.e, c.fed)
		if ok != c.ok || !ok && (out != "" || !sameEngines(got, c.e)) {
			t.Errorf("%s: %+v, %q, %v", c.name, got, out, ok)
		}
	}
	for name, e := range map[string]impl.Engine{
		"Level 12":               deep,
		"Level 1, nothing held":  {Width: 9, Marks: marksOf(2), Level: 1},
		"Level 1, a begin held":  fedWith(t, 9, `<1 "a" _1`),
		"Level 2, several held":  heldEngine(),
		"no engine":              {},
		"Level 0, but not right": {Width: 9, Marks: marksOf(2)},
	} {
		if got, out, ok := checkFinish(t, e); ok || out != "" || !sameEngines(got, e) {
			t.Errorf("FinishEngine with %s: %+v, %q, %v", name, got, out, ok)
		}
	}
}

// What is written may take columns beyond Big: that is answered, and refused
// by the next call alone.
func TestEngineBeyondBig(t *testing.T) {
	far := impl.Engine{Width: 9, Col: 1000000, Marks: marksOf(1)}
	next, text, ok := checkFeed(t, far, impl.Token{Text: "ab"})
	if !ok || text != "ab" || next.Col != 1000002 || impl.EngineOk(next) {
		t.Errorf("%+v, %q, %v", next, text, ok)
	}
	checkEngine(t, next)
	next, _, ok = checkFeed(t, far, impl.Token{Kind: impl.TokBegin, Off: 1})
	if !ok || next.Marks[1] != (impl.Mark{Kind: 2, Col: 1000001}) || impl.EngineOk(next) {
		t.Errorf("%+v, %v", next, ok)
	}
	far.Marks[0].Col = 1000000
	next, text, ok = checkFeed(t, far, impl.Token{Kind: impl.TokLine, Off: 9})
	if !ok || text != "\n" || next.Pend != 1000009 || impl.EngineOk(next) {
		t.Errorf("%+v, %q, %v", next, text, ok)
	}
	far.Marks[0].Col = -1000000
	next, text, ok = checkFeed(t, far, impl.Token{Kind: impl.TokLine, Off: -9})
	if !ok || text != "\n" || next.Pend != 0 || !impl.EngineOk(next) {
		t.Errorf("%+v, %q, %v", next, text, ok)
	}
	both := impl.Engine{Width: 1, Col: 1000000, Pend: 1000000, Marks: marksOf(1), Total: 1000000, Items: []impl.Held{
		{Token: impl.Token{Kind: impl.TokBlank, Width: 9}, Size: -1},
	}}
	checkEngine(t, both)
	both.Marks[0].Kind = 0
	checkEngine(t, both)
}

// roomyEngine is e with lists that an append would write behind; spare tells
// whether nobody did.
func roomyEngine(e impl.Engine) (again impl.Engine, spare func() bool) {
	mark, held := impl.Mark{Kind: 77, Col: 77}, impl.Held{Level: 77, Start: 77, Size: 77}
	marks := append(slices.Clone(e.Marks), slices.Repeat([]impl.Mark{mark}, 8)...)
	items := append(slices.Clone(e.Items), heldOf(held, 8)...)
	again = e
	again.Marks, again.Items = marks[:len(e.Marks)], items[:len(e.Items)]
	return again, func() bool {
		return !slices.ContainsFunc(marks[len(e.Marks):], func(m impl.Mark) bool { return m != mark }) &&
			!slices.ContainsFunc(items[len(e.Items):], func(h impl.Held) bool { return h != held })
	}
}

// scribble writes into both lists, and behind them.
func scribble(e impl.Engine) {
	for k := range e.Marks {
		e.Marks[k] = impl.Mark{Kind: 55, Col: 55}
	}
	for k := range e.Items {
		e.Items[k] = impl.Held{Level: 55, Start: 55, Size: 55}
	}
	_ = append(e.Marks, impl.Mark{Kind: 55})
	_ = append(e.Items, impl.Held{Size: 55})
}

func cloned(e impl.Engine) impl.Engine {
	e.Marks, e.Items = slices.Clone(e.Marks), slices.Clone(e.Items)
	return e
}

func enginesForMemory(t *testing.T) []impl.Engine {
	wrong := heldEngine()
	wrong.Width = 0
	return []impl.Engine{
		{}, wrong, heldEngine(),
		{Width: 9, Marks: marksOf(1)}, {Width: 9, Marks: marksOf(13), Level: 12}, {Width: 9, Marks: marksOf(14), Level: 13},
		{Width: 9, Marks: marksOf(1), Items: heldOf(impl.Held{Token: impl.Token{Kind: impl.TokBlank}, Size: -1}, 400)},
		fedWith(t, 9, `"ab" _1 "cd"`), fedWith(t, 20, `<1 "ab" _1 "cd" [3 "e"`), fedWith(t, 4, `<1 "ab" _1 "cd" [3 "e" > >`),
	}
}

// Neither who writes into an argument changes an answer, nor the other way, and
// no function writes into its argument or behind it.
func TestEngineMemory(t *testing.T) {
	asks := []func(impl.Engine) impl.Engine{func(e impl.Engine) impl.Engine {
		next, _, _ := impl.FinishEngine(e)
		return next
	}}
	for _, k := range tokensToFeed() {
		asks = append(asks, func(e impl.Engine) impl.Engine {
			next, _, _ := impl.FeedToken(e, k)
			return next
		})
	}
	for n, was := range enginesForMemory(t) {
		for m, ask := range asks {
			e, spare := roomyEngine(was)
			impl.EngineOk(e)
			impl.HeldWidth(e)
			answer, other := ask(e), ask(e)
			kept := cloned(answer)
			if !sameEngines(e, was) || !spare() {
				t.Errorf("engine %d, call %d: it writes into its argument", n, m)
			}
			scribble(answer)
			if !sameEngines(e, was) || !spare() || !sameEngines(other, kept) {
				t.Errorf("engine %d, call %d: who writes into an answer writes into an argument or another answer", n, m)
			}
			scribble(e)
			if !sameEngines(other, kept) {
				t.Errorf("engine %d, call %d: an answer changes with its argument", n, m)
			}
		}
	}
	one, _ := impl.NewEngine(9)
	scribble(one)
	if two, _ := impl.NewEngine(9); !sameEngines(two, impl.Engine{Width: 9, Marks: marksOf(1)}) {
		t.Errorf("NewEngine gives %+v when another was written into", two)
	}
}
