package tests

import (
	"fmt"
	"math/rand"
	"slices"
	"strconv"
	"strings"
	"testing"

	"loop.example/g00829/impl"
)

// deskCounts says how often promise 13 had something to hold of: lists that are
// streams, that are none, layouts of more than one line, and those that are
// empty.
type deskCounts struct {
	streams, others, broken, empty int
}

// expectedTokenLines is what TokenLines has to give, found without the program.
func expectedTokenLines(list []impl.Token) string {
	text := ""
	for _, k := range list {
		sign := ""
		if k.Off != 0 {
			sign = fmt.Sprintf("%+d", k.Off)
		}
		text += "token " + []string{`"` + k.Text + `"`, "_" + strconv.Itoa(k.Width) + sign, "<["[k.Width%2:][:1] + strconv.Itoa(k.Off), ">", "|" + sign}[k.Kind] + "\n"
	}
	return text
}

// checkTold is promise 13 for one list of up to 100 tokens: a desk that is told
// TokenLines of them has them, and out and stream tell the same in each width.
func checkTold(t *testing.T, list []impl.Token, widths []int, counts *deskCounts) {
	t.Helper()
	text, ok := impl.TokenLines(list)
	if !ok || text != expectedTokenLines(list) {
		t.Fatalf("TokenLines(%s) = %q, %v", tokensShown(list), textShown(text), ok)
	}
	back, ok := impl.DeskTokens(text)
	if !ok || !slices.Equal(back, list) {
		t.Fatalf("a desk that was told %s has %s, %v", tokensShown(list), tokensShown(back), ok)
	}
	stream := expectedOf(list)
	if stream.ok {
		counts.streams++
	} else {
		counts.others++
	}
	for group := range slices.Chunk(widths, (120-len(list))/4) {
		checkToldIn(t, list, text, group, stream, counts)
	}
}

// checkToldIn asks for both layouts, and for what is held, in some widths.
func checkToldIn(t *testing.T, list []impl.Token, text string, widths []int, stream expectedStream, counts *deskCounts) {
	t.Helper()
	lines := []string{}
	for _, width := range widths {
		lines = append(lines, "width "+strconv.Itoa(width), "out", "stream", "held")
	}
	asked := text + ended(lines)
	if len(asked) > 4000 {
		t.Fatalf("%d bytes are asked", len(asked))
	}
	told, ok := impl.RunDesk(asked)
	answers := strings.Split(told, "\n")
	if !ok || len(answers) != len(list)+len(lines)+1 {
		t.Fatalf("RunDesk(%q) = %q, %v", textShown(asked), textShown(told), ok)
	}
	if back, ok := impl.DeskTokens(asked); !ok || !slices.Equal(back, list) {
		t.Fatalf("a desk that was asked of %s has %s, %v", tokensShown(list), tokensShown(back), ok)
	}
	for k, width := range widths {
		got := answers[len(list)+4*k:][:4]
		want := "bad"
		if stream.ok {
			want = orNone(slashed(expectedLayout(width, list, stream.sizes).text, "fine", -1))
		}
		if held := expectedHeld(width, list); !slices.Equal(got, []string{"ok", want, want, held}) {
			t.Fatalf("%s is told in width %d: %q, want %q and %q", tokensShown(list), width, got, want, held)
		}
		checkHeldTold(t, list, width, got[3])
		if strings.Contains(strings.TrimSpace(want), "/") {
			counts.broken++
		}
		if want == "-" {
			counts.empty++
		}
	}
}

// checkHeldTold: no more than the width is ever held.
func checkHeldTold(t *testing.T, list []impl.Token, width int, told string) {
	t.Helper()
	if told == "bad" {
		return
	}
	count, held := 0, 0
	if n, err := fmt.Sscanf(told, "%d %d", &count, &held); n != 2 || err != nil || count > len(list) || held > width {
		t.Fatalf("%s holds %q in width %d", tokensShown(list), told, width)
	}
}

// All lists of a few tokens, streams or not.
func TestPromiseOfDesksOfAllShortLists(t *testing.T) {
	alphabet := []impl.Token{
		{Text: "ab"}, {Kind: impl.TokBlank, Width: 1}, {Kind: impl.TokBlank, Width: 2, Off: 1}, {Kind: impl.TokBegin, Off: 1}, {Kind: impl.TokBegin, Width: 1, Off: 2}, {Kind: impl.TokEnd}, {Kind: impl.TokLine, Off: -1},
	}
	counts := deskCounts{}
	longest := oftenOrShort(5, 3)
	var grow func(list []impl.Token)
	grow = func(list []impl.Token) {
		checkTold(t, list, []int{1, 2, 3, 4, 5, 6, 200}, &counts)
		if len(list) == longest || t.Failed() {
			return
		}
		for _, k := range alphabet {
			grow(append(slices.Clone(list), k))
		}
	}
	grow(nil)
	if counts.streams < oftenOrShort(1000, 20) || counts.others < oftenOrShort(5000, 20) || counts.broken < oftenOrShort(5000, 20) || counts.empty < 20 {
		t.Errorf("the promise had too little to hold of: %+v", counts)
	}
}

func TestPromiseOfDesksOfRandomLists(t *testing.T) {
	r := rand.New(rand.NewSource(111))
	counts := deskCounts{}
	for k := range oftenOrShort(1500, 50) {
		list := mildStream(r, r.Intn(95))
		switch k % 4 {
		case 1:
			list = randomStream(r, r.Intn(101))
		case 2:
			list = randomStream(r, 1+r.Intn(20))
		case 3:
			at := r.Intn(1 + len(list))
			list = slices.Insert(list, at, impl.Token{Kind: 2 + r.Intn(3)})
		}
		checkTold(t, list, []int{1, 2 + r.Intn(20), 22 + r.Intn(60), 82 + r.Intn(118), 200}, &counts)
		if t.Failed() {
			return
		}
	}
	if counts.streams < oftenOrShort(500, 20) || counts.others < oftenOrShort(200, 5) || counts.broken < oftenOrShort(1000, 20) {
		t.Errorf("the promise had too little to hold of: %+v", counts)
	}
}

// Every width that there is.
func TestPromiseOfDesksInEveryWidth(t *testing.T) {
	r := rand.New(rand.NewSource(112))
	counts := deskCounts{}
	for range oftenOrShort(40, 3) {
		checkTold(t, mildStream(r, 1+r.Intn(60)), widthsUpTo(200), &counts)
		checkTold(t, randomStream(r, 1+r.Intn(60)), widthsUpTo(200), &counts)
	}
	checkTold(t, tokens(t, `[2 "aa" _1 <5 "b" _1 "c" > _1 [1 "dddd" | > >`), widthsUpTo(200), &counts)
	checkTold(t, nil, widthsUpTo(200), &counts)
	if counts.broken < oftenOrShort(2000, 100) {
		t.Errorf("the promise had too little to hold of: %+v", counts)
	}
}

// checkFormTold: what form tells is what Format gives for the same text, width
// and style.
func checkFormTold(t *testing.T, text string, width int, s impl.Style) string {
	t.Helper()
	style, _ := impl.StyleText(s)
	told, ok := impl.RunDesk("style " + style + "\nwidth " + strconv.Itoa(width) + "\nform " + text + "\ntree " + text + "\n")
	answers := strings.Split(told, "\n")
	if !ok || len(answers) != 5 || answers[0] != "ok" || answers[1] != "ok" {
		t.Fatalf("style, width and form %q tell %q, %v", textShown(text), textShown(told), ok)
	}
	got, code, at := impl.Format(text, width, s)
	want := strings.ReplaceAll(got, "\n", "/")
	if code != impl.FormOk {
		want = fmt.Sprint(impl.CodeName(code), " ", at)
	}
	if answers[2] != want {
		t.Fatalf("form %q in %d, %s tells %q, and Format gives %q, %d, %d", textShown(text), width, style, textShown(answers[2]), textShown(got), code, at)
	}
	list, code, at := impl.ParseTree(text)
	lines := []string{}
	for _, n := range list {
		lines = append(lines, impl.NodeLine(n))
	}
	want = orNone(strings.Join(lines, "/"))
	if code != impl.TreeFine {
		want = fmt.Sprint(impl.CodeName(code), " ", at)
	}
	if answers[3] != want {
		t.Fatalf("tree %q tells %q, want %q", textShown(text), textShown(answers[3]), textShown(want))
	}
	name, _, _ := strings.Cut(answers[2], " ")
	return name
}

// lineOfText is a text with blanks for the ends of its lines, cut where it is
// too long for a line.
func lineOfText(text string) string {
	text = strings.ReplaceAll(text, "\n", " ")
	return text[:min(len(text), 195)]
}

func TestPromiseOfDesksThatFormat(t *testing.T) {
	r := rand.New(rand.NewSource(113))
	styles := everyStyle()
	counts := map[string]int{}
	fine := 0
	for k := range oftenOrShort(6000, 200) {
		text := lineOfText(randomTreeText(r, r.Intn(1+r.Intn(60))))
		if k%3 == 0 {
			text = lineOfText(expectedPlainTree(randomTree(r, nil, 0, r.Intn(40))))
		}
		name := checkFormTold(t, text, 1+r.Intn(1+r.Intn(200)), styles[r.Intn(512)])
		if !slices.Contains(formNames, name) {
			fine++
		}
		counts[name]++
	}
	for _, name := range []string{"lex", "shut", "open", "quote", "odd", "deep"} {
		if counts[name] < oftenOrShort(20, 0) {
			t.Errorf("only %d random texts are %s", counts[name], name)
		}
	}
	if fine < oftenOrShort(1500, 40) {
		t.Errorf("only %d random texts are formatted", fine)
	}
}

func TestPromiseOfDesksThatFormatShortTexts(t *testing.T) {
	styles := everyStyle()
	count := 0
	var grow func(text string)
	grow = func(text string) {
		count++
		checkFormTold(t, text, 1+count%6, styles[count%512])
		if len(text) == oftenOrShort(4, 2) {
			return
		}
		for _, next := range []string{"a", "(", ")", "{", "}", "'", ";", " ", "/", "\"", "\t"} {
			grow(text + next)
		}
	}
	grow("")
}

// randomLine is a line of the table, or one that is like one.
func randomLine(r *rand.Rand) string {
	pick := func(list ...string) string { return list[r.Intn(len(list))] }
	switch r.Intn(12) {
	case 0:
		return "width " + pick(strconv.Itoa(r.Intn(30)), strconv.Itoa(r.Intn(260)-20), pick(wrongNumbers()...))
	case 1:
		return "style " + fmt.Sprint(r.Intn(5), r.Intn(5), r.Intn(4), r.Intn(4), r.Intn(2))
	case 2:
		return "form " + lineOfText(randomTreeText(r, r.Intn(12)))
	case 3:
		return "tree " + lineOfText(randomTreeText(r, r.Intn(12)))
	case 4:
		return pick("clear", "clear", "clear ", "clear x", "cleared", "Clear")
	case 5:
		return pick("out", "stream", "sizes", "held", "out ", "streams", "size", " held", "", " ", "width", "style", "form", "tree", "token", "width ", "style ", "form ", "tree ", "token ")
	case 6, 7:
		return pick("out", "stream", "sizes", "held")
	}
	return "token " + pick(">", ">", "<1", "[2", "_1", "_2+1", "|", "|-2", `"ab"`, `"c d"`, `"/"`, "_", `"`, "> ", "", "<")
}

// Talks of all sorts, each held against the expected desk.
func TestRandomTalks(t *testing.T) {
	r := rand.New(rand.NewSource(114))
	books := newDeskBooks()
	seen := map[string]int{}
	for range oftenOrShort(1500, 50) {
		lines, size := []string{}, 0
		for range r.Intn(121) {
			line := randomLine(r)
			if size += len(line) + 1; size > 4000 {
				break
			}
			lines = append(lines, line)
		}
		for k, told := range checkTalk(t, books, lines...) {
			verb, _, _ := strings.Cut(lines[k], " ")
			if told != "bad" && told != "-" {
				told = "another"
			}
			seen[verb+" "+told]++
		}
		if t.Failed() {
			return
		}
	}
	for _, what := range strings.Split("width another,width bad,style another,style bad,form another,tree another,tree -,token another,token bad,clear another,clear bad,out another,out -,out bad,stream another,stream -,stream bad,sizes another,sizes -,held another,held bad", ",") {
		if seen[what] < oftenOrShort(30, 0) {
			t.Errorf("only %d random lines are %s", seen[what], what)
		}
	}
}
