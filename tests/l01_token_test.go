package tests

import (
	"fmt"
	"math"
	"strconv"
	"strings"
	"testing"

	"loop.example/g00829/impl"
)

// sizedTokens is every token that is no TokText, by the text that the document
// gives it; the texts are built here without the program.
func sizedTokens() map[string]impl.Token {
	all := map[string]impl.Token{">": {Kind: impl.TokEnd}}
	for off := -9; off <= 9; off++ {
		sign := ""
		if off > 0 {
			sign = "+" + strconv.Itoa(off)
		}
		if off < 0 {
			sign = "-" + strconv.Itoa(-off)
		}
		all["|"+sign] = impl.Token{Kind: impl.TokLine, Off: off}
		for width := 0; width <= 9; width++ {
			all["_"+strconv.Itoa(width)+sign] = impl.Token{Kind: impl.TokBlank, Width: width, Off: off}
		}
		if off >= 0 {
			all["<"+strconv.Itoa(off)] = impl.Token{Kind: impl.TokBegin, Off: off}
			all["["+strconv.Itoa(off)] = impl.Token{Kind: impl.TokBegin, Width: 1, Off: off}
		}
	}
	return all
}

func goodTexts() []string {
	list := []string{
		"x y", "a  b", "a\"b", "\"", "\"\"", "\" \"", "\\", "_1", "<0", "[2", ">", "|+3", "0", "-1",
		strings.Repeat("x", 39), strings.Repeat("x", 40),
		"a" + strings.Repeat(" ", 38) + "b", strings.Repeat("\"", 40),
	}
	for b := 33; b <= 126; b++ {
		list = append(list, string([]byte{byte(b)}), string([]byte{'a', byte(b), 'z'}))
	}
	return list
}

func badTexts() []string {
	list := []string{
		"", " ", "  ", " a", "a ", " a ", "   ", "\" ", " \"",
		strings.Repeat("x", 41), strings.Repeat("x", 100000),
		" " + strings.Repeat("x", 39), strings.Repeat("x", 39) + " ",
		strings.Repeat("x", 39) + "\n", "\u00e9", "a\u2028b", "\xff\xfe",
	}
	for b := 0; b < 256; b++ {
		if b < 32 || b > 126 {
			c := string([]byte{byte(b)})
			list = append(list, c, c+"a", "a"+c, "a"+c+"a")
		}
	}
	return list
}

// expectedToken says by the document's table what ParseToken has to give.
func expectedToken(sized map[string]impl.Token, text string) (impl.Token, bool) {
	if !strings.HasPrefix(text, "\"") {
		t, ok := sized[text]
		return t, ok
	}
	if len(text) < 3 || len(text) > 42 || !strings.HasSuffix(text, "\"") {
		return impl.Token{}, false
	}
	inner := text[1 : len(text)-1]
	if inner != strings.Trim(inner, " ") {
		return impl.Token{}, false
	}
	for _, b := range []byte(inner) {
		if b < ' ' || b > '~' {
			return impl.Token{}, false
		}
	}
	return impl.Token{Kind: impl.TokText, Text: inner}, true
}

// shown keeps messages short and readable, whatever bytes the Text has.
func shown(k impl.Token) string {
	return fmt.Sprintf("{%d %.50q %d %d}", k.Kind, k.Text, k.Width, k.Off)
}

func checkParse(t *testing.T, sized map[string]impl.Token, text string) {
	t.Helper()
	want, wantOk := expectedToken(sized, text)
	got, ok := impl.ParseToken(text)
	if ok != wantOk || got != want {
		t.Errorf("ParseToken(%.60q) = %s, %v; want %s, %v", text, shown(got), ok, shown(want), wantOk)
	}
}

func checkBad(t *testing.T, k impl.Token) {
	t.Helper()
	if impl.TokenOk(k) {
		t.Errorf("TokenOk(%s) is true", shown(k))
	}
	if w := impl.WidthOf(k); w != -1 {
		t.Errorf("WidthOf(%s) = %d, want -1", shown(k), w)
	}
	if impl.IsBreak(k) {
		t.Errorf("IsBreak(%s) is true", shown(k))
	}
	if s := impl.TokenText(k); s != "" {
		t.Errorf("TokenText(%s) = %.60q, want an empty text", shown(k), s)
	}
}

func checkGood(t *testing.T, k impl.Token, text string, width int, breaks bool) {
	t.Helper()
	if !impl.TokenOk(k) {
		t.Errorf("TokenOk(%s) is false", shown(k))
	}
	if w := impl.WidthOf(k); w != width {
		t.Errorf("WidthOf(%s) = %d, want %d", shown(k), w, width)
	}
	if b := impl.IsBreak(k); b != breaks {
		t.Errorf("IsBreak(%s) = %v", shown(k), b)
	}
	if s := impl.TokenText(k); s != text {
		t.Errorf("TokenText(%s) = %.60q, want %q", shown(k), s, text)
	}
	if back, ok := impl.ParseToken(text); !ok || back != k {
		t.Errorf("ParseToken(%q) = %s, %v; want %s", text, shown(back), ok, shown(k))
	}
}

func checkMade(t *testing.T, name string, got impl.Token, ok bool, want impl.Token, wantOk bool) {
	t.Helper()
	if !wantOk {
		want = impl.Token{}
	}
	if ok != wantOk || got != want {
		t.Errorf("%s = %s, %v; want %s, %v", name, shown(got), ok, shown(want), wantOk)
	}
	if ok && !impl.TokenOk(got) {
		t.Errorf("%s = %s, which is not TokenOk", name, shown(got))
	}
}

// edgeNumbers has both sides of every end of a range, and numbers that would
// wrap around if they were computed with.
func edgeNumbers() []int {
	list := []int{math.MinInt, math.MinInt + 1, -256, math.MaxInt - 1, math.MaxInt, 256, 1 << 32}
	for n := -12; n <= 12; n++ {
		list = append(list, n)
	}
	return list
}

func TestTokenConstants(t *testing.T) {
	got := [...]int{impl.MaxText, impl.MaxTokens, impl.MaxDepth, impl.TokText, impl.TokBlank, impl.TokBegin, impl.TokEnd, impl.TokLine}
	if got != [...]int{40, 400, 12, 0, 1, 2, 3, 4} {
		t.Errorf("constants are %v", got)
	}
}

func TestSizedTokensAreReadAsWritten(t *testing.T) {
	sized := sizedTokens()
	if len(sized) != 190+19+20+1 {
		t.Fatalf("%d tokens", len(sized))
	}
	for text, k := range sized {
		width := 0
		if k.Kind == impl.TokBlank {
			width = k.Width
		}
		checkGood(t, k, text, width, k.Kind == impl.TokBlank || k.Kind == impl.TokLine)
	}
}

func TestTextTokensAreReadAsWritten(t *testing.T) {
	for _, s := range goodTexts() {
		checkGood(t, impl.Token{Kind: impl.TokText, Text: s}, "\""+s+"\"", len(s), false)
	}
}

func TestBadTextTokens(t *testing.T) {
	for _, s := range badTexts() {
		checkBad(t, impl.Token{Kind: impl.TokText, Text: s})
		checkMadeText(t, s, false)
		if k, ok := impl.ParseToken("\"" + s + "\""); ok || k != (impl.Token{}) {
			t.Errorf("ParseToken takes the text %.60q: %s, %v", s, shown(k), ok)
		}
	}
}

func TestBadSizes(t *testing.T) {
	for _, n := range edgeNumbers() {
		if n < 0 || n > 9 {
			checkBad(t, impl.Token{Kind: impl.TokBlank, Width: n})
			checkBad(t, impl.Token{Kind: impl.TokBegin, Off: n})
			checkBad(t, impl.Token{Kind: impl.TokBegin, Width: 1, Off: n})
		}
		if n < -9 || n > 9 {
			checkBad(t, impl.Token{Kind: impl.TokBlank, Width: 1, Off: n})
			checkBad(t, impl.Token{Kind: impl.TokLine, Off: n})
		}
		if n != 0 && n != 1 {
			checkBad(t, impl.Token{Kind: impl.TokBegin, Width: n})
			checkBad(t, impl.Token{Kind: impl.TokBegin, Width: n, Off: 2})
		}
	}
}

func TestKindsThatAreNone(t *testing.T) {
	for _, kind := range []int{math.MinInt, -256, -2, -1, 5, 6, 256, 260, 1 << 32, math.MaxInt} {
		checkBad(t, impl.Token{Kind: kind})
		checkBad(t, impl.Token{Kind: kind, Text: "a"})
		checkBad(t, impl.Token{Kind: kind, Width: 1, Off: 1})
	}
}

func TestFieldsOfOtherKinds(t *testing.T) {
	for _, k := range []impl.Token{
		{},
		{Kind: impl.TokText, Width: 1},
		{Kind: impl.TokText, Text: "a", Width: 1},
		{Kind: impl.TokText, Text: "a", Width: -1},
		{Kind: impl.TokText, Text: "a", Off: 1},
		{Kind: impl.TokText, Text: "a", Off: -1},
		{Kind: impl.TokBlank, Text: "a"},
		{Kind: impl.TokBlank, Text: " ", Width: 1},
		{Kind: impl.TokBegin, Text: "a"},
		{Kind: impl.TokBegin, Text: "[", Width: 1, Off: 2},
		{Kind: impl.TokEnd, Text: "a"},
		{Kind: impl.TokEnd, Width: 1},
		{Kind: impl.TokEnd, Width: -1},
		{Kind: impl.TokEnd, Off: 1},
		{Kind: impl.TokEnd, Off: -1},
		{Kind: impl.TokLine, Text: "a"},
		{Kind: impl.TokLine, Width: 1},
		{Kind: impl.TokLine, Width: -1, Off: 3},
	} {
		checkBad(t, k)
	}
}

func checkMadeText(t *testing.T, s string, wantOk bool) {
	t.Helper()
	k, ok := impl.Txt(s)
	checkMade(t, fmt.Sprintf("Txt(%.60q)", s), k, ok, impl.Token{Kind: impl.TokText, Text: s}, wantOk)
}

func TestTxtMakesRightTokensAlone(t *testing.T) {
	for _, s := range goodTexts() {
		checkMadeText(t, s, true)
	}
	for _, s := range badTexts() {
		checkMadeText(t, s, false)
	}
}

func TestBlankMakesRightTokensAlone(t *testing.T) {
	for _, width := range edgeNumbers() {
		for _, off := range edgeNumbers() {
			want := impl.Token{Kind: impl.TokBlank, Width: width, Off: off}
			wantOk := 0 <= width && width <= 9 && -9 <= off && off <= 9
			if impl.TokenOk(want) != wantOk {
				t.Errorf("TokenOk(%s) is not %v", shown(want), wantOk)
			}
			k, ok := impl.Blank(width, off)
			checkMade(t, fmt.Sprintf("Blank(%d, %d)", width, off), k, ok, want, wantOk)
		}
	}
}

func TestBeginMakesRightTokensAlone(t *testing.T) {
	for _, off := range edgeNumbers() {
		wantOk := 0 <= off && off <= 9
		k, ok := impl.Begin(false, off)
		checkMade(t, fmt.Sprintf("Begin(false, %d)", off), k, ok, impl.Token{Kind: impl.TokBegin, Off: off}, wantOk)
		k, ok = impl.Begin(true, off)
		checkMade(t, fmt.Sprintf("Begin(true, %d)", off), k, ok, impl.Token{Kind: impl.TokBegin, Width: 1, Off: off}, wantOk)
	}
}

func TestLineMakesRightTokensAlone(t *testing.T) {
	for _, off := range edgeNumbers() {
		k, ok := impl.Line(off)
		checkMade(t, fmt.Sprintf("Line(%d)", off), k, ok, impl.Token{Kind: impl.TokLine, Off: off}, -9 <= off && off <= 9)
	}
}

func TestParseTokenRefuses(t *testing.T) {
	for _, text := range []string{
		"", " ", "\"", "\"\"", "\"a", "a\"", "a", "\" a\"", "\"a \"", " \"a\"", "\"a\" ", "\"a\"b", "'a'",
		"_", "_+1", "_1+0", "_1-0", "_1+", "_1-", "_1+10", "_1-10", "_10", "_01", "_1+01", "_-1", "_1 +1", "_1+1 ", "_1++1", "_1+-1", "_1--1",
		"<", "<10", "<-1", "<+1", "<00", "<1+1", "[", "[10", "[-1", "[+1", "[00", "[1+1", "<2>", "[2]",
		">>", ">0", "> ", "|0", "|+0", "|-0", "|+", "|-", "|3", "|+10", "|-10", "||", "|+3 ",
		"\x00", "_\x00", "\u00e9", "_\u0661", "_1+/", "_1-/", "_1+:", "_/", "_:", "</", "<:", "[/", "[:", "|+/", "|-/", "|+:",
	} {
		if k, ok := impl.ParseToken(text); ok || k != (impl.Token{}) {
			t.Errorf("ParseToken(%q) = %s, %v", text, shown(k), ok)
		}
	}
}

func TestParseTokenOfAllShortTexts(t *testing.T) {
	const bytes = "\"_<[>|+-0159 a\n\x7f"
	sized := sizedTokens()
	var grow func(text string)
	grow = func(text string) {
		checkParse(t, sized, text)
		if len(text) == 5 || t.Failed() {
			return
		}
		for i := 0; i < len(bytes); i++ {
			grow(text + bytes[i:i+1])
		}
	}
	grow("")
}

func TestParseTokenOfChangedTexts(t *testing.T) {
	sized := sizedTokens()
	texts := []string{"\"x y\"", "\"\"\"", "\"" + strings.Repeat("x", 40) + "\"", "\"" + strings.Repeat("x", 41) + "\""}
	for text := range sized {
		texts = append(texts, text)
	}
	for _, text := range texts {
		for i := 0; i <= len(text); i++ {
			for b := 0; b < 256; b++ {
				c := string([]byte{byte(b)})
				checkParse(t, sized, text[:i]+c+text[i:])
				if i < len(text) {
					checkParse(t, sized, text[:i]+c+text[i+1:])
				}
			}
			if i < len(text) {
				checkParse(t, sized, text[:i]+text[i+1:])
			}
		}
	}
}
