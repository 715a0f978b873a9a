package impl

import "strconv"

const (
	MaxText   = 40
	MaxTokens = 400
	MaxDepth  = 12
)

const (
	TokText = iota
	TokBlank
	TokBegin
	TokEnd
	TokLine
)

// maxSize has one digit, so that ParseToken can read each number from one byte.
const maxSize = 9

type Token struct {
	Kind  int
	Text  string
	Width int
	Off   int
}

// shape is one kind of token with the fields of that kind and no others.
type shape interface {
	token() Token
	fits() bool
	width() int
	written() string
}

type textShape struct{ text string }

type blankShape struct{ size, off int }

type beginShape struct {
	tight bool
	off   int
}

type endShape struct{}

type lineShape struct{ off int }

func (s textShape) token() Token { return Token{Kind: TokText, Text: s.text} }

func (s textShape) fits() bool {
	n := len(s.text)
	if n < 1 || n > MaxText || s.text[0] == ' ' || s.text[n-1] == ' ' {
		return false
	}
	return printable(s.text)
}

func (s textShape) width() int { return len(s.text) }

func (s textShape) written() string { return `"` + s.text + `"` }

func (s blankShape) token() Token { return Token{Kind: TokBlank, Width: s.size, Off: s.off} }

func (s blankShape) fits() bool {
	return within(s.size, 0, maxSize) && within(s.off, -maxSize, maxSize)
}

func (s blankShape) width() int { return s.size }

func (s blankShape) written() string { return "_" + strconv.Itoa(s.size) + signedOff(s.off) }

func (s beginShape) token() Token {
	if s.tight {
		return Token{Kind: TokBegin, Width: 1, Off: s.off}
	}
	return Token{Kind: TokBegin, Off: s.off}
}

func (s beginShape) fits() bool { return within(s.off, 0, maxSize) }

func (s beginShape) width() int { return 0 }

func (s beginShape) written() string {
	if s.tight {
		return "[" + strconv.Itoa(s.off)
	}
	return "<" + strconv.Itoa(s.off)
}

func (s endShape) token() Token { return Token{Kind: TokEnd} }

func (s endShape) fits() bool { return true }

func (s endShape) width() int { return 0 }

func (s endShape) written() string { return ">" }

func (s lineShape) token() Token { return Token{Kind: TokLine, Off: s.off} }

func (s lineShape) fits() bool { return within(s.off, -maxSize, maxSize) }

func (s lineShape) width() int { return 0 }

func (s lineShape) written() string { return "|" + signedOff(s.off) }

func within(n int, low int, high int) bool { return low <= n && n <= high }

func printable(text string) bool { return firstUnprintable(text) < 0 }

func firstUnprintable(text string) int {
	for at, r := range text {
		if r < 32 || r > 126 {
			return at
		}
	}
	return -1
}

func signedOff(off int) string {
	switch {
	case off > 0:
		return "+" + strconv.Itoa(off)
	case off < 0:
		return strconv.Itoa(off)
	}
	return ""
}

// kindShape takes over the fields of t's kind alone; it is false for a kind that is none.
func kindShape(t Token) (shape, bool) {
	switch t.Kind {
	case TokText:
		return textShape{t.Text}, true
	case TokBlank:
		return blankShape{t.Width, t.Off}, true
	case TokBegin:
		return beginShape{t.Width == 1, t.Off}, true
	case TokEnd:
		return endShape{}, true
	case TokLine:
		return lineShape{t.Off}, true
	}
	return nil, false
}

// shapeOf is true just where t is TokenOk. A shape that does not give t back
// has lost something: a field that the kind does not have, or a Width of a
// TokBegin that is neither 0 nor 1.
func shapeOf(t Token) (shape, bool) {
	s, ok := kindShape(t)
	if !ok || s.token() != t || !s.fits() {
		return nil, false
	}
	return s, true
}

func TokenOk(t Token) bool {
	_, ok := shapeOf(t)
	return ok
}

func WidthOf(t Token) int {
	s, ok := shapeOf(t)
	if !ok {
		return -1
	}
	return s.width()
}

func IsBreak(t Token) bool {
	s, ok := shapeOf(t)
	if !ok {
		return false
	}
	switch s.(type) {
	case blankShape, lineShape:
		return true
	}
	return false
}

func TokenText(t Token) string {
	s, ok := shapeOf(t)
	if !ok {
		return ""
	}
	return s.written()
}

// makeToken takes the sizes that the kind has: none, Off, or Width and Off.
func makeToken(kind int, text string, sizes ...int) (Token, bool) {
	t := Token{Kind: kind, Text: text}
	switch len(sizes) {
	case 1:
		t.Off = sizes[0]
	case 2:
		t.Width, t.Off = sizes[0], sizes[1]
	}
	if !TokenOk(t) {
		return Token{}, false
	}
	return t, true
}

// ParseToken writes what it has read once more: the readers need not know
// every text that is no token's, such as one with an Off of +0.
func ParseToken(text string) (Token, bool) {
	t, ok := readToken(text)
	if !ok || TokenText(t) != text {
		return Token{}, false
	}
	return t, true
}

func readToken(text string) (Token, bool) {
	if text == "" {
		return Token{}, false
	}
	rest := text[1:]
	switch text[0] {
	case '"':
		return readText(rest)
	case '_':
		return readBlank(rest)
	case '<', '[':
		return readBegin(text[0] == '[', rest)
	case '>':
		return makeToken(TokEnd, "")
	case '|':
		return Line(readOff(rest))
	}
	return Token{}, false
}

func readText(rest string) (Token, bool) {
	if rest == "" {
		return Token{}, false
	}
	return Txt(rest[:len(rest)-1])
}

func readBlank(rest string) (Token, bool) {
	if rest == "" {
		return Token{}, false
	}
	return Blank(digit(rest[0]), readOff(rest[1:]))
}

func readBegin(tight bool, rest string) (Token, bool) {
	if rest == "" {
		return Token{}, false
	}
	return Begin(tight, digit(rest[0]))
}

// readOff is 0 for a text that is no Off; ParseToken then sees that the text
// it would be written as is another.
func readOff(text string) int {
	if len(text) != 2 {
		return 0
	}
	switch text[0] {
	case '+':
		return digit(text[1])
	case '-':
		return -digit(text[1])
	}
	return 0
}

// digit is some other number where b is no digit; ParseToken refuses the text
// then, since no such number is written as b.
func digit(b byte) int { return int(b) - '0' }

func Txt(text string) (Token, bool) { return makeToken(TokText, text) }

func Blank(width int, off int) (Token, bool) { return makeToken(TokBlank, "", width, off) }

func Begin(tight bool, off int) (Token, bool) {
	width := 0
	if tight {
		width = 1
	}
	return makeToken(TokBegin, "", width, off)
}

func Line(off int) (Token, bool) { return makeToken(TokLine, "", off) }
