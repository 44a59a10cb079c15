package tokens

import "newel/api"

// class says what a byte is at the beginning of a token, or inside of a name, number or operator.
type class uint8

const (
	other  class = iota
	letter       // of names, with `_`
	digit
	operator
	opening // a bracket
	ending  // a bracket
	point   // another mark of one byte
)

// classes has the classes of the bytes that are not other.
var classes = [128]class{
	'A': letter, 'B': letter, 'C': letter, 'D': letter, 'E': letter, 'F': letter, 'G': letter,
	'H': letter, 'I': letter, 'J': letter, 'K': letter, 'L': letter, 'M': letter, 'N': letter,
	'O': letter, 'P': letter, 'Q': letter, 'R': letter, 'S': letter, 'T': letter, 'U': letter,
	'V': letter, 'W': letter, 'X': letter, 'Y': letter, 'Z': letter, '_': letter,
	'a': letter, 'b': letter, 'c': letter, 'd': letter, 'e': letter, 'f': letter, 'g': letter,
	'h': letter, 'i': letter, 'j': letter, 'k': letter, 'l': letter, 'm': letter, 'n': letter,
	'o': letter, 'p': letter, 'q': letter, 'r': letter, 's': letter, 't': letter, 'u': letter,
	'v': letter, 'w': letter, 'x': letter, 'y': letter, 'z': letter,
	'0': digit, '1': digit, '2': digit, '3': digit, '4': digit,
	'5': digit, '6': digit, '7': digit, '8': digit, '9': digit,
	'+': operator, '-': operator, '*': operator, '/': operator, '%': operator,
	'<': operator, '>': operator, '=': operator, '!': operator, '&': operator,
	'|': operator, '^': operator, '~': operator, ':': operator, '?': operator,
	'(': opening, '[': opening, '{': opening,
	')': ending, ']': ending, '}': ending,
	',': point, '.': point, ';': point, '@': point,
}

func classOf(b byte) class {
	if int(b) < len(classes) {
		return classes[b]
	}
	return other
}

// inWord reports whether a byte may stand in a name behind its beginning.
func inWord(b byte) bool {
	c := classOf(b)
	return c == letter || c == digit
}

// noLiteral stands for the beginning of a literal where there is none.
const noLiteral = -1

// bracket is an open bracket.
type bracket struct {
	mark    string
	at      int
	literal int // the beginning of the interpolated string that goes on behind the mark that closes it, or noLiteral
}

// reader divides a text into tokens.
type reader struct {
	text string
	at   int // of the byte that is read next
	out  []Token
	open []bracket

	// The line of the byte at told, and the offset of its beginning.
	told, line, start int
}

// Raw returns the tokens of a text, without layout.
func Raw(text string) (list []Token, fault api.Fault) {
	defer func() {
		if f, ok := recover().(api.Fault); ok {
			list, fault = nil, f
		}
	}()
	checkBytes(text)
	r := &reader{text: text}
	r.skip()
	for r.at < len(text) {
		scan := r.scanner()
		scan()
		r.skip()
	}
	if n := len(r.open); n > 0 {
		fail(r.open[n-1].at, api.ErrSyntax)
	}
	return r.out, api.Fault{}
}

func checkBytes(text string) {
	if len(text) > api.MaxText {
		fail(0, api.ErrLimit)
	}
	for i := range len(text) {
		if b := text[i]; b != '\t' && b != '\n' && (b < 32 || b > 126) {
			fail(i, api.ErrSyntax)
		}
	}
}

// scanner returns the method that reads the token at hand.
func (r *reader) scanner() func() {
	switch b := r.peek(0); classOf(b) {
	case letter:
		return r.word
	case digit:
		return r.number
	case operator:
		return r.operator
	case opening:
		return r.opening
	case ending:
		return r.ending
	case point:
		return r.point
	default:
		return r.quoted(b)
	}
}

// quoted returns the method that reads a token that begins with a quote or `$`.
func (r *reader) quoted(b byte) func() {
	brace := r.peek(1) == '{'
	switch {
	case b == '"':
		return r.str
	case b == '\'' && !brace:
		return r.char
	case b == '\'' || b == '$' && brace:
		return r.opening
	}
	return r.illegal
}

// peek returns the byte that stands n bytes behind the one that is read next; behind the text 0, which no text has.
func (r *reader) peek(n int) byte {
	if r.at+n < len(r.text) {
		return r.text[r.at+n]
	}
	return 0
}

// add adds a token that begins at an offset. Offsets never decrease, so that each line feed is counted once.
func (r *reader) add(kind int, text string, at int) {
	for ; r.told < at; r.told++ {
		if r.text[r.told] == '\n' {
			r.line++
			r.start = r.told + 1
		}
	}
	r.out = append(r.out, Token{Kind: kind, Text: text, At: at, Line: r.line, Col: at - r.start})
}

// skip goes on to the next token.
func (r *reader) skip() {
	for {
		switch b := r.peek(0); {
		case b == ' ' || b == '\t' || b == '\n':
			r.at++
		case r.comment() && r.peek(1) == '/':
			r.skipLine()
		case r.comment():
			r.skipComment()
		default:
			return
		}
	}
}

// comment reports whether a comment begins here.
func (r *reader) comment() bool {
	return r.peek(0) == '/' && (r.peek(1) == '/' || r.peek(1) == '*')
}

func (r *reader) skipLine() {
	for r.at < len(r.text) && r.text[r.at] != '\n' {
		r.at++
	}
}

// skipComment skips a comment between `/*` and `*/`, which may contain others.
func (r *reader) skipComment() {
	from, depth := r.at, 0
	for r.at < len(r.text) {
		switch {
		case r.peek(0) == '/' && r.peek(1) == '*':
			depth++
			r.at += 2
		case r.peek(0) == '*' && r.peek(1) == '/':
			depth--
			r.at += 2
		default:
			r.at++
		}
		if depth == 0 {
			return
		}
	}
	fail(from, api.ErrSyntax)
}

// skipWord goes on behind the letters and digits that stand here, and returns them.
func (r *reader) skipWord() string {
	from := r.at
	for inWord(r.peek(0)) {
		r.at++
	}
	return r.text[from:r.at]
}

// word reads a name, a keyword, the mark `_`, or the beginning of an interpolated string.
func (r *reader) word() {
	from := r.at
	text := r.skipWord()
	kind := wordKind(text, from)
	if kind == Name && r.peek(0) == '"' {
		r.at++
		r.add(Start, text, from)
		r.parts(from)
		return
	}
	r.add(kind, text, from)
}

// wordKind returns the kind of a word of letters and digits that begins at an offset.
func wordKind(text string, at int) int {
	switch {
	case len(text) > api.MaxName:
		fail(at, api.ErrLimit)
	case text == "_":
		return Mark
	case Keyword(text):
		return Key
	}
	return Name
}

// number reads an Int or a Long.
func (r *reader) number() {
	from := r.at
	for classOf(r.peek(0)) == digit {
		r.at++
	}
	digits, kind, most := r.text[from:r.at], Int, "2147483647"
	if r.peek(0) == 'L' {
		kind, most = Long, "9223372036854775807"
		r.at++
	}
	if len(digits) > 1 && digits[0] == '0' || inWord(r.peek(0)) {
		fail(from, api.ErrSyntax)
	}
	if len(digits) > len(most) || len(digits) == len(most) && digits > most {
		fail(from, api.ErrRange)
	}
	r.add(kind, digits, from)
}

// operator reads an Op, or a mark that consists of the same characters.
func (r *reader) operator() {
	from := r.at
	for classOf(r.peek(0)) == operator && !r.comment() {
		r.at++
	}
	switch text := r.text[from:r.at]; text {
	case "=", "=>", "<-", ":", "<:", ">:":
		r.add(Mark, text, from)
	default:
		if len(text) > api.MaxName {
			fail(from, api.ErrLimit)
		}
		r.add(Op, text, from)
	}
}

func (r *reader) point() {
	r.mark(1)
}

// mark adds the mark of the next n bytes.
func (r *reader) mark(n int) {
	from := r.at
	r.at += n
	r.add(Mark, r.text[from:r.at], from)
}

// opening reads a mark that opens a bracket: all but `'{` and `${` have one byte.
func (r *reader) opening() {
	n := 1
	if classOf(r.peek(0)) != opening {
		n = 2
	}
	r.push(n, noLiteral)
}

// push reads a mark of n bytes that opens a bracket, in the interpolated string that begins at literal, if there is one.
func (r *reader) push(n, literal int) {
	if len(r.open) == api.MaxNest {
		fail(r.at, api.ErrDepth)
	}
	r.open = append(r.open, bracket{mark: r.text[r.at : r.at+n], at: r.at, literal: literal})
	r.mark(n)
}

// ending reads a mark that closes a bracket.
func (r *reader) ending() {
	last := len(r.open) - 1
	if last < 0 || closing(r.open[last].mark) != r.text[r.at:r.at+1] {
		fail(r.at, api.ErrSyntax)
	}
	literal := r.open[last].literal
	r.open = r.open[:last]
	r.mark(1)
	if literal != noLiteral {
		r.parts(literal)
	}
}

// illegal is the method for a byte with which no token begins.
func (r *reader) illegal() {
	fail(r.at, api.ErrSyntax)
}
