package tokens

import "newel/api"

// str reads a String.
func (r *reader) str() {
	from := r.at
	r.at++
	text := r.characters(from, from, '"', '"')
	r.at++
	r.add(String, text, from)
}

// char reads a Char.
func (r *reader) char() {
	from := r.at
	r.at++
	text := r.characters(from, from, '\'', '\'')
	if len(text) != 1 {
		fail(from, api.ErrSyntax)
	}
	r.at++
	r.add(Char, text, from)
}

// parts reads the interpolated string that begins at literal, from the beginning of a Part on: up to its End, or up to a `${`, behind whose `}` ending calls it again.
func (r *reader) parts(literal int) {
	for {
		from := r.at
		r.add(Part, r.characters(literal, from, '"', '$'), from)
		if r.peek(0) == '"' {
			r.add(End, "", r.at)
			r.at++
			return
		}
		if r.peek(1) == '{' {
			r.push(2, literal)
			return
		}
		r.variable()
	}
}

// variable reads a `$` and the name behind it.
func (r *reader) variable() {
	dollar := r.at
	if classOf(r.peek(1)) != letter {
		fail(dollar, api.ErrSyntax)
	}
	r.at++
	from := r.at
	text := r.skipWord()
	kind := wordKind(text, from)
	if kind == Mark {
		fail(dollar, api.ErrSyntax)
	}
	r.add(kind, text, from)
}

// characters reads the characters in front of the byte a or b, which is not read; it returns the bytes that they stand for. The literal and its token at hand begin at different places in an interpolated string: it is the literal that is not closed, and the token that has a wrong escape.
func (r *reader) characters(literal, token int, a, b byte) string {
	var out []byte
	for {
		if c := r.peek(0); c == a || c == b {
			return string(out)
		}
		c := r.next(literal)
		if c == '\\' {
			c = r.escape(literal, token)
		}
		out = append(out, c)
	}
}

// next reads a byte of the literal that begins at an offset, which is not closed if a line feed, a tab or the end of the text comes first.
func (r *reader) next(literal int) byte {
	b := r.peek(0)
	if b < 32 {
		fail(literal, api.ErrSyntax)
	}
	r.at++
	return b
}

// escape reads what stands behind the backslash of an escape; it returns the byte that the escape stands for.
func (r *reader) escape(literal, token int) byte {
	switch b := r.next(literal); b {
	case 'n':
		return '\n'
	case 't':
		return '\t'
	case '\\', '\'', '"', '$':
		return b
	case 'x':
		high := r.hexDigit(literal, token)
		low := r.hexDigit(literal, token)
		return high<<4 | low
	}
	fail(token, api.ErrSyntax)
	return 0
}

// hexDigit reads a digit 0 to 9 or a to f of an escape; it returns its value.
func (r *reader) hexDigit(literal, token int) byte {
	b := r.next(literal)
	switch {
	case '0' <= b && b <= '9':
		return b - '0'
	case 'a' <= b && b <= 'f':
		return b - 'a' + 10
	}
	fail(token, api.ErrSyntax)
	return 0
}
