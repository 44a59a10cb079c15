package tokens

import "newel/api"

// str reads a String.
func (r *reader) str() {
	from := r.at
	r.at++
	text := r.characters(from, '"', '"')
	r.at++
	r.add(String, text, from)
}

// char reads a Char.
func (r *reader) char() {
	from := r.at
	r.at++
	text := r.characters(from, '\'', '\'')
	if len(text) != 1 {
		fail(from, api.ErrSyntax)
	}
	r.at++
	r.add(Char, text, from)
}

// parts reads an interpolated string from the beginning of a Part on: up to its End, or up to a `${`, behind whose `}` ending calls it again.
func (r *reader) parts() {
	for {
		from := r.at
		r.add(Part, r.characters(from, '"', '$'), from)
		if r.peek(0) == '"' {
			r.add(End, "", r.at)
			r.at++
			return
		}
		if r.peek(1) == '{' {
			r.push(2, true)
			return
		}
		r.variable()
	}
}

// variable reads a `$` and the name behind it.
func (r *reader) variable() {
	dollar := r.at
	if classOf(r.peek(1)) != letter {
		fail(dollar, api.ErrSyntax)
	}
	r.at++
	from := r.at
	text := r.skipWord()
	kind := wordKind(text, from)
	if kind == Mark {
		fail(dollar, api.ErrSyntax)
	}
	r.add(kind, text, from)
}

// characters reads the characters in front of the byte a or b, which is not read, of the token that begins at from; it returns the bytes that they stand for.
func (r *reader) characters(from int, a, b byte) string {
	var out []byte
	for {
		switch c := r.peek(0); {
		case c == a || c == b:
			return string(out)
		case c < 32: // a line feed, a tab, or the end of the text
			fail(from, api.ErrSyntax)
		case c == '\\':
			out = append(out, r.escape(from))
		default:
			out = append(out, c)
			r.at++
		}
	}
}

// escape reads an escape in the token that begins at from; it returns the byte that it stands for.
func (r *reader) escape(from int) byte {
	b := r.peek(1)
	r.at += 2
	switch b {
	case 'n':
		return '\n'
	case 't':
		return '\t'
	case '\\', '\'', '"', '$':
		return b
	case 'x':
		high, low := hexDigit(r.peek(0)), hexDigit(r.peek(1))
		if high >= 0 && low >= 0 {
			r.at += 2
			return byte(high<<4 | low)
		}
	}
	fail(from, api.ErrSyntax)
	return 0
}

// hexDigit returns the value of a digit 0 to 9 or a to f, or -1.
func hexDigit(b byte) int {
	switch {
	case '0' <= b && b <= '9':
		return int(b - '0')
	case 'a' <= b && b <= 'f':
		return int(b-'a') + 10
	}
	return -1
}
