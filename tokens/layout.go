package tokens

import "newel/api"

// maxList is the greatest number of tokens that Layout takes.
const maxList = 20000

// region is an open bracket, or an indentation.
type region struct {
	mark  string // that opens the bracket; empty: an indentation
	width int    // of an indentation; of a bracket the Col of the first token of its line
	index int    // of the token that opens it
}

// layout puts line ends and indentation into a list of tokens.
type layout struct {
	list    []Token
	out     []Token
	regions []region
	first   int // the Col of the first token of the line at hand
}

// Layout puts line ends and indentation into a list of tokens.
func Layout(l []Token) (list []Token, fault api.Fault) {
	defer func() {
		if f, ok := recover().(api.Fault); ok {
			list, fault = nil, f
		}
	}()
	checkList(l)
	y := &layout{list: l}
	for i, t := range l {
		if i == 0 {
			y.first = t.Col
			y.open(region{width: t.Col})
		} else if t.Line > l[i-1].Line {
			y.first = t.Col
			y.line(i)
		}
		y.token(i)
	}
	y.end()
	return y.out, api.Fault{}
}

func checkList(l []Token) {
	for i, t := range l {
		if t.Kind < Name || t.Kind > End {
			fail(i, api.ErrKind)
		}
		if i > 0 && !follows(l[i-1], t) {
			fail(i, api.ErrOrder)
		}
	}
	if len(l) > maxList {
		fail(0, api.ErrLimit)
	}
}

// follows reports whether t may stand behind u.
func follows(u, t Token) bool {
	if t.Line < u.Line || t.At < u.At || t.Line == u.Line && t.Col < u.Col {
		return false
	}
	if u.Kind == Part { // it may be empty
		return true
	}
	return t.At > u.At && (t.Line > u.Line || t.Col > u.Col)
}

// put adds a token without text in front of t.
func (y *layout) put(kind int, t Token) {
	y.out = append(y.out, Token{Kind: kind, At: t.At, Line: t.Line, Col: t.Col})
}

func (y *layout) open(r region) {
	if len(y.regions) == api.MaxNest {
		fail(r.index, api.ErrDepth)
	}
	y.regions = append(y.regions, r)
}

// inner returns the innermost region.
func (y *layout) inner() region {
	return y.regions[len(y.regions)-1]
}

// indented reports whether the innermost region is an indentation other than the first region.
func (y *layout) indented() bool {
	return len(y.regions) > 1 && y.inner().mark == ""
}

// outdent closes the innermost indentation in front of t.
func (y *layout) outdent(t Token) {
	y.put(Outdent, t)
	y.regions = y.regions[:len(y.regions)-1]
}

// line puts what stands in front of the token i, which is the first one of its line.
func (y *layout) line(i int) {
	in := y.inner()
	if in.mark == "(" || in.mark == "[" {
		return
	}
	u, t := y.list[i-1], y.list[i]
	if opens(u) && t.Col > in.width {
		y.put(Indent, t)
		y.open(region{width: t.Col, index: i})
	} else {
		y.outdents(t)
	}
	// This applies behind an Indent, too: return opens, but a statement may end with it.
	if !y.continues(i) && !unfinished(u) {
		y.put(Newline, t)
	}
}

// outdents closes the indentations that end in front of t.
func (y *layout) outdents(t Token) {
	closed := false
	for y.indented() && t.Col < y.inner().width {
		y.outdent(t)
		closed = true
	}
	in := y.inner()
	if in.mark == "" && (t.Col < in.width || closed && t.Col > in.width) {
		fail(t.At, api.ErrOrder)
	}
}

// token adds the token i, and opens or closes the bracket that it is.
func (y *layout) token(i int) {
	t := y.list[i]
	if t.Kind == Mark {
		switch t.Text {
		case "(", "[", "{", "'{", "${":
			y.open(region{mark: t.Text, width: y.first, index: i})
		case ")", "]", "}":
			y.close(i)
		}
	}
	y.out = append(y.out, t)
}

// close closes the innermost bracket at the token i, and the indentations inside of it.
func (y *layout) close(i int) {
	for y.indented() {
		y.outdent(y.list[i])
	}
	if closing(y.inner().mark) != y.list[i].Text {
		fail(i, api.ErrSyntax)
	}
	y.regions = y.regions[:len(y.regions)-1]
}

// end adds what stands behind the last token.
func (y *layout) end() {
	stop := Token{Kind: Stop}
	if n := len(y.list); n > 0 {
		stop.At = y.list[n-1].At + 1
		stop.Line = y.list[n-1].Line + 1
	}
	for y.indented() {
		y.outdent(stop)
	}
	if len(y.regions) > 1 {
		fail(y.inner().index, api.ErrSyntax)
	}
	y.out = append(y.out, stop)
}

// opens reports whether an indentation may begin behind a token.
func opens(u Token) bool {
	switch u.Kind {
	case Mark:
		switch u.Text {
		case ":", "=", "=>", "<-":
			return true
		}
	case Key:
		switch u.Text {
		case "then", "else", "do", "match", "try", "catch", "finally", "yield", "return", "throw":
			return true
		}
	}
	return false
}

// unfinished reports whether a statement cannot end behind a token.
func unfinished(u Token) bool {
	switch u.Kind {
	case Op:
		return true
	case Mark:
		switch u.Text {
		case "(", "[", "{", "'{", "${", ",", ".", ";", "=", "=>", "<-", ":", "<:", ">:":
			return true
		}
	case Key:
		switch u.Text {
		case "false", "null", "return", "super", "this", "true":
			return false
		}
		return Keyword(u.Text)
	}
	return false
}

// continues reports whether the token i goes on with the statement in front of it.
func (y *layout) continues(i int) bool {
	t := y.list[i]
	switch t.Kind {
	case Op:
		return i+1 == len(y.list) || apart(t, y.list[i+1])
	case Mark:
		switch t.Text {
		case ")", "]", "}", ",", ".", "=", "=>", "<-", ":", "<:", ">:", ";":
			return true
		}
	case Key:
		switch t.Text {
		case "catch", "do", "else", "extends", "finally", "match", "then", "with", "yield":
			return true
		}
	}
	return false
}

// apart reports whether something stands between t and the token behind it. The difference of the offsets is taken without a sign, as it may be greater than an int.
func apart(t, next Token) bool {
	return uint64(next.At)-uint64(t.At) > uint64(len(t.Text))
}
