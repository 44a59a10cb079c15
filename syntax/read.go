package syntax

import (
	"strconv"
	"strings"

	"newel/api"
)

// Read returns the tree of a text form.
func Read(s string) (n Node, fault api.Fault) {
	if len(s) > maxForm {
		return Node{}, api.Fault{Code: api.ErrLimit}
	}
	defer func() {
		if f, ok := recover().(api.Fault); ok {
			n, fault = Node{}, f
		}
	}()
	r := &reader{text: s, deep: -1}
	n = r.node(1)
	if r.at < len(s) {
		fail(r.at, api.ErrSyntax)
	}
	if r.deep >= 0 {
		fail(r.deep, api.ErrDepth)
	}
	if f := Check(n); f.Code != api.OK {
		fail(r.starts[f.At], f.Code)
	}
	return n, api.Fault{}
}

// fail leaves the function at hand: Read recovers the fault.
func fail(at int, code api.Errno) {
	panic(api.Fault{At: at, Code: code})
}

// reader reads a text form.
type reader struct {
	text   string
	at     int   // of the byte that is read next
	starts []int // the offsets of the nodes, in preorder
	deep   int   // the first node that is nested too deeply, or -1: an error of syntax behind it counts more
}

// node reads a node on a level.
func (r *reader) node(level int) Node {
	n := Node{At: r.at}
	if level > api.MaxNest && r.deep < 0 {
		r.deep = r.at
	}
	r.starts = append(r.starts, r.at)
	r.take('(')
	n.Kind = r.kind()
	next := r.part()
	if next == '"' {
		r.take(' ')
		n.Text = r.string()
		next = r.part()
	}
	if next == '-' || isDigit(next) {
		r.take(' ')
		n.Num = r.number()
	}
	for r.at < len(r.text) && r.text[r.at] == ' ' {
		r.take(' ')
		kid := r.node(level + 1)
		n.Kids = append(n.Kids, kid)
	}
	r.take(')')
	return n
}

// part returns the byte with which the next part of a node begins, behind a blank, or 0 if there is none.
func (r *reader) part() byte {
	if r.at+1 < len(r.text) && r.text[r.at] == ' ' {
		return r.text[r.at+1]
	}
	return 0
}

// take reads a byte that must stand there.
func (r *reader) take(b byte) {
	if r.at == len(r.text) || r.text[r.at] != b {
		fail(r.at, api.ErrSyntax)
	}
	r.at++
}

// kind reads the name of a kind.
func (r *reader) kind() int {
	start := r.at
	for r.at < len(r.text) && isLetter(r.text[r.at]) {
		r.at++
	}
	name := r.text[start:r.at]
	isCut := false // whether the text ends in the name of a kind
	for kind, other := range names {
		if name == other {
			return kind
		}
		isCut = isCut || r.at == len(r.text) && strings.HasPrefix(other, name)
	}
	if isCut {
		fail(r.at, api.ErrSyntax)
	}
	fail(start, api.ErrSyntax)
	return SNone
}

// number reads a Num.
func (r *reader) number() int64 {
	start := r.at
	if r.text[r.at] == '-' {
		r.at++
	}
	first := r.at
	for r.at < len(r.text) && isDigit(r.text[r.at]) {
		r.at++
	}
	if first == r.at {
		fail(r.at, api.ErrSyntax)
	}
	num, e := strconv.ParseInt(r.text[start:r.at], 10, 64)
	if e != nil || r.text[first] == '0' {
		fail(start, api.ErrSyntax)
	}
	return num
}

// string reads a Text in its quotes.
func (r *reader) string() string {
	var s strings.Builder
	start := r.at
	r.take('"')
	for r.at < len(r.text) && r.text[r.at] != '"' {
		b := r.text[r.at]
		if isStrange(b) {
			fail(start, api.ErrSyntax)
		}
		r.at++
		if b == '\\' {
			b = r.escape(start)
		}
		s.WriteByte(b)
	}
	if r.at < len(r.text) && s.Len() == 0 {
		fail(start, api.ErrSyntax)
	}
	r.take('"')
	return s.String()
}

// escape reads what stands behind a backslash of the Text that begins at start.
func (r *reader) escape(start int) byte {
	if r.at == len(r.text) {
		fail(r.at, api.ErrSyntax)
	}
	b := r.text[r.at]
	r.at++
	switch b {
	case 'n':
		return '\n'
	case 't':
		return '\t'
	case '\\', '"':
		return b
	case 'x':
		return r.number16(start)
	}
	fail(start, api.ErrSyntax)
	return 0
}

// number16 reads the two digits of an escape of the Text that begins at start.
func (r *reader) number16(start int) byte {
	high := r.digit16(start)
	if !isStrange(high<<4 | 15) { // no byte of this digit has such an escape, whatever stands behind it
		fail(start, api.ErrSyntax)
	}
	b := high<<4 | r.digit16(start)
	if !isStrange(b) || b == '\n' || b == '\t' {
		fail(start, api.ErrSyntax)
	}
	return b
}

// digit16 reads a digit of an escape.
func (r *reader) digit16(start int) byte {
	if r.at == len(r.text) {
		fail(r.at, api.ErrSyntax)
	}
	digit := strings.IndexByte(hexDigits, r.text[r.at])
	if digit < 0 {
		fail(start, api.ErrSyntax)
	}
	r.at++
	return byte(digit)
}
