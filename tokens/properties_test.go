package tokens

import (
	"math/rand"
	"slices"
	"strings"
	"testing"

	"newel/api"
)

// P1.5 and P1: properties of texts that are put together at random, the same ones in each run.

// pieces has texts of tokens, and what stands between tokens.
var pieces = []string{
	"a", "b1", "_", "_x", "val", "def", "return", "this", "else", "then", "do", "match", "case", "yield",
	"=", "=>", "<-", ":", "<:", "+", "-", "::", "==", "*/", "/", "=>>", ",", ".", ";", "@",
	"0", "17", "3L", "'c'", "'\\n'", "'\\x7b'", "\"s\"", "\"\\\"\\x00\"", "s\"\"", "s\"a$b c\"", "f\"$this\\x61${x}\\$\"", "g\"${ s\"${a}\" + 1 }\"",
	"(a)", "[b]", "{c}", "'{ a }", "${ b }", "// note\n", "/* a /* b */ */",
}

var gaps = []string{" ", " ", " ", "  ", "\n", "\n", "\n  ", "\n  ", "\n    ", "\t", "\n\n"}

// someText returns a text of pieces whose brackets match.
func someText(r *rand.Rand, size, depth int) string {
	var s strings.Builder
	for range r.Intn(size) {
		switch {
		case depth > 0 && r.Intn(6) == 0:
			pair := []string{"()", "[]", "{}", "{}", "'{}", "${}"}[r.Intn(6)]
			last := len(pair) - 1
			s.WriteString(pair[:last] + gaps[r.Intn(len(gaps))] + someText(r, size, depth-1) + " " + pair[last:])
		default:
			s.WriteString(pieces[r.Intn(len(pieces))])
		}
		s.WriteString(gaps[r.Intn(len(gaps))])
	}
	return s.String()
}

const strange = "\"'${}()[]\\x_ =\n\t/*#L0\x00\xff"

// someBytes returns a text of pieces that need not fit, with bytes changed.
func someBytes(r *rand.Rand) string {
	b := []byte(someText(r, 8, 2))
	for range r.Intn(4) {
		if len(b) == 0 {
			break
		}
		i := r.Intn(len(b))
		switch r.Intn(3) {
		case 0:
			b = slices.Delete(b, i, i+1)
		case 1:
			b[i] = strange[r.Intn(len(strange))]
		default:
			b = slices.Insert(b, i, strange[r.Intn(len(strange))])
		}
	}
	return string(b)
}

func sameTexts(a, b []Token) bool {
	return slices.EqualFunc(a, b, func(x, y Token) bool { return x.Kind == y.Kind && x.Text == y.Text })
}

func TestRawOfShow(t *testing.T) {
	r := rand.New(rand.NewSource(1))
	for range 5000 {
		text := someText(r, 10, 3)
		list := mustRaw(t, text)
		s, e := Show(list)
		if e != api.OK {
			t.Fatalf("Show of %q: %v", text, e)
		}
		again := mustRaw(t, s)
		if !sameTexts(list, again) {
			t.Fatalf("%q: Raw of Show has\n%s; want\n%s", text, brief(again), brief(list))
		}
		if twice, e := Show(again); twice != s || e != api.OK {
			t.Fatalf("Show of Raw of %q = %q, %v", s, twice, e)
		}
	}
}

// Every text of a literal can be shown.
func TestShowOfAllBytes(t *testing.T) {
	for a := range 256 {
		one := string([]byte{byte(a)})
		for _, text := range []string{"", "a", "$", "\\", "\"", "{"} {
			two := one + text
			for _, list := range [][]Token{
				{{Kind: Char, Text: one}},
				{{Kind: String, Text: two}},
				{{Kind: Start, Text: "s"}, {Kind: Part, Text: two}, {Kind: Name, Text: "n"}, {Kind: Part, Text: two}, {Kind: Key, Text: "if"}, {Kind: Part, Text: two}, {Kind: End}},
			} {
				s, e := Show(list)
				if e != api.OK || !sameTexts(mustRaw(t, s), list) {
					t.Fatalf("Show of %q = %q, %v", brief(list), s, e)
				}
			}
		}
	}
}

// Blanks and comments between tokens in a line change only At and Col.
func TestBlanksAndComments(t *testing.T) {
	r := rand.New(rand.NewSource(2))
	for range 2000 {
		list := mustRaw(t, someText(r, 10, 2))
		var one, other strings.Builder
		in := Start
		for i, tok := range list {
			gap, wide := " ", []string{"  ", "\t", "/**/", " /* a /* */*/ ", "/* // */\t"}[r.Intn(5)]
			switch {
			case i == 0 || in == Start || in == Part || tok.Kind == Part:
				gap, wide = "", ""
			case r.Intn(5) == 0:
				gap, wide = "\n", "\n"
			}
			if strings.HasSuffix(one.String(), "/") && wide != "" { // a comment would begin with it
				wide = " " + wide
			}
			form := canonical(in, tok)
			one.WriteString(gap + form)
			other.WriteString(wide + form)
			in = tok.Kind
		}
		a, b := mustRaw(t, one.String()), mustRaw(t, other.String())
		same := slices.EqualFunc(a, b, func(x, y Token) bool { return x.Kind == y.Kind && x.Text == y.Text && x.Line == y.Line })
		if !same || !sameTexts(a, list) {
			t.Fatalf("%q and %q differ", one.String(), other.String())
		}
	}
}

// checkLayout checks a list with layout against the one without: Indents and Outdents match inside of their brackets, and there is nothing else.
func checkLayout(t *testing.T, text string, raw, list []Token) {
	t.Helper()
	var without []Token
	var open []string
	for i, tok := range list {
		switch {
		case tok.Kind == Indent:
			open = append(open, "Indent")
		case tok.Kind == Outdent:
			if n := len(open); n == 0 || open[n-1] != "Indent" {
				t.Fatalf("%q: an Outdent without Indent", text)
			}
			open = open[:len(open)-1]
		case tok.Kind == Newline:
			if n := len(open); n > 0 && (open[n-1] == "(" || open[n-1] == "[") {
				t.Fatalf("%q: a Newline in %s", text, open[n-1])
			}
		case tok.Kind == Stop:
			if i != len(list)-1 || tok.Text != "" {
				t.Fatalf("%q: a Stop that is not the end", text)
			}
		default:
			without = append(without, tok)
			switch end := closing(tok.Text); {
			case tok.Kind == Mark && end != "":
				open = append(open, tok.Text)
			case tok.Kind == Mark && strings.Contains(")]}", tok.Text) && tok.Text != "":
				if n := len(open); n == 0 || closing(open[n-1]) != tok.Text {
					t.Fatalf("%q: %s closes no bracket", text, tok.Text)
				}
				open = open[:len(open)-1]
			}
			continue
		}
		if i+1 < len(list) && (tok.At != list[i+1].At || tok.Line != list[i+1].Line || tok.Col != list[i+1].Col || tok.Text != "") {
			t.Fatalf("%q: %v stands in front of %v", text, tok, list[i+1])
		}
	}
	if len(open) != 0 || !slices.Equal(without, raw) || len(list) == 0 || list[len(list)-1].Kind != Stop {
		t.Fatalf("%q: Scan has %s", text, plain(list))
	}
}

func TestIndentsMatch(t *testing.T) {
	r := rand.New(rand.NewSource(3))
	laid := 0
	for range 20000 {
		text := someText(r, 10, 3)
		list, f := Scan(text)
		if f != (api.Fault{}) {
			if f.Code != api.ErrOrder || f.At < 0 || f.At >= len(text) || len(list) != 0 {
				t.Fatalf("Scan(%q): %v", text, f)
			}
			continue
		}
		checkLayout(t, text, mustRaw(t, text), list)
		laid++
	}
	if laid < 5000 {
		t.Errorf("only %d texts have a layout", laid)
	}
}

func TestOneLine(t *testing.T) {
	r := rand.New(rand.NewSource(4))
	for range 2000 {
		text := strings.ReplaceAll(strings.ReplaceAll(someText(r, 12, 3), "// note\n", ""), "\n", " ")
		for _, tok := range mustScan(t, text) {
			if tok.Kind == Newline || tok.Kind == Indent || tok.Kind == Outdent {
				t.Fatalf("Scan(%q) has a %s", text, kindNames[tok.Kind])
			}
		}
	}
}

// P1.1: the fault of an interpolated string that is not closed is at its Start, whatever stands in it and in front of it.
func TestUnclosedStrings(t *testing.T) {
	r := rand.New(rand.NewSource(7))
	inside := []string{"a", " b ", "1", "\\n", "\\x41", "\\\"", "\\$", "{", "}", ")", "'", "// ", "/*", "$c", "$_1", "$this"}
	ends := []string{"", "\n", "\n\"", "\t\"", "\\", "\\\n\"", "\\x", "\\x4\n"}
	for range 5000 {
		front := someText(r, 4, 2)
		var s strings.Builder
		for range r.Intn(6) {
			if r.Intn(4) == 0 {
				s.WriteString("${ " + someText(r, 4, 2) + " }")
			} else {
				s.WriteString(inside[r.Intn(len(inside))])
			}
		}
		text := front + " s\"" + s.String() + ends[r.Intn(len(ends))]
		l, f := Raw(text)
		expectFault(t, "Raw of "+text, l, f, api.Fault{At: len(front) + 1, Code: api.ErrSyntax})
	}
}

// P1: nothing panics, whatever the text; with a fault there is nothing else.
func TestAnyText(t *testing.T) {
	r := rand.New(rand.NewSource(5))
	faults := 0
	for range 50000 {
		text := someBytes(r)
		list, f := Raw(text)
		if f != (api.Fault{}) {
			faults++
			if len(list) != 0 || f.At < 0 || f.At > len(text) || f.Code != api.ErrSyntax && f.Code != api.ErrRange {
				t.Fatalf("Raw(%q) = %v, %v", text, list, f)
			}
			if l, g := Scan(text); g != f || len(l) != 0 {
				t.Fatalf("Scan(%q) = %v, %v; Raw has %v", text, l, g, f)
			}
			continue
		}
		if s, e := Show(list); e != api.OK || !sameTexts(mustRaw(t, s), list) {
			t.Fatalf("Show of %q = %q, %v", text, s, e)
		}
		if l, g := Scan(text); g == (api.Fault{}) {
			checkLayout(t, text, list, l)
		}
	}
	if faults < 5000 || faults > 45000 {
		t.Errorf("%d texts with a fault", faults)
	}
}

// P1: Layout and Show return for any list.
func TestAnyList(t *testing.T) {
	r := rand.New(rand.NewSource(6))
	texts := []string{"", "a", "=", "(", ")", "{", "}", "'{", "${", "[", "]", "return", "do", "+", "::", "_", "1", "\x00", "\""}
	for range 50000 {
		var list []Token
		at, line, col := 0, 0, 0
		for range r.Intn(8) {
			at += r.Intn(4) + 1
			col += r.Intn(4) + 1
			if r.Intn(3) == 0 {
				line++
				col = r.Intn(4)
			}
			kind := r.Intn(Newline)
			if r.Intn(30) == 0 {
				kind = r.Intn(20) - 2
			}
			list = append(list, Token{Kind: kind, Text: texts[r.Intn(len(texts))], At: at, Line: line, Col: col})
		}
		out, f := Layout(list)
		if f == (api.Fault{}) {
			checkLayout(t, plain(list), list, out)
		} else if len(out) != 0 {
			t.Fatalf("Layout of %v: %v and %v", list, out, f)
		}
		if s, e := Show(list); e == api.OK && !sameTexts(mustRaw(t, s), list) || e != api.OK && (s != "" || e != api.ErrForm) {
			t.Fatalf("Show(%v) = %q, %v", list, s, e)
		}
	}
}
