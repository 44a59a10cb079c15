package tokens

import (
	"slices"
	"strings"
	"testing"

	"newel/api"
)

// P1.3: texts of tokens.

func TestShow(t *testing.T) {
	for _, c := range []struct{ text, want string }{
		{"", ""},
		{"a", "a"},
		{"f(1,  \"a\\n\") // note", `f ( 1 , "a\n" )`},
		{"val x=12L+0", "val x = 12L + 0"},
		{"a\n  b /* c */ '{d}", "a b '{ d }"},
		{`'a''\n''\t''\\''\'''"''\x7b''}'`, `'a' '\n' '\t' '\\' '\'' '"' '\x7b' '}'`},
		{`'\x00' '\x1f' '\x7f' '\xff' ' ' '\x20' '~' '\$'`, `'\x00' '\x1f' '\x7f' '\xff' ' ' ' ' '~' '$'`},
		{`"a\'b'\"\\\n\t\x0a\x09\x41\x01\xfe{$x"`, `"a'b'\"\\\n\t\n\tA\x01\xfe{$x"`},
		{`s"a$b c${d}"`, `s"a$b c${ d }"`},
		{`x s"" y`, `x s"" y`},
		{`s"$a$this${b}${ c . d }" e`, `s"$a$this${ b }${ c . d }" e`},
		{`s"\$a'\'\"{}\n\t\\\x41\x80"`, `s"\$a''\"{}\n\t\\A\x80"`},
		{`s"$a\x62c$d\x31$e\x5f$f\x20g$h-$i\nj"`, `s"$a\x62c$d\x31$e\x5f$f g$h-$i\nj"`},
		{`s"${a}b${c}1${d}_"`, `s"${ a }b${ c }1${ d }_"`},
		{`s"$this\x78x"`, `s"$this\x78x"`},
		{`s"${f"$a"}"`, `s"${ f"$a" }"`},
		{`_"a"`, `_ "a"`},
	} {
		if s, e := Show(mustRaw(t, c.text)); s != c.want || e != api.OK {
			t.Errorf("Show of %q = %s, %v; want %s", c.text, s, e, c.want)
		}
	}
}

func TestShowForm(t *testing.T) {
	long := strings.Repeat("a", api.MaxText)
	for _, list := range [][]Token{
		{{Kind: Newline}}, {{Kind: Indent}}, {{Kind: Outdent}}, {{Kind: Stop}}, {{Kind: Kinds, Text: "a"}}, {{Kind: -1, Text: "a"}},
		{{Kind: Name}}, {{Kind: Name, Text: "val"}}, {{Kind: Name, Text: "_"}}, {{Kind: Name, Text: "a b"}}, {{Kind: Name, Text: "a//"}}, {{Kind: Name, Text: "1"}}, {{Kind: Name, Text: " a"}},
		{{Kind: Key, Text: "a"}}, {{Kind: Op, Text: "="}}, {{Kind: Op, Text: "//"}}, {{Kind: Mark, Text: "+"}}, {{Kind: Mark, Text: "("}}, {{Kind: Mark, Text: ")"}}, {{Kind: Mark}},
		{{Kind: Int, Text: "01"}}, {{Kind: Int, Text: "-1"}}, {{Kind: Int, Text: "2147483648"}}, {{Kind: Int, Text: "1L"}}, {{Kind: Long, Text: "1L"}}, {{Kind: Long, Text: "9223372036854775808"}},
		{{Kind: Char}}, {{Kind: Char, Text: "ab"}},
		{{Kind: Start, Text: "s"}}, {{Kind: Part, Text: "a"}}, {{Kind: Part}}, {{Kind: End}},
		{{Kind: Start, Text: "s"}, {Kind: End}}, {{Kind: Start, Text: "val"}, {Kind: Part}, {Kind: End}}, {{Kind: Start, Text: "s"}, {Kind: Part}, {Kind: End, Text: "x"}},
		{{Kind: Start, Text: "s"}, {Kind: Part}, {Kind: Int, Text: "1"}, {Kind: Part}, {Kind: End}},
		{{Kind: Start, Text: "s"}, {Kind: Part}, {Kind: Part}, {Kind: End}},
		{{Kind: String, Text: long}}, {{Kind: Name, Text: long}}, {{Kind: Name, Text: "a"}, {Kind: Stop}},
		{{Kind: Name, Text: "a"}, {Kind: Newline}, {Kind: Name, Text: "b"}},
	} {
		if s, e := Show(list); s != "" || e != api.ErrForm {
			t.Errorf("Show(%s) = %q, %v", list[0].Text[:min(9, len(list[0].Text))], s, e)
		}
	}
}

// Only kinds and texts count, and the list stays as it is.
func TestShowArguments(t *testing.T) {
	list := []Token{{Name, "a", 9, 9, 9}, {Kind: Op, Text: "+", At: -1}, {Kind: Long, Text: "0"}, {Kind: String, Text: "\x00"}}
	before := slices.Clone(list)
	if s, e := Show(list); s != `a + 0L "\x00"` || e != api.OK {
		t.Errorf("Show = %q, %v", s, e)
	}
	if !slices.Equal(list, before) {
		t.Error("the argument has changed")
	}
	if s, e := Show(nil); s != "" || e != api.OK {
		t.Errorf("Show of nothing = %q, %v", s, e)
	}
	full := []Token{{Kind: String, Text: strings.Repeat("a", api.MaxText-2)}}
	if s, e := Show(full); len(s) != api.MaxText || e != api.OK {
		t.Errorf("Show of a long string: %d bytes, %v", len(s), e)
	}
}
