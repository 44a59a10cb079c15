package tokens

import (
	"slices"
	"strings"
	"testing"

	"newel/api"
)

// P1.1: the tokens of a text.

func TestRawKinds(t *testing.T) {
	for _, c := range []struct{ text, want string }{
		{"", ""},
		{" \t\n ", ""},
		{"val x = 1 // one", "Key:val Name:x Mark:= Int:1"},
		{"a _ _a __ a_1 A9 Zz", "Name:a Mark:_ Name:_a Name:__ Name:a_1 Name:A9 Name:Zz"},
		{"vals val_ value", "Name:vals Name:val_ Name:value"},
		{"( ) [ ] { } , . ; @ _ '{ } ${ }", "Mark:( Mark:) Mark:[ Mark:] Mark:{ Mark:} Mark:, Mark:. Mark:; Mark:@ Mark:_ Mark:'{ Mark:} Mark:${ Mark:}"},
		{"= => <- : <: >:", "Mark:= Mark:=> Mark:<- Mark:: Mark:<: Mark:>:"},
		{"+ - * / % < > == ! & | ^ ~ ? ::", "Op:+ Op:- Op:* Op:/ Op:% Op:< Op:> Op:== Op:! Op:& Op:| Op:^ Op:~ Op:? Op:::"},
		{"=>> <-- :: <:< >:> := =: -> <=>", "Op:=>> Op:<-- Op::: Op:<:< Op:>:> Op::= Op:=: Op:-> Op:<=>"},
		{"a+b.c,d", "Name:a Op:+ Name:b Mark:. Name:c Mark:, Name:d"},
		{"0 7 10 2147483647", "Int:0 Int:7 Int:10 Int:2147483647"},
		{"0L 12L 2147483648L 9223372036854775807L", "Long:0 Long:12 Long:2147483648 Long:9223372036854775807"},
		{"1.x 1+2 3\"s\"", "Int:1 Mark:. Name:x Int:1 Op:+ Int:2 Int:3 String:\"s\""},
	} {
		if got := brief(mustRaw(t, c.text)); got != c.want {
			t.Errorf("Raw(%q) =\n%s; want\n%s", c.text, got, c.want)
		}
	}
}

func TestRawLiterals(t *testing.T) {
	for _, c := range []struct{ text, want string }{
		{`'a' ' ' '~' '"' '$' '}'`, `Char:"a" Char:" " Char:"~" Char:"\"" Char:"$" Char:"}"`},
		{`'\n' '\t' '\\' '\'' '\"' '\$'`, `Char:"\n" Char:"\t" Char:"\\" Char:"'" Char:"\"" Char:"$"`},
		{`'\x00' '\x7f' '\xff' '\x7b'`, `Char:"\x00" Char:"\x7f" Char:"\xff" Char:"{"`},
		{`"" "a b" "'" "$a ${" "//" "/*"`, `String:"" String:"a b" String:"'" String:"$a ${" String:"//" String:"/*"`},
		{`"\n\t\\\'\"\$\x41\x0a"`, `String:"\n\t\\'\"$A\n"`},
		{`a"x"`, `Start:a Part:"x" End`},
		{`a "x"`, `Name:a String:"x"`},
		{`val"x"`, `Key:val String:"x"`},
		{`_"x"`, `Mark:_ String:"x"`},
		{`_a"x"`, `Start:_a Part:"x" End`},
		{`'{'a'}`, `Mark:'{ Char:"a" Mark:}`},
		{`x'{y}`, `Name:x Mark:'{ Name:y Mark:}`},
	} {
		if got := brief(mustRaw(t, c.text)); got != c.want {
			t.Errorf("Raw(%q) =\n%s; want\n%s", c.text, got, c.want)
		}
	}
}

func TestRawInterpolated(t *testing.T) {
	for _, c := range []struct{ text, want string }{
		{`s"a$b c${d}"`, `Start:s Part:"a" Name:b Part:" c" Mark:${ Name:d Mark:} Part:"" End`},
		{`s""`, `Start:s Part:"" End`},
		{`s"$a"`, `Start:s Part:"" Name:a Part:"" End`},
		{`s"$a$b"`, `Start:s Part:"" Name:a Part:"" Name:b Part:"" End`},
		{`s"$this.x $val1 $_1 $__"`, `Start:s Part:"" Key:this Part:".x " Name:val1 Part:" " Name:_1 Part:" " Name:__ Part:"" End`},
		{`s"\$a\"\'\\\n\x24{'}"`, `Start:s Part:"$a\"'\\\n${'}" End`},
		{`s"${ {a} }b"`, `Start:s Part:"" Mark:${ Mark:{ Name:a Mark:} Mark:} Part:"b" End`},
		{`s"${f"$a"}"`, `Start:s Part:"" Mark:${ Start:f Part:"" Name:a Part:"" End Mark:} Part:"" End`},
		{`s"${"}"}${'}'}"`, `Start:s Part:"" Mark:${ String:"}" Mark:} Part:"" Mark:${ Char:"}" Mark:} Part:"" End`},
		{"s\"${\na // b\n}c\" d", `Start:s Part:"" Mark:${ Name:a Mark:} Part:"c" End Name:d`},
		{`s"${'{ ${a} }}"`, `Start:s Part:"" Mark:${ Mark:'{ Mark:${ Name:a Mark:} Mark:} Mark:} Part:"" End`},
		{`s"// /* $a*/"`, `Start:s Part:"// /* " Name:a Part:"*/" End`},
		{`${s}"a"`, `Mark:${ Name:s Mark:} String:"a"`},
	} {
		if got := brief(mustRaw(t, c.text)); got != c.want {
			t.Errorf("Raw(%q) =\n%s; want\n%s", c.text, got, c.want)
		}
	}
}

func TestRawComments(t *testing.T) {
	for _, c := range []struct{ text, want string }{
		{"//", ""},
		{"a//b\nc", "Name:a Name:c"},
		{"a /* b */ c", "Name:a Name:c"},
		{"a/**/b", "Name:a Name:b"},
		{"a/* b /* c */ d */e", "Name:a Name:e"},
		{"a/*/*/**/*/*/e", "Name:a Name:e"},
		{"a/*/ b */ c", "Name:a Name:c"},
		{"a/* // */ c", "Name:a Name:c"},
		{"a // /* b\nc", "Name:a Name:c"},
		{"+//b", "Op:+"},
		{"+-/*b*/-", "Op:+- Op:-"},
		{"*//b", "Op:*"},
		{"=//b\n>", "Mark:= Op:>"},
		{"*/ /", "Op:*/ Op:/"},
		{"=/*a*/>", "Mark:= Op:>"},
		{"/+/*a*//+", "Op:/+ Op:/+"},
		{"1/**/L", "Int:1 Name:L"},
		{"s/**/\"a\"", "Name:s String:\"a\""},
	} {
		if got := brief(mustRaw(t, c.text)); got != c.want {
			t.Errorf("Raw(%q) =\n%s; want\n%s", c.text, got, c.want)
		}
	}
}

func TestRawPlaces(t *testing.T) {
	for _, c := range []struct {
		text string
		want []Token
	}{
		{"ab\n\n\tc /*\n*/d 'e'", []Token{
			{Name, "ab", 0, 0, 0}, {Name, "c", 5, 2, 1}, {Name, "d", 12, 3, 2}, {Char, "e", 14, 3, 4},
		}},
		{"\n  s\"a\\n$b c${\n 12L}\" x", []Token{
			{Start, "s", 3, 1, 2}, {Part, "a\n", 5, 1, 4}, {Name, "b", 9, 1, 8}, {Part, " c", 10, 1, 9},
			{Mark, "${", 12, 1, 11}, {Long, "12", 16, 2, 1}, {Mark, "}", 19, 2, 4}, {Part, "", 20, 2, 5},
			{End, "", 20, 2, 5}, {Name, "x", 22, 2, 7},
		}},
		{"s\"$a\"", []Token{
			{Start, "s", 0, 0, 0}, {Part, "", 2, 0, 2}, {Name, "a", 3, 0, 3}, {Part, "", 4, 0, 4}, {End, "", 4, 0, 4},
		}},
		{"s\"${}\"", []Token{
			{Start, "s", 0, 0, 0}, {Part, "", 2, 0, 2}, {Mark, "${", 2, 0, 2}, {Mark, "}", 4, 0, 4}, {Part, "", 5, 0, 5}, {End, "", 5, 0, 5},
		}},
	} {
		if got := mustRaw(t, c.text); !slices.Equal(got, c.want) {
			t.Errorf("Raw(%q) =\n%v; want\n%v", c.text, got, c.want)
		}
	}
}

func TestRawFaults(t *testing.T) {
	for _, c := range []struct {
		text string
		at   int
		code api.Errno
	}{
		// Bytes that no text has, ahead of all tokens.
		{"a\rb", 1, api.ErrSyntax}, {"a\x7f", 1, api.ErrSyntax}, {"\x00", 0, api.ErrSyntax}, {"\x1f", 0, api.ErrSyntax},
		{"01 \"\x80\" \xff", 4, api.ErrSyntax}, {"// \r", 3, api.ErrSyntax}, {") 99999999999 \v", 14, api.ErrSyntax},
		// Bytes with which no token begins.
		{"a # b", 2, api.ErrSyntax}, {"a\\", 1, api.ErrSyntax}, {"`", 0, api.ErrSyntax}, {"a $b", 2, api.ErrSyntax}, {"$", 0, api.ErrSyntax}, {"$ {", 0, api.ErrSyntax},
		// Literals and comments that are not closed.
		{"a \"b", 2, api.ErrSyntax}, {"a \"b\n\"", 2, api.ErrSyntax}, {"\"a\tb\"", 0, api.ErrSyntax}, {"\"", 0, api.ErrSyntax}, {"a \"b\\", 2, api.ErrSyntax}, {"\"b\\\"", 0, api.ErrSyntax},
		{"a 'b", 2, api.ErrSyntax}, {"'", 0, api.ErrSyntax}, {"'b\n'", 0, api.ErrSyntax}, {"'\t'", 0, api.ErrSyntax}, {"'\\'", 0, api.ErrSyntax},
		{" /* a", 1, api.ErrSyntax}, {"/*/", 0, api.ErrSyntax}, {"/* a /* b */", 0, api.ErrSyntax}, {"a /* b /* c */\n", 2, api.ErrSyntax}, {"+/*", 1, api.ErrSyntax},
		// Escapes that are none.
		{` "\q"`, 1, api.ErrSyntax}, {` "a\x4"`, 1, api.ErrSyntax}, {`"\x4G"`, 0, api.ErrSyntax}, {`"\xAB"`, 0, api.ErrSyntax}, {`"\x"`, 0, api.ErrSyntax}, {`'\0'`, 0, api.ErrSyntax}, {`'\{'`, 0, api.ErrSyntax}, {`s"a\ "`, 2, api.ErrSyntax}, {`s"$a\r"`, 4, api.ErrSyntax},
		{"\"a\\\nb\"", 0, api.ErrSyntax},
		// Chars of no or several characters.
		{"a ''", 2, api.ErrSyntax}, {"'ab'", 0, api.ErrSyntax}, {`'\\n'`, 0, api.ErrSyntax}, {`'\x41a'`, 0, api.ErrSyntax}, {"'''", 0, api.ErrSyntax},
		// Numbers.
		{"a 01", 2, api.ErrSyntax}, {"00", 0, api.ErrSyntax}, {"00L", 0, api.ErrSyntax}, {"1x", 0, api.ErrSyntax}, {"1_", 0, api.ErrSyntax}, {"1l", 0, api.ErrSyntax}, {"1L1", 0, api.ErrSyntax}, {"1LL", 0, api.ErrSyntax}, {"1L_", 0, api.ErrSyntax},
		{"a 2147483648", 2, api.ErrRange}, {"10000000000", 0, api.ErrRange}, {"9223372036854775808L", 0, api.ErrRange}, {"10000000000000000000L", 0, api.ErrRange},
		{"2147483648x", 0, api.ErrSyntax}, {"02147483648", 0, api.ErrSyntax}, {"9223372036854775808La", 0, api.ErrSyntax},
		// A `$` that begins no expression.
		{`s"a$"`, 3, api.ErrSyntax}, {`s"a$1"`, 3, api.ErrSyntax}, {`s"a$$b"`, 3, api.ErrSyntax}, {`s"$_"`, 2, api.ErrSyntax}, {`s"$_ a"`, 2, api.ErrSyntax}, {`s"$ a"`, 2, api.ErrSyntax}, {`s"a$`, 3, api.ErrSyntax}, {`s"${a}$"`, 6, api.ErrSyntax}, {`s"a$+`, 3, api.ErrSyntax},
		// Brackets that do not match.
		{"a )", 2, api.ErrSyntax}, {"]", 0, api.ErrSyntax}, {"}", 0, api.ErrSyntax}, {"(]", 1, api.ErrSyntax}, {"[)", 1, api.ErrSyntax}, {"({)", 2, api.ErrSyntax}, {"'{)", 2, api.ErrSyntax}, {"${]", 2, api.ErrSyntax}, {"(}", 1, api.ErrSyntax}, {"s\"${(}\"", 5, api.ErrSyntax}, {"s\"${)", 4, api.ErrSyntax},
		// Brackets that are open at the end.
		{"a (", 2, api.ErrSyntax}, {"( [ ]", 0, api.ErrSyntax}, {"( [ {", 4, api.ErrSyntax}, {"'{ a", 0, api.ErrSyntax}, {"a ${", 2, api.ErrSyntax}, {"s\"a${b", 3, api.ErrSyntax}, {"s\"a${b(", 6, api.ErrSyntax}, {"( s\"a${b}\"", 0, api.ErrSyntax},
		// The first one from left to right.
		{"1x )", 0, api.ErrSyntax}, {") 1x", 0, api.ErrSyntax}, {"( 'ab'", 2, api.ErrSyntax}, {"9999999999 01", 0, api.ErrRange}, {"01 9999999999", 0, api.ErrSyntax}, {"s\"a\\q$1\"", 2, api.ErrSyntax}, {"s\"${\"", 4, api.ErrSyntax},
	} {
		l, f := Raw(c.text)
		expectFault(t, "Raw of "+c.text, l, f, api.Fault{At: c.at, Code: c.code})
		l, f = Scan(c.text)
		expectFault(t, "Scan of "+c.text, l, f, api.Fault{At: c.at, Code: c.code})
	}
}

// The place of the fault of an interpolated string that is not closed is its Start.
func TestRawUnclosedStrings(t *testing.T) {
	for _, c := range []struct {
		text string
		at   int
	}{
		{`s"`, 0}, {`s"ab`, 0}, {"x s\"ab\n\"", 2}, {`s"a$b c`, 0}, {`s"a$b`, 0}, {`x s"a$b`, 2}, {"s\"\t\"", 0}, {"( s\"a", 2}, {"\n  name\"a\n", 3},
		{"s\"a${b}c\t\"", 0}, {`s"a${b}`, 0}, {`s"a${b}${c}$d`, 0}, {"s\"a${\nb\n}c\nd\"", 0},
		// The end comes within an escape.
		{`s"a\"`, 0}, {`s"a\`, 0}, {`s"$a\`, 0}, {"s\"a\\\nb\"", 0}, {"s\"a\\\tb\"", 0}, {`s"a\x`, 0}, {`s"a\x4`, 0}, {"s\"a\\x4\n\"", 0},
		// Of several strings, the one at hand.
		{"s\"${f\"\n\"}\"", 4}, {`s"${f"a`, 4}, {`s"${f"a${b}c`, 4}, {`s"${f"a"}b`, 0}, {`x s"${f"a"}${g"b"} `, 2}, {`s"${f"a"}${g"b`, 11}, {`s"" s"`, 4}, {`s"${"a"}b`, 0}, {"s\"a\"\nf\"", 5},
		// Other literals in an interpolated string, and what begins none.
		{`s"${"}`, 4}, {`s"${'}"`, 4}, {`s "a`, 2}, {`_"a`, 1}, {`val"a`, 3}, {`s"${s}" "a`, 8},
		// With an open `${`, the innermost open bracket.
		{`s"${`, 2}, {`s"${"}"`, 2}, {`s"${f"a"`, 2}, {`s"${f"${a}"`, 2}, {`s"${f"${a`, 6}, {`s"${(f"a")`, 2}, {`s"${ [ f"a"`, 5}, {`s"a" ${`, 5},
		// A fault that is met before the string ends.
		{`s"a\q`, 2}, {`s"a\xg`, 2}, {`s"a\x4g`, 2}, {`s"$a\0`, 4}, {`s"a$`, 3}, {`s"a$1`, 3}, {`s"${1x`, 4},
	} {
		want := api.Fault{At: c.at, Code: api.ErrSyntax}
		l, f := Raw(c.text)
		expectFault(t, "Raw of "+c.text, l, f, want)
		l, f = Scan(c.text)
		expectFault(t, "Scan of "+c.text, l, f, want)
	}
}

func TestRawLimits(t *testing.T) {
	name, op := strings.Repeat("n", api.MaxName), strings.Repeat("+", api.MaxName)
	deep := strings.Repeat("(", api.MaxNest)
	close := strings.Repeat(")", api.MaxNest)
	for _, text := range []string{
		strings.Repeat(" ", api.MaxText),
		"\"" + strings.Repeat("a", api.MaxText-2) + "\"",
		name, op, name + "\"\"", "s\"$" + name + "\"",
		deep + close, "()" + deep + close, deep + close + "()",
		strings.Repeat("s\"${", api.MaxNest) + strings.Repeat("}\"", api.MaxNest),
		strings.Repeat("/*", 1000) + strings.Repeat("*/", 1000),
		strings.Repeat("s\"$a\"", 10000), "s\"" + strings.Repeat("$a", 30000) + "\"",
	} {
		mustRaw(t, text)
	}
	for _, c := range []struct {
		text string
		at   int
		code api.Errno
	}{
		{strings.Repeat(" ", api.MaxText+1), 0, api.ErrLimit},
		{strings.Repeat("\r", api.MaxText+1), 0, api.ErrLimit},
		{"a " + name + "n", 2, api.ErrLimit},
		{"a " + op + "+", 2, api.ErrLimit},
		{"a " + name + "n\"\"", 2, api.ErrLimit},
		{"a s\"b$" + name + "n\"", 6, api.ErrLimit},
		{strings.Repeat("_", api.MaxName+1), 0, api.ErrLimit},
		{deep + "( )" + close, api.MaxNest, api.ErrDepth},
		{deep + "[ ]" + close, api.MaxNest, api.ErrDepth},
		{deep + "'{", api.MaxNest, api.ErrDepth},
		{deep + " s\"${a}\"" + close, api.MaxNest + 3, api.ErrDepth},
		{strings.Repeat("s\"${", api.MaxNest) + "{", 4 * api.MaxNest, api.ErrDepth},
	} {
		l, f := Raw(c.text)
		expectFault(t, "Raw of "+c.text[:2]+"..", l, f, api.Fault{At: c.at, Code: c.code})
	}
}

// Scan returns Layout of Raw, with the fault of either.
func TestScan(t *testing.T) {
	for _, text := range []string{"", "a", "def f =\n  a\n  b\ng", "a {\n b\n}", "s\"${\n a\n}\"", "// a"} {
		want, f := Layout(mustRaw(t, text))
		if f != (api.Fault{}) {
			t.Fatalf("Layout of %q: %v", text, f)
		}
		if got := mustScan(t, text); !slices.Equal(got, want) {
			t.Errorf("Scan(%q) = %v; want %v", text, got, want)
		}
	}
	l, f := Scan("a =\n  b\n c 1x")
	expectFault(t, "Scan", l, f, api.Fault{At: 11, Code: api.ErrSyntax})
	l, f = Scan("a =\n  b\n c")
	expectFault(t, "Scan", l, f, api.Fault{At: 9, Code: api.ErrOrder})
	l, f = Scan(strings.Repeat("a ", maxList+1))
	expectFault(t, "Scan", l, f, api.Fault{Code: api.ErrLimit})
}
