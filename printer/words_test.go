package printer

import (
	"slices"
	"strings"
	"testing"

	"newel/api"
)

func TestWords(t *testing.T) {
	for _, c := range []struct {
		text  string
		words []string
	}{
		{"", nil},
		{" // a\n/* b */", nil},
		{"val x=1 // one\n\n  y", []string{"val", "x", "=", "1", "y"}},
		{"a.b(c)[D]{e}", []string{"a", ".", "b", "(", "c", ")", "[", "D", "]", "{", "e", "}"}},
		{"'{a}${b}", []string{"'{", "a", "}", "${", "b", "}"}},
		{"x=>y<-z>:A<:B:C@_;,+ +=::*", []string{"x", "=>", "y", "<-", "z", ">:", "A", "<:", "B", ":", "C", "@", "_", ";", ",", "+", "+=::*"}},
		{"7L 12", []string{"7L", "12"}},
		{`'a''\x0a''\x7b''"''\''`, []string{"'a'", `'\n'`, `'\x7b'`, `'"'`, `'\''`}},
		{`"a\'\"\x41\x09\$""b"`, []string{`"a'\"A\t$"`, `"b"`}},
		{`if"a"`, []string{"if", `"a"`}},
		{`a s"b" c`, []string{"a", `s"b"`, "c"}},
		{`s"a$b c${d+e}"+s"${s"${f}"}"g`, []string{`s"a$b c${ d + e }"`, "+", `s"${ s"${ f }" }"`, "g"}},
		{`s"$a\x62$this"`, []string{`s"$a\x62$this"`}},
		{`s"${ // c` + "\n" + `a}\$\'"`, []string{`s"${ a }\$'"`}},
		{`s"" s""`, []string{`s""`, `s""`}},
	} {
		got, f := Words(c.text)
		if f.Code != api.OK || !slices.Equal(got, c.words) {
			t.Errorf("Words(%s) = %q, %v, want %q", c.text, got, f, c.words)
		}
	}
}

func TestWordsFaults(t *testing.T) {
	// Each of its parts takes more bytes in the form of a word.
	long := `s"${a` + strings.Repeat("+a", api.MaxText*2/5) + `}"`
	fits := `s"${a` + strings.Repeat("+a", (api.MaxText-9)/4) + `}"`
	for _, c := range []struct {
		text string
		want api.Fault
	}{
		{"a `", api.Fault{At: 2, Code: api.ErrSyntax}},
		{"a (", api.Fault{At: 2, Code: api.ErrSyntax}},
		{`a "b`, api.Fault{At: 2, Code: api.ErrSyntax}},
		{`a s"b`, api.Fault{At: 2, Code: api.ErrSyntax}},
		{"a 2147483648", api.Fault{At: 2, Code: api.ErrRange}},
		{strings.Repeat("(", 65) + strings.Repeat(")", 65), api.Fault{At: 64, Code: api.ErrDepth}},
		{strings.Repeat("a", 65), api.Fault{Code: api.ErrLimit}},
		{strings.Repeat(" ", api.MaxText+1), api.Fault{Code: api.ErrLimit}},
		{long, api.Fault{Code: api.ErrForm}},
		{"a " + long, api.Fault{Code: api.ErrForm}},
	} {
		if got, f := Words(c.text); f != c.want || got != nil {
			t.Errorf("Words(%.20q) = %.20q, %v, want %v", c.text, got, f, c.want)
		}
	}
	if got, f := Words(fits); f.Code != api.OK || len(got) != 1 || len(got[0]) > api.MaxText || len(got[0]) < api.MaxText-8 {
		t.Errorf("a word that fits: %d words, %v", len(got), f)
	}
	if got, f := Words(strings.Repeat("a ", api.MaxText/2)); f.Code != api.OK || len(got) != api.MaxText/2 {
		t.Errorf("many words: %d, %v", len(got), f)
	}
}
