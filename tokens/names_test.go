package tokens

import (
	"strings"
	"testing"
)

// P1.4: keywords and operators.

func TestKeyword(t *testing.T) {
	words := strings.Fields("abstract case catch class def do else enum extends extension false final finally for given if import inline lazy match new null object override private return sealed super then this throw trait true try type using val var volatile while with yield")
	if len(words) != 42 {
		t.Fatalf("%d words", len(words))
	}
	for _, w := range words {
		l := mustRaw(t, w)
		if !Keyword(w) || len(l) != 1 || l[0].Kind != Key {
			t.Errorf("%s is a keyword", w)
		}
		for _, s := range []string{w + "x", w + "_", strings.ToUpper(w), w[1:], " " + w, w + " "} {
			if Keyword(s) && s != "as" {
				t.Errorf("%q is no keyword", s)
			}
		}
	}
	for _, w := range []string{"", "_", "a", "Val", "implicit", "protected", "public", "package", "as", "derives", "end", "="} {
		if Keyword(w) {
			t.Errorf("%q is no keyword", w)
		}
	}
}

func TestPrecedence(t *testing.T) {
	for _, c := range []struct {
		want int
		ops  string
	}{
		{0, "+= -= *= /= |= &= := ~= ?= <<= ++= !== <== >== a="},
		{1, "a z A Z _ max _1 a+"},
		{2, "| || |a"},
		{3, "^ ^^"},
		{4, "& && &|"},
		{5, "= == != ! === =+ => =>="},
		{6, "< > <= >= << >> <- <: >:"},
		{7, ": :: :::"},
		{8, "+ - ++ -> +:"},
		{9, "* / % ** */ *:"},
		{10, "~ ? ~> ?:"},
		{-1, "1 ( ) [ ] { } , . ; @ $ ' \" # ` \\ \x00 \x7f \x80 \xff"},
	} {
		for _, op := range strings.Fields(c.ops) {
			if got := Precedence(op); got != c.want {
				t.Errorf("Precedence(%q) = %d; want %d", op, got, c.want)
			}
		}
	}
	if Precedence("") != -1 || Precedence(" +") != -1 || Precedence("\n") != -1 {
		t.Error("a text that begins with no operator has a precedence")
	}
	for b := range 256 {
		letter := b == '_' || 'a' <= b && b <= 'z' || 'A' <= b && b <= 'Z'
		if got := Precedence(string([]byte{byte(b)})); (got == 1) != letter {
			t.Errorf("Precedence of the byte %d = %d", b, got)
		}
	}
}

func TestRight(t *testing.T) {
	for _, op := range []string{":", "::", "+:", "<:", "a:"} {
		if !Right(op) {
			t.Errorf("Right(%q) is false", op)
		}
	}
	for _, op := range []string{"", "+", ":+", ":=", "a", ": "} {
		if Right(op) {
			t.Errorf("Right(%q) is true", op)
		}
	}
}

func TestAssigns(t *testing.T) {
	for _, op := range []string{"+=", "-=", "*=", ":=", "|=", "!==", "<==", ">==", "<<=", "+=="} {
		if !Assigns(op) {
			t.Errorf("Assigns(%q) is false", op)
		}
	}
	for _, op := range []string{"", "=", "==", "===", "=+=", "<=", ">=", "!=", "+", "=>", "+=>", "<"} {
		if Assigns(op) {
			t.Errorf("Assigns(%q) is true", op)
		}
	}
}
