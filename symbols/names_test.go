package symbols

import (
	"strings"
	"testing"

	"newel/api"
)

// P6.1, P6.3: names and full names.

const (
	operators = "+-*/%<>=!&|^~:?"
	letters   = "abcdefghijklmnopqrstuvwxyzABCDEFGHIJKLMNOPQRSTUVWXYZ_$"
	digits    = "0123456789"
)

func TestIsName(t *testing.T) {
	for _, s := range []string{
		"a", "Z", "x1", "_", "$", "__", "_1", "$1", "a$b_c", "x$init", "f$default$1", "this", "val", "object", "n" + strings.Repeat("0", api.MaxName-1), strings.Repeat("a", api.MaxName),
		"+", "::", "==", "=", "=>", ":", "<:", "*/", "//", "?", operators, strings.Repeat("+", api.MaxName),
	} {
		if !IsName(s) {
			t.Errorf("IsName(%q) = false", s)
		}
	}
	for _, s := range []string{
		"", "1", "1a", "0x", "a b", " a", "a ", "a.b", ".", "a-b", "a+", "+a", "+1", "1+", "_+", "+_", "$+", "+$", "a_=", "#", "@", "a#", "`a`", "(", "\\", "'", "\"", ",", ";", "+ +", "é", "aé", "世", "\xff", "a\xff", "a\x00", "\n", "a\n",
		strings.Repeat("a", api.MaxName+1), strings.Repeat("+", api.MaxName+1), strings.Repeat("a", 1<<20),
	} {
		if IsName(s) {
			t.Errorf("IsName(%.70q) = true", s)
		}
	}
}

func TestIsNameOfAllBytes(t *testing.T) {
	for i := range 256 {
		b := string([]byte{byte(i)})
		isLetter, isDigit, isOperator := strings.Contains(letters, b), strings.Contains(digits, b), strings.Contains(operators, b)
		for _, c := range []struct {
			s    string
			want bool
		}{
			{b, isLetter || isOperator}, {b + b, isLetter || isOperator}, {"a" + b, isLetter || isDigit}, {b + "a", isLetter}, {"_" + b + "1", isLetter || isDigit},
			{b + "1", isLetter}, {"1" + b, false}, {"+" + b, isOperator}, {b + "+", isOperator}, {"<" + b + ">", isOperator}, {"a" + b + "+", false},
		} {
			if IsName(c.s) != c.want {
				t.Errorf("IsName(%q) = %v", c.s, !c.want)
			}
		}
	}
}

func TestFullName(t *testing.T) {
	p := sample()
	p.Classes = append(p.Classes, api.Class{Name: "::", Kind: api.IsTrait, Owner: companion}, api.Class{Name: "Deep", Kind: api.IsObject, Owner: inner}, api.Class{Name: "Lost", Owner: 99}, api.Class{Name: "Lost", Kind: api.IsObject, Owner: -2}, api.Class{Name: "", Kind: 7, Owner: 9})
	for class, want := range []string{"Top", "Trait", "Base", "Main#", "Main#.Inner", "Main#.Value", "Main#.Inner#", "Main#.Inner#.::", "Main#.Inner.Deep#", "Lost", "Lost#", "Lost."} {
		if s, e := FullName(p, class); s != want || e != api.OK {
			t.Errorf("FullName(%d) = %q, %v; want %q", class, s, e, want)
		}
	}
	for _, class := range []int{-1, len(p.Classes), -1 << 63, 1<<63 - 1} {
		if s, e := FullName(p, class); s != "" || e != api.ErrRange {
			t.Errorf("FullName(%d) = %q, %v", class, s, e)
		}
	}
}

func TestFullNameOfCycles(t *testing.T) {
	// 0 is inside of itself, 1 and 2 of one another; 3 is inside of 1, 4 of 3; 5 is outside of everything, 6 inside of 5.
	p := owners(0, 2, 1, 1, 3, -1, 5)
	for class := range p.Classes {
		want, code := "", api.ErrCycle
		if class >= 5 {
			want, code = []string{"C5", "C5.C6"}[class-5], api.OK
		}
		if s, e := FullName(p, class); s != want || e != code {
			t.Errorf("FullName(%d) = %q, %v; want %q", class, s, e, want)
		}
	}
	if s, e := FullName(owners(), 0); s != "" || e != api.ErrRange {
		t.Errorf("FullName without classes = %q, %v", s, e)
	}
}

// A class may have any number of classes around it, though no right program has so many.
func TestFullNameOfLongChains(t *testing.T) {
	const size = 20000
	p := api.Program{}
	for i := range size {
		p.Classes = append(p.Classes, api.Class{Name: "C", Owner: i + 1})
	}
	if s, e := FullName(p, 0); s != "C"+strings.Repeat(".C", size-1) || e != api.OK {
		t.Errorf("FullName = %d bytes, %v", len(s), e)
	}
	p.Classes[size-1].Owner = size / 2
	if s, e := FullName(p, 0); s != "" || e != api.ErrCycle {
		t.Errorf("FullName = %d bytes, %v", len(s), e)
	}
}
