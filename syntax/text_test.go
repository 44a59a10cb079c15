package syntax

import (
	"math/rand"
	"strconv"
	"strings"
	"testing"

	"newel/api"
)

// P2.2: text forms.

func TestText(t *testing.T) {
	x := Node{Kind: XName, Text: "x", At: 4}
	for _, c := range []struct {
		n    Node
		want string
	}{
		{Node{}, "(SNone)"},
		{Node{At: 7}, "(SNone)"},
		{Node{Kind: XInfix, Text: "+", Kids: []Node{{Kind: XInt, Num: 1}, x}, At: 2}, `(XInfix "+" (XInt 1) (XName "x"))`},
		{Node{Kind: SVal, Text: "a", Num: 2, Kids: []Node{{Kind: SMods, Num: 4}, {}, {Kind: XInt}}}, `(SVal "a" 2 (SMods 4) (SNone) (XInt))`},
		{Node{Kind: STParam, Text: "T", Num: -1, Kids: make([]Node, 2)}, `(STParam "T" -1 (SNone) (SNone))`},
		{Node{Kind: XLong, Num: 1<<63 - 1}, "(XLong 9223372036854775807)"},
		{Node{Kind: XChar, Num: 10}, "(XChar 10)"},
		{Node{Kind: XBlock, Kids: []Node{}}, "(XBlock)"},
		{Node{Kind: XString}, "(XString)"},
		{Node{Kind: XString, Text: " a'$#(~"}, `(XString " a'$#(~")`},
		{Node{Kind: XString, Text: "\\\"\n\t"}, `(XString "\\\"\n\t")`},
		{Node{Kind: XString, Text: "\x00\x01\x08\x0b\x0c\x0d\x1f\x20\x7e\x7f\x80\xab\xff"}, `(XString "\x00\x01\x08\x0b\x0c\x0d\x1f ~\x7f\x80\xab\xff")`},
		{Node{Kind: PAlt, Kids: []Node{{Kind: PWild}, {Kind: PStable, Text: "a.B"}}}, `(PAlt (PWild) (PStable "a.B"))`},
	} {
		if s, e := Text(c.n); s != c.want || e != api.OK {
			t.Errorf("Text = %s, %v; want %s", s, e, c.want)
		}
	}
}

func TestTextOfAllBytes(t *testing.T) {
	for i := range 256 {
		b := string([]byte{byte(i)})
		want := b
		switch {
		case b == "\n":
			want = `\n`
		case b == "\t":
			want = `\t`
		case b == `"` || b == `\`:
			want = `\` + b
		case i < 32 || i > 126:
			want = `\x` + string("0123456789abcdef"[i/16]) + string("0123456789abcdef"[i%16])
		}
		want = `(XString "a` + want + `b")`
		if s, e := Text(Node{Kind: XString, Text: "a" + b + "b"}); s != want || e != api.OK {
			t.Errorf("Text with the byte %d = %s, %v; want %s", i, s, e, want)
		}
		if n, f := Read(want); f != (api.Fault{}) || n.Text != "a"+b+"b" {
			t.Errorf("Read(%s) = %q, %v", want, n.Text, f)
		}
	}
}

// sized returns a right tree whose text form has that many bytes, if they are enough for it.
func sized(bytes int) Node {
	n := Node{Kind: XBlock}
	left := bytes - len("(XBlock)")
	for piece := len(` (XString "")`); left > 0; {
		size := min(left-piece, api.MaxText)
		if left-piece-size > 0 && left-piece-size <= piece { // what is left must be enough for one more
			size -= piece
		}
		n.Kids = append(n.Kids, Node{Kind: XString, Text: strings.Repeat("a", size)})
		left -= piece + size
	}
	return n
}

func TestLongestTextForm(t *testing.T) {
	for size, want := range map[int]api.Errno{1000: api.OK, maxForm - 1: api.OK, maxForm: api.OK, maxForm + 1: api.ErrLimit, maxForm + 100: api.ErrLimit} {
		n := sized(size)
		if len(written(sized(min(size, maxForm)))) != min(size, maxForm) {
			t.Fatalf("there is no tree of %d bytes", size)
		}
		s, e := Text(n)
		if e != want || e == api.OK && len(s) != size || e != api.OK && s != "" {
			t.Errorf("Text of %d bytes has %d, %v; want %v", size, len(s), e, want)
		}
	}
	n := sized(maxForm)
	n.Kids[0].Text = strings.Repeat("\"", len(n.Kids[0].Text))
	if s, e := Text(n); s != "" || e != api.ErrLimit {
		t.Errorf("Text with escapes that make it too long has %d bytes, %v", len(s), e)
	}
	huge, long := wide(api.MaxNodes), strings.Repeat("\x00", api.MaxText)
	for i := range huge.Kids {
		for k := range huge.Kids[i].Kids {
			huge.Kids[i].Kids[k] = Node{Kind: XString, Text: long}
		}
	}
	if s, e := Text(huge); s != "" || e != api.ErrLimit {
		t.Errorf("Text of a huge tree has %d bytes, %v", len(s), e)
	}
	huge.Kids[0].Num = 1
	if s, e := Text(huge); s != "" || e != api.ErrInvalid {
		t.Errorf("Text of a huge tree that is not right has %d bytes, %v", len(s), e)
	}
}

func TestReadOfLongTexts(t *testing.T) {
	text := written(sized(maxForm))
	n, f := Read(text)
	if s, e := Text(n); f != (api.Fault{}) || e != api.OK || s != text {
		t.Errorf("Read of the longest text form: %v, and Text of it: %v", f, e)
	}
	expectRead(t, text+")", api.Fault{Code: api.ErrLimit})
	expectRead(t, strings.Repeat("?", maxForm+1), api.Fault{Code: api.ErrLimit})
	expectRead(t, strings.Repeat("?", maxForm), api.Fault{Code: api.ErrSyntax})
	expectRead(t, text[:maxForm-1]+"(", api.Fault{At: maxForm - 1, Code: api.ErrSyntax})
	expectRead(t, text[:maxForm-1], api.Fault{At: maxForm - 1, Code: api.ErrSyntax})
	expectRead(t, strings.Repeat("(SBody ", maxForm/7), api.Fault{At: maxForm / 7 * 7, Code: api.ErrSyntax})
	many := "(XBlock" + strings.Repeat(" (XBlock"+strings.Repeat(" (XThis)", 199)+")", 101) + ")"
	expectRead(t, many, api.Fault{Code: api.ErrLimit})
	expectRead(t, many[:len(many)-1]+strings.Repeat(" (SBody)", 300)+")", api.Fault{Code: api.ErrLimit})
	expectRead(t, "(XBlock"+strings.Repeat(" (XBlock "+strings.Repeat("\\", 7)+")", 1), api.Fault{At: 16, Code: api.ErrSyntax})
}

// Each node has the offset of its parenthesis.
func TestReadOffsets(t *testing.T) {
	text := `(XInfix "(" (XString "(\"(") (XInfix "+" (XInt 1) (XName "x")))`
	expectRead(t, text, api.Fault{Code: api.ErrName})
	text = strings.Replace(text, `"("`, `"+"`, 1)
	n, f := Read(text)
	if f != (api.Fault{}) {
		t.Fatalf("Read(%s): %v", text, f)
	}
	var got []int
	for m := range nodes(n) {
		got = append(got, m.At)
	}
	for i, want := range []int{0, 12, 29, 41, 50} {
		if len(got) != 5 || got[i] != want {
			t.Fatalf("the offsets of %s are %v", text, got)
		}
	}
}

func TestReadFaults(t *testing.T) {
	for _, c := range []struct {
		text string
		at   int
	}{
		{"", 0}, {" ", 0}, {"x", 0}, {")", 0}, {" (SNone)", 0}, {"\n(SNone)", 0},
		{"(", 1}, {"()", 1}, {"( SNone)", 1}, {"(\"", 1}, {"((SNone))", 1}, {"(1)", 1}, {"(\x00", 1},
		{"(S", 2}, {"(SNon", 5}, {"(SNone", 6}, {"(XIn", 4}, {"(XInte", 6}, {"(P", 2},
		{"(SNon)", 1}, {"(SNonf", 1}, {"(snone)", 1}, {"(Foo)", 1}, {"(Foo", 1}, {"(SNonee)", 1}, {"(XIn 1)", 1}, {"(Kinds)", 1}, {"(S)", 1}, {"(Q", 1}, {"(SNone (Foo))", 8},
		{"(SNone\n)", 6}, {"(SNone1)", 6}, {"(SNone_)", 6}, {"(XName\"a\")", 6}, {"(XInt1)", 5}, {"(SUnit(SNone))", 6}, {"(SNone\x00", 6},
		{"(SNone ", 7}, {"(SNone )", 7}, {"(SNone  ", 7}, {"(SNone  (SNone))", 7}, {"(SNone\t)", 6}, {"(XInt +1)", 6}, {"(XInt x)", 6}, {"(XInt\t1)", 5},
		{"(SNone) ", 7}, {"(SNone))", 7}, {"(SNone)\n", 7}, {"(SNone)(SNone)", 7}, {"(SNone)x", 7},
		{`(XName "`, 8}, {`(XName "a`, 9}, {`(XName "a"`, 10}, {`(XName "a" `, 11}, {`(XName "a")`, -1},
		{`(XName "a""b")`, 10}, {`(XName "a"1)`, 10}, {`(XName "a" "b")`, 11}, {`(XName "a"  1)`, 11}, {`(XName 1 "a")`, 9}, {`(XThrow (XUnit) "a")`, 16}, {`(XThrow (XUnit) 1)`, 16}, {`(XName "a" 1 2)`, 13},
		{`(XName "")`, 7}, {`(XName "" `, 7}, {`(XName ""`, 7}, {`(SNone (XName ""))`, 14},
		{`(XString "\`, 11}, {`(XString "\x`, 12}, {`(XString "\x0`, 13}, {`(XString "\x1`, 13}, {`(XString "\x7`, 13}, {`(XString "\xf`, 13}, {`(XString "\x0f`, 14}, {`(XString "a\`, 12},
		{`(XString "\x4`, 9}, {`(XString "\x2`, 9}, {`(XString "\x6`, 9}, {`(XString "\x4`, 9},
		{`(XString "\a")`, 9}, {`(XString "\'")`, 9}, {`(XString "\$")`, 9}, {`(XString "\N")`, 9}, {`(XString "\ ")`, 9}, {`(XString "ab\q`, 9}, {`(XString "\r")`, 9}, {`(XString "\X00")`, 9},
		{`(XString "\xg0")`, 9}, {`(XString "\x0g")`, 9}, {`(XString "\x0")`, 9}, {`(XString "\x")`, 9}, {`(XString "\xFF")`, 9}, {`(XString "\xfF")`, 9}, {`(XString "\x41")`, 9}, {`(XString "\x20")`, 9}, {`(XString "\x7e")`, 9}, {`(XString "\x0a")`, 9}, {`(XString "\x09")`, 9}, {`(XString "\x5c")`, 9}, {`(XString "\x22")`, 9},
		{"(XString \"a\nb\")", 9}, {"(XString \"\t\")", 9}, {"(XString \"\x00\")", 9}, {"(XString \"\x7f\")", 9}, {"(XString \"\x80\")", 9}, {"(XString \"é\")", 9}, {"(XString \"ab\xff", 9}, {"(XString \"\\\n", 9},
		{"(XInt 0)", 6}, {"(XInt 0", 6}, {"(XInt 00)", 6}, {"(XInt 01)", 6}, {"(XInt -0)", 6}, {"(XInt -0", 6}, {"(XInt -01)", 6}, {"(XInt 0x)", 6},
		{"(XInt 9223372036854775808)", 6}, {"(XInt -9223372036854775809)", 6}, {"(XInt 99999999999999999999999999)", 6}, {"(XInt 99999999999999999999999999", 6},
		{"(XInt -)", 7}, {"(XInt -", 7}, {"(XInt --1)", 7}, {"(XInt -x)", 7}, {"(XInt - 1)", 7}, {"(XInt -(SNone))", 7},
		{"(XInt 1", 7}, {"(XInt 1x)", 7}, {"(XInt 1(SNone))", 7}, {"(XInt 1 )", 8}, {"(XInt 1 2)", 8}, {"(XInt 1_0)", 7}, {"(XInt 1.0)", 7}, {"(XInt 1 -2)", 8}, {"(XInt 1-2)", 7},
		{"(XThrow (XUnit)", 15}, {"(XThrow (XUnit))", -1}, {"(XThrow (XUnit) ", 16}, {"(XThrow (XUnit)(XUnit))", 15}, {"(XThrow (XUnit) )", 16}, {"(XThrow XUnit)", 8},
		// An error of syntax counts more than those behind it in the list, wherever they are.
		{"(XName) ", 7}, {"(SNone 1) x", 9}, {"(XInt -1) ", 9}, {strings.Repeat("(XQuote ", 70), 560}, {strings.Repeat("(XQuote ", 70) + "(XUnit)" + strings.Repeat(")", 71), 637},
	} {
		if c.at < 0 {
			if _, f := Read(c.text); f != (api.Fault{}) {
				t.Errorf("Read(%q): %v", c.text, f)
			}
			continue
		}
		expectRead(t, c.text, api.Fault{At: c.at, Code: api.ErrSyntax})
	}
}

func TestReadOfNums(t *testing.T) {
	for _, num := range []int64{1, -1, 10, 2147483647, 2147483648, -1 << 63, 1<<63 - 1, 100} {
		text := "(XInt " + strconv.FormatInt(num, 10) + ")"
		want := api.Fault{}
		if num < 0 || num > 2147483647 {
			want.Code = api.ErrRange
		}
		if n, f := Read(text); f != want || want.Code == api.OK && n.Num != num {
			t.Errorf("Read(%s) = %d, %v; want %v", text, n.Num, f, want)
		}
	}
}

func TestReadOfDeepTexts(t *testing.T) {
	deep := func(levels int) string {
		return strings.Repeat("(XQuote ", levels-1) + "(XUnit)" + strings.Repeat(")", levels-1)
	}
	if n, f := Read(deep(api.MaxNest)); f != (api.Fault{}) || Depth(n) != api.MaxNest {
		t.Errorf("Read of the deepest tree: %v", f)
	}
	for _, levels := range []int{api.MaxNest + 1, api.MaxNest + 2, 1000, 10000} {
		expectRead(t, deep(levels), api.Fault{At: api.MaxNest * len("(XQuote "), Code: api.ErrDepth})
	}
	// The first one that is too deep counts, and it counts more than the faults of Check.
	front := `(XInfix "1" (XName) `
	expectRead(t, front+deep(api.MaxNest)+")", api.Fault{At: len(front) + (api.MaxNest-1)*len("(XQuote "), Code: api.ErrDepth})
	expectRead(t, front+deep(api.MaxNest)+" "+deep(2*api.MaxNest)+")", api.Fault{At: len(front) + (api.MaxNest-1)*len("(XQuote "), Code: api.ErrDepth})
	expectRead(t, front+deep(api.MaxNest-1)+")", api.Fault{Code: api.ErrName})
}

// P2.4: Read of Text is an equal tree, Text of Read is the text. A text that is cut off misses something.
func TestReadOfText(t *testing.T) {
	m := maker{rand.New(rand.NewSource(2))}
	for i := range 3000 {
		n := m.right(5)
		s, e := Text(n)
		again, f := Read(s)
		if e != api.OK || f != (api.Fault{}) || !Equal(n, again) {
			t.Fatalf("Text = %s, %v; Read of it: %v", s, e, f)
		}
		if twice, e := Text(again); twice != s || e != api.OK {
			t.Fatalf("Text of Read of %s = %s, %v", s, twice, e)
		}
		if i%10 == 0 {
			for end := range min(len(s), 300) {
				expectRead(t, s[:end], api.Fault{At: end, Code: api.ErrSyntax})
			}
		}
	}
}

// goesOn reports whether a text is a text form, right or not, or the beginning of one.
func goesOn(text string) bool {
	_, f := Read(text)
	return f.Code != api.ErrSyntax || f.At == len(text)
}

// A text with a byte changed is a text form, or has a fault; an error of syntax is at the first byte that does not go on, unless it is that of a name, a Num or a Text.
func TestReadOfChangedTexts(t *testing.T) {
	m := maker{rand.New(rand.NewSource(3))}
	codes := map[api.Errno]int{}
	for range 500 {
		s := written(m.right(1 + m.r.Intn(2)))
		at := m.r.Intn(len(s))
		for b := range 256 {
			text := s[:at] + string([]byte{byte(b)}) + s[at+m.r.Intn(2):]
			n, f := Read(text)
			codes[f.Code]++
			if f.Code == api.OK {
				if again, e := Text(n); again != text || e != api.OK {
					t.Fatalf("Text of Read of %q = %q, %v", text, again, e)
				}
				continue
			}
			expectRead(t, text, f)
			if f.Code != api.ErrSyntax {
				if text[f.At] != '(' {
					t.Fatalf("Read(%q): %v", text, f)
				}
				continue
			}
			if !goesOn(text[:f.At]) {
				t.Fatalf("Read(%q): %v, but what stands in front of it does not go on", text, f)
			}
			if f.At < len(text) && strings.IndexByte("\"-0123456789", text[f.At]) < 0 && (f.At == 0 || text[f.At-1] != '(') && goesOn(text[:f.At+1]) {
				t.Fatalf("Read(%q): %v, but this byte goes on", text, f)
			}
		}
	}
	for _, code := range []api.Errno{api.OK, api.ErrSyntax, api.ErrName, api.ErrRange} {
		if codes[code] < 20 {
			t.Errorf("the code %v: only %d texts", code, codes[code])
		}
	}
}

// P1: Read returns for any text.
func TestReadOfAnyText(t *testing.T) {
	m := maker{rand.New(rand.NewSource(4))}
	for range 50000 {
		text := ""
		for range m.r.Intn(8) {
			text += m.pick("(", ")", " ", "XName", "XInt", "SNone", "XBlock", "\"", "\"a\"", "\\", "\\x", "1", "-", "0", "\x00", "\xff", "(XUnit)", "S", "\n")
		}
		n, f := Read(text)
		if f != (api.Fault{}) {
			expectRead(t, text, f)
			if f.At < 0 || f.At > len(text) {
				t.Fatalf("Read(%q): %v", text, f)
			}
		} else if again, e := Text(n); again != text || e != api.OK {
			t.Fatalf("Text of Read of %q = %q, %v", text, again, e)
		}
	}
}
