package tokens

import (
	"strconv"
	"strings"
	"testing"

	"newel/api"
)

// kindNames has the names of the kinds, in their order.
var kindNames = [Kinds]string{"Name", "Key", "Op", "Mark", "Int", "Long", "Char", "String", "Start", "Part", "End", "Newline", "Indent", "Outdent", "Stop"}

// brief writes the kinds and texts of tokens, for comparisons.
func brief(l []Token) string {
	var out []string
	for _, t := range l {
		s := kindNames[t.Kind]
		switch t.Kind {
		case Char, String, Part:
			s += ":" + strconv.Quote(t.Text)
		case Newline, Indent, Outdent, Stop, End:
			if t.Text != "" {
				s += " with the text " + t.Text
			}
		default:
			s += ":" + t.Text
		}
		out = append(out, s)
	}
	return strings.Join(out, " ")
}

// plain writes the texts of tokens, and the kinds of those that layout puts.
func plain(l []Token) string {
	var out []string
	for _, t := range l {
		if t.Kind >= Newline {
			out = append(out, kindNames[t.Kind])
		} else {
			out = append(out, t.Text)
		}
	}
	return strings.Join(out, " ")
}

func mustRaw(t *testing.T, text string) []Token {
	t.Helper()
	l, f := Raw(text)
	if f != (api.Fault{}) {
		t.Fatalf("Raw(%q): fault %v", text, f)
	}
	return l
}

func mustScan(t *testing.T, text string) []Token {
	t.Helper()
	l, f := Scan(text)
	if f != (api.Fault{}) {
		t.Fatalf("Scan(%q): fault %v", text, f)
	}
	return l
}

// expectFault checks that a call returned this fault and nothing else.
func expectFault(t *testing.T, call string, l []Token, got, want api.Fault) {
	t.Helper()
	if got != want || len(l) != 0 {
		t.Errorf("%s = %d tokens, fault %v; want none, %v", call, len(l), got, want)
	}
}
