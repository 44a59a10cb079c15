package symbols

import (
	"strconv"
	"strings"
	"testing"

	"newel/api"
)

// P6.4: the canonical text.

const sampleText = `class Top 0
  field message 128
trait Trait 4 +T
  method f 1 1
  method g 0 0
  type Out
class Base 1 T -U
  field v 640
  field p 0
  method f 16 1
  type Out
object Main# 0
  method main 0 0
class Main#.Inner 34
  field q 0
class Main#.Value 64
  field value 0
object Main#.Inner# 32
method h 1024 2
`

func mustWrite(t *testing.T, p api.Program, want string) {
	t.Helper()
	if s, e := Text(p); s != want || e != api.OK {
		t.Errorf("Text = %v\n%s\nwant\n%s", e, s, want)
	}
}

func TestText(t *testing.T) {
	mustWrite(t, sample(), sampleText)
	mustWrite(t, api.Program{Main: -1}, "")
	p := sample()
	p.Main = -1
	p.Classes[base].TParams = []int{baseU, baseT}
	p.Classes[base].Fields = []int{baseParam, baseVar}
	p.Classes[aTrait].Methods = []int{traitMethod, traitAbstract}
	p.Classes[base].At, p.Methods[main].Result, p.Fields[topField].Type = 9, anyType(), anyType()
	mustWrite(t, p, strings.NewReplacer("Base 1 T -U", "Base 1 -U T", "  field v 640\n  field p 0\n", "  field p 0\n  field v 640\n", "  method f 1 1\n  method g 0 0\n", "  method g 0 0\n  method f 1 1\n").Replace(sampleText))
	p.Methods = append(p.Methods, api.Method{Name: "::", Owner: -1, Flags: api.Inline | api.Synthetic, Params: 3, Locals: locals(5), Body: &api.Tree{}})
	p.Classes = append(p.Classes, api.Class{Name: "<:>", Owner: inner, Flags: api.Synthetic | api.Sealed | api.Private, Kind: api.IsTrait, Parents: []api.Type{anyType()}, Methods: []int{6}, Types: []int{3, 2}})
	p.Methods = append(p.Methods, api.Method{Name: "last", Owner: 7, Body: &api.Tree{}})
	p.Types = append(p.Types, api.TypeMember{Name: "A", Owner: 7, Arity: 2}, api.TypeMember{Name: "B", Owner: 7})
	s, e := Text(p)
	if end := "object Main#.Inner# 32\ntrait Main#.Inner.<:> 16396\n  method last 0 0\n  type B\n  type A\nmethod h 1024 2\nmethod :: 20480 3\n"; !strings.HasSuffix(s, end) || e != api.OK {
		t.Errorf("Text = %v\n%s\nwant\n..%s", e, s, end)
	}
}

func TestTextOfWrongPrograms(t *testing.T) {
	for _, f := range allFaults() {
		p := sample()
		f.edit(&p)
		if s, e := Text(p); s != "" || e != f.want.Code {
			t.Errorf("Text with a fault of %s = %q, %v; want %v", f.what, s, e, f.want.Code)
		}
	}
	p := sample()
	p.Classes = make([]api.Class, api.MaxTable+1)
	if s, e := Text(p); s != "" || e != api.ErrLimit {
		t.Errorf("Text of too many classes = %q, %v", s, e)
	}
}

// TestTextLimit makes texts with just as many bytes as are permitted, and one more.
func TestTextLimit(t *testing.T) {
	long := strings.Repeat("a", api.MaxName-3)
	p := api.Program{Main: -1}
	name := func(i int) string { return long + strconv.Itoa(1000 + i)[1:] }
	for i := range api.MaxTable {
		p.Methods = append(p.Methods, api.Method{Name: name(i), Owner: -1, Body: &api.Tree{}})
	}
	p.Classes = []api.Class{{Name: "C", Owner: -1, Parents: []api.Type{anyType()}}}
	for i := range 382 {
		p.Classes[0].Types = append(p.Classes[0].Types, i)
		p.Types = append(p.Types, api.TypeMember{Name: name(i)})
	}
	s, e := Text(p)
	rest := api.MaxText - len(s)
	if e != api.OK || rest < 0 || rest > 500 {
		t.Fatalf("the test is wrong: %d bytes, %v", len(s), e)
	}
	// Each of these flags takes a byte more.
	for i := range rest {
		p.Methods[i].Flags = api.Final | api.Private
	}
	if s, e = Text(p); len(s) != api.MaxText || e != api.OK {
		t.Errorf("Text = %d bytes, %v", len(s), e)
	}
	p.Methods[rest].Flags = api.Final | api.Private
	if s, e = Text(p); s != "" || e != api.ErrLimit {
		t.Errorf("Text = %d bytes, %v", len(s), e)
	}
	p.Classes[0].Name = ""
	if s, e = Text(p); s != "" || e != api.ErrName {
		t.Errorf("Text = %d bytes, %v", len(s), e)
	}
}

// A right program may have names that are far longer together than a text may be.
func TestTextOfDeepClasses(t *testing.T) {
	p := owners()
	for i := range api.MaxTable {
		p.Classes = append(p.Classes, api.Class{Name: strings.Repeat("a", api.MaxName), Owner: i - 1, Parents: []api.Type{anyType()}})
	}
	mustBe(t, "classes inside of one another", p, Fault{})
	if s, e := FullName(p, api.MaxTable-1); len(s) != api.MaxTable*(api.MaxName+1)-1 || e != api.OK {
		t.Errorf("FullName = %d bytes, %v", len(s), e)
	}
	if s, e := Text(p); s != "" || e != api.ErrLimit {
		t.Errorf("Text = %d bytes, %v", len(s), e)
	}
}
