package syntax

import (
	"slices"
	"strconv"
	"strings"
	"testing"

	"newel/api"
)

// P2.1: each kind of node, with each sort of Text, with many numbers, and with a kid of each kind in each place.

// chapter has the table of the chapter: the kind, the sort of its Text, the numbers that are permitted, and a right tree with what may stand in the place of each of its kids.
var chapter = []struct{ kind, text, nums, sample, kids string }{
	{"SNone", "none", "0", "$-", ""},
	{"SUnit", "none", "0", `(SUnit (SImport "a"))`, "D"},
	{"SImport", "import", "0", `(SImport "a")`, ""},
	{"SClass", "name", "0 1 2 3 4 5", `(SClass "A" $m $n $l $p $b)`, "SMods, SNames, SLists, SParents, SBody -"},
	{"SDef", "name", "0 1", `(SDef "f" $m $n $l $t $e)`, "SMods, SNames, SLists, T -, E -"},
	{"SVal", "letters", "0 1 2", `(SVal "v" $m $t $e)`, "SMods, T -, E -"},
	{"SType", "letters", "0", `(SType "T" $m $n $- $- $-)`, "SMods, SNames, T -, T -, T -"},
	{"SGiven", "letters or none", "0", `(SGiven "g" $m $n $l $t $e)`, "SMods, SNames, SLists, T, E"},
	{"SExtension", "none", "0", `(SExtension $n $a (SDef "f" $m $n $l $- $-))`, "SNames, SParam, SDef"},
	{"SEnumCase", "letters", "0", `(SEnumCase "A" $n $l $p)`, "SNames, SLists, SParents"},
	{"SMods", "none", "0 1 2 3 4 5 6 7 8 9 10 11 12 13 15 16 31 512 4096 4639", "(SMods)", ""},
	{"SNames", "none", "0", `(SNames (STParam "T" $- $-))`, "STParam"},
	{"STParam", "letters", "-1 0 1", `(STParam "T" $t $t $-)`, "T -, T -, -"},
	{"SLists", "none", "0", "(SLists (SParams))", "SParams"},
	{"SParams", "none", "0 1", "(SParams $a)", "SParam"},
	{"SParam", "letters", "0 1 2 4 5 6 8 9 10", `(SParam "a" $m $t $e)`, "SMods, T, E -"},
	{"SParents", "none", "0", "(SParents (SParent $t))", "SParent"},
	{"SParent", "none", "0 1", "(SParent 1 $t $e)", "T, E"},
	{"SBody", "none", "0", "(SBody $e)", "D E"},
	{"TName", "letters", "0", `(TName "T")`, ""},
	{"TSelect", "letters", "0", `(TSelect "T" $e)`, "XName XThis XSelect"},
	{"TApply", "none", "0", "(TApply $t $t)", "T, T"},
	{"TFunction", "none", "0", "(TFunction $t $t)", "T, T"},
	{"TAnd", "none", "0", "(TAnd $t $t)", "T, T"},
	{"TOr", "none", "0", "(TOr $t $t)", "T, T"},
	{"TSingle", "none", "0", "(TSingle $e)", "XName XThis XSelect"},
	{"TWild", "none", "0", "(TWild $t $t)", "T -, T -"},
	{"TLambda", "none", "0", "(TLambda $n $t)", "SNames, T"},
	{"TMatch", "none", "0", "(TMatch $t (TCase $t $t))", "T, TCase"},
	{"TCase", "none", "0", "(TCase $t $t)", "T, T"},
	{"XName", "name", "0", `(XName "x")`, ""},
	{"XSelect", "name", "0", `(XSelect "a" $e)`, "E"},
	{"XApply", "none", "0 1", "(XApply $e $e)", "E, E XNamed"},
	{"XNamed", "letters", "0", `(XNamed "a" $e)`, "E"},
	{"XTypes", "none", "0", "(XTypes $e $t)", "E, T"},
	{"XInfix", "name", "0", `(XInfix "+" $e $e)`, "E, E"},
	{"XPrefix", "prefix", "0", `(XPrefix "-" $e)`, "E"},
	{"XAssign", "assigns", "0", `(XAssign "=" $e $e)`, "E, E"},
	{"XInt", "none", "0 1 2 3 4 5 6 7 8 9 10 11 12 13 15 16 31 32 255 256 512 4096 4639 4640 2147483647", "(XInt)", ""},
	{"XLong", "none", "0 1 2 3 4 5 6 7 8 9 10 11 12 13 15 16 31 32 255 256 512 4096 4639 4640 2147483647 2147483648 9223372036854775807", "(XLong)", ""},
	{"XChar", "none", "0 1 2 3 4 5 6 7 8 9 10 11 12 13 15 16 31 32 255", "(XChar)", ""},
	{"XString", "bytes", "0", "(XString)", ""},
	{"XTrue", "none", "0", "(XTrue)", ""},
	{"XFalse", "none", "0", "(XFalse)", ""},
	{"XNull", "none", "0", "(XNull)", ""},
	{"XUnit", "none", "0", "(XUnit)", ""},
	{"XThis", "none", "0", "(XThis)", ""},
	{"XSuper", "letters or none", "0", "(XSuper)", ""},
	{"XInterp", "letters", "0", `(XInterp "s" $s $e $s)`, "XString, E, XString"},
	{"XIf", "none", "0", "(XIf $e $e $e)", "E, E, E -"},
	{"XWhile", "none", "0", "(XWhile $e $e)", "E, E"},
	{"XFor", "none", "0 1", "(XFor $g $g $e)", "SGenerator, SGenerator SBinding SGuard, E"},
	{"SGenerator", "none", "0", "(SGenerator $w $e)", "P, E"},
	{"SBinding", "none", "0", "(SBinding $w $e)", "P, E"},
	{"SGuard", "none", "0", "(SGuard $e)", "E"},
	{"XMatch", "none", "0", "(XMatch $e $c)", "E, SCase"},
	{"SCase", "none", "0", "(SCase $w $e $e)", "P, E -, E"},
	{"XTry", "none", "0", "(XTry $e (SCases) $e)", "E, SCases, E -"},
	{"SCases", "none", "0", "(SCases $c)", "SCase"},
	{"XThrow", "none", "0", "(XThrow $e)", "E"},
	{"XReturn", "none", "0", "(XReturn $e)", "E -"},
	{"XLambda", "none", "0", `(XLambda (SLambdaParam "a" $-) $e)`, "SLambdaParam, E"},
	{"SLambdaParam", "letters or _", "0", `(SLambdaParam "a" $t)`, "T -"},
	{"XBlock", "none", "0", "(XBlock $e)", "D E"},
	{"XNew", "none", "0", "(XNew (SParents (SParent $t)) $b)", "SParents, SBody -"},
	{"XTyped", "none", "0", "(XTyped $e $t)", "E, T"},
	{"XQuote", "none", "0", "(XQuote $e)", "E"},
	{"XSplice", "none", "0", "(XSplice $e)", "E"},
	{"PWild", "none", "0", "(PWild)", ""},
	{"PBind", "letters", "0", `(PBind "a" $w)`, "PWild PTyped PLiteral PStable PApply PAlt"},
	{"PTyped", "letters or _", "0", `(PTyped "a" $t)`, "T"},
	{"PLiteral", "none", "0", "(PLiteral (XInt))", "XInt XLong XChar XString XTrue XFalse XNull XUnit"},
	{"PStable", "path", "0", `(PStable "A")`, ""},
	{"PApply", "path", "0", `(PApply "A" $w)`, "P"},
	{"PAlt", "none", "0", "(PAlt $w $w)", "PWild PBind PTyped PLiteral PStable PApply, PWild PBind PTyped PLiteral PStable PApply"},
}

// members has the kinds of each class of nodes.
var members = map[string]string{
	"-": "SNone",
	"D": "SImport SClass SDef SVal SType SGiven SExtension SEnumCase",
	"T": "TName TSelect TApply TFunction TAnd TOr TSingle TWild TLambda TMatch",
	"P": "PWild PBind PTyped PLiteral PStable PApply PAlt",
	"E": "XName XSelect XApply XTypes XInfix XPrefix XAssign XInt XLong XChar XString XTrue XFalse XNull XUnit XThis XSuper XInterp XIf XWhile XFor XMatch XTry XThrow XReturn XLambda XBlock XNew XTyped XQuote XSplice",
}

// kindsOf returns the kinds that words name: classes or kinds.
func kindsOf(words string) []string {
	var out []string
	for _, word := range strings.Fields(words) {
		if class, ok := members[word]; ok {
			word = class
		}
		out = append(out, strings.Fields(word)...)
	}
	return out
}

func TestChapterHasAllKinds(t *testing.T) {
	for kind, c := range chapter {
		if n := tree(t, c.sample); n.Kind != kind || c.kind != Name(kind) || Check(n) != (api.Fault{}) {
			t.Errorf("the sample %s of the kind %d: %v", c.sample, kind, Check(n))
		}
	}
	if len(chapter) != Kinds {
		t.Errorf("there are samples of %d kinds", len(chapter))
	}
}

func TestKidsOfAllKinds(t *testing.T) {
	for _, c := range chapter {
		n := tree(t, c.sample)
		places := strings.Split(c.kids, ", ")
		if c.kids == "" {
			places = nil
		}
		if len(places) != len(n.Kids) {
			t.Fatalf("%s has %d kids", c.sample, len(n.Kids))
		}
		for i, place := range places {
			permitted := kindsOf(place)
			for kind, other := range chapter {
				m := n
				m.Kids = slices.Clone(n.Kids)
				m.Kids[i] = tree(t, other.sample)
				want := api.Fault{}
				if !slices.Contains(permitted, Name(kind)) {
					want.Code = api.ErrForm
				}
				if f := Check(m); f != want {
					t.Errorf("Check of %s = %v; want %v", written(m), f, want)
				}
			}
		}
	}
}

// Without one of its kids, a node is right only if there may be any number of kids in its place.
func TestMissingKids(t *testing.T) {
	// The kid behind one that is missing may stand in its place.
	many := strings.Split("SUnit 0, SNames 0, SLists 0, SParams 0, SParents 0, SBody 0, SCases 0, XBlock 0, STParam 0, STParam 1, STParam 2, SParent 1, TFunction 0, TFunction 1, XApply 0, XApply 1, XFor 0, XFor 1, XLambda 0, PApply 0", ", ")
	for _, c := range chapter {
		n := tree(t, c.sample)
		for i := range n.Kids {
			m := n
			m.Kids = slices.Delete(slices.Clone(n.Kids), i, i+1)
			want := api.Fault{Code: api.ErrForm}
			if slices.Contains(many, c.kind+" "+strconv.Itoa(i)) {
				want = api.Fault{}
			}
			if f := Check(m); f != want {
				t.Errorf("Check of %s = %v; want %v", written(m), f, want)
			}
		}
	}
}

// sorts has texts, and the sorts of texts to which they belong.
var sorts = []struct{ text, sorts string }{
	{"", "none, letters or none, bytes"},
	{"a", "name, letters, letters or none, letters or _, path, import, bytes"},
	{"_A9", "name, letters, letters or none, letters or _, path, import, bytes"},
	{"_", "letters or _, bytes"},
	{"+", "name, prefix, bytes"},
	{"-", "name, prefix, bytes"},
	{"!", "name, prefix, bytes"},
	{"~", "name, prefix, bytes"},
	{"/", "name, bytes"},
	{"=", "name, assigns, bytes"},
	{"+=", "name, assigns, bytes"},
	{"==", "name, bytes"},
	{"<=", "name, bytes"},
	{"*", "name, import, bytes"},
	{"a.b", "path, import, bytes"},
	{"a.*", "import, bytes"},
	{"a.+", "bytes"},
	{"a.", "bytes"},
	{"9", "bytes"},
	{"a b", "bytes"},
	{"a+", "bytes"},
	{"\x00", "bytes"},
	{"\xc3\xa9", "bytes"},
}

func TestTextsOfAllSorts(t *testing.T) {
	for _, c := range chapter {
		n := tree(t, c.sample)
		for _, s := range sorts {
			n.Text = s.text
			want := api.Fault{}
			switch {
			case slices.Contains(strings.Split(s.sorts, ", "), c.text):
			case c.text == "none" || c.text == "prefix" || c.text == "assigns":
				want.Code = api.ErrInvalid
			default:
				want.Code = api.ErrName
			}
			if f := Check(n); f != want {
				t.Errorf("Check of %s = %v; want %v", written(n), f, want)
			}
		}
	}
}

func TestManyNums(t *testing.T) {
	nums := []int64{-1 << 63, -2, -1, 0, 1, 2, 3, 4, 5, 6, 7, 8, 9, 10, 11, 12, 13, 15, 16, 31, 32, 255, 256, 512, 4096, 4639, 4640, 1<<31 - 1, 1 << 31, 1<<63 - 1}
	for _, c := range chapter {
		n := tree(t, c.sample)
		if c.kind == "SParent" { // with arguments it would be right for one number only
			n.Kids = n.Kids[:1]
		}
		for _, num := range nums {
			n.Num = num
			want := api.Fault{}
			switch {
			case slices.Contains(strings.Fields(c.nums), strconv.FormatInt(num, 10)):
			case c.nums == "0":
				want.Code = api.ErrInvalid
			default:
				want.Code = api.ErrRange
			}
			if f := Check(n); f != want {
				t.Errorf("Check of %s = %v; want %v", written(n), f, want)
			}
		}
	}
}

// Of several errors of a node the first one named counts: ErrName, ErrRange, ErrInvalid, ErrForm.
func TestOrderOfErrors(t *testing.T) {
	for _, c := range chapter {
		n := tree(t, c.sample)
		n.Kids = []Node{{Kind: Kinds}}
		if f := Check(n); f != (api.Fault{Code: api.ErrForm}) {
			t.Errorf("Check of %s with a wrong kid = %v", c.kind, f)
		}
		n.Num = -2
		want := api.ErrRange
		if c.nums == "0" {
			want = api.ErrInvalid
		}
		if f := Check(n); f != (api.Fault{Code: want}) {
			t.Errorf("Check of %s with a wrong kid and number = %v", c.kind, f)
		}
		n.Text = "a b"
		switch c.text {
		case "none", "prefix", "assigns", "bytes":
		default:
			want = api.ErrName
		}
		if f := Check(n); f != (api.Fault{Code: want}) {
			t.Errorf("Check of %s with everything wrong = %v", c.kind, f)
		}
	}
}
