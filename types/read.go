package types

import (
	"strconv"
	"strings"

	"newel/api"
	"newel/symbols"
)

// Read returns the type with a text.
func Read(env api.Env, s string) (api.Type, api.Fault) {
	if len(s) > api.MaxText {
		return api.Type{}, api.Fault{Code: api.ErrLimit}
	}
	r := newReader(env, s)
	t := r.typ()
	if r.hasFailed {
		return api.Type{}, api.Fault{Code: api.ErrSyntax}
	}
	// What has been read need not have this text: there may be a wrong name in front of a number, a zero too many, or a type where it may not stand.
	if again, e := Text(env, t); e != api.OK || again != s {
		return api.Type{}, api.Fault{Code: api.ErrSyntax}
	}
	return t, api.Fault{}
}

// mostNested is how deeply the texts of types are nested in one another at most: around each type there may be one list of parameters.
const mostNested = 2 * api.MaxNest

// The bytes of which numbers and names consist.
const (
	digits    = "0123456789"
	letters   = "abcdefghijklmnopqrstuvwxyzABCDEFGHIJKLMNOPQRSTUVWXYZ_$"
	operators = "+-*/%<>=!&|^~:?"
)

// beginning is what the text of a type begins with, and what reads the type behind that.
type beginning struct {
	mark string
	read func() api.Type
}

// ending is what may stand behind a type that is a part of another one, and what reads the other one behind that.
type ending struct {
	mark string
	read func(first api.Type) api.Type
}

// reader reads the text of a type. Once it has failed, it takes nothing more of the text.
type reader struct {
	env        api.Env
	text       string
	at         int // of the byte that is read next
	nested     int // how many types and lists are being read
	hasFailed  bool
	classes    map[string]int // the classes that have been found, by full names
	beginnings []beginning
	groups     []ending // behind a type that stands behind a parenthesis
	suffixes   []ending // behind any type
}

// newReader returns a reader of a text. In its tables longer marks stand ahead of those with which they begin.
func newReader(env api.Env, text string) *reader {
	r := &reader{env: env, text: text, classes: map[string]int{}}
	r.beginnings = []beginning{
		{"(=> ", r.byName},
		{"(? >: ", r.wild},
		{"(", r.group},
		{"{", r.lambda},
		{"#", r.bound},
		{"this(", r.this},
		{"Array(", r.array},
		{"", r.named},
	}
	r.groups = []ending{
		{")", r.lastParam},
		{", ", r.params},
		{" & ", r.intersection},
		{" | ", r.union},
		{" match ", r.match},
		{" with ", r.refinement},
		{" *)", r.repeated},
	}
	r.suffixes = []ending{
		{".", r.member},
		{"(", r.application},
	}
	return r
}

// fail gives up the text.
func (r *reader) fail() api.Type {
	r.hasFailed = true
	return api.Type{}
}

// skip takes a text if it comes next.
func (r *reader) skip(s string) bool {
	isNext := !r.hasFailed && strings.HasPrefix(r.text[r.at:], s)
	if isNext {
		r.at += len(s)
	}
	return isNext
}

// need takes a text that must come next.
func (r *reader) need(s string) {
	if !r.skip(s) {
		r.fail()
	}
}

// run takes the bytes that come next as long as they are in a set.
func (r *reader) run(set string) string {
	rest := r.text[r.at:]
	s := rest[:len(rest)-len(strings.TrimLeft(rest, set))]
	r.at += len(s)
	return s
}

// number reads a number.
func (r *reader) number() int {
	n, err := strconv.Atoi(r.run(digits))
	if err != nil {
		r.fail()
		return 0
	}
	return n
}

// name reads a name: nothing, if there is none.
func (r *reader) name() string {
	if name := r.run(letters + digits); name != "" {
		return name
	}
	return r.run(operators)
}

// list reads types with a text between them and another one behind them.
func (r *reader) list(between, behind string) []api.Type {
	types := []api.Type{r.typ()}
	for r.skip(between) {
		types = append(types, r.typ())
	}
	r.need(behind)
	return types
}

// until reads a type with a text behind it.
func (r *reader) until(behind string) api.Type {
	t := r.typ()
	r.need(behind)
	return t
}

// with returns a type of a kind with Args.
func with(kind int, args ...api.Type) api.Type {
	return api.Type{Kind: kind, Args: args}
}

// typ reads a type.
func (r *reader) typ() api.Type {
	t := r.term()
	if t.Kind == api.TNone {
		return r.fail()
	}
	return t
}

// term reads a type, or a list of parameters in parentheses, which is no type and has the kind TNone.
func (r *reader) term() api.Type {
	if r.nested++; r.nested > mostNested {
		return r.fail()
	}
	t := api.Type{}
	for _, b := range r.beginnings {
		if r.skip(b.mark) {
			t = b.read()
			break
		}
	}
	r.nested--
	for t.Kind != api.TNone {
		next, isLonger := r.ended(t, r.suffixes)
		if !isLonger {
			break
		}
		t = next
	}
	return t
}

// ended reads what stands behind a type, if it is one of some endings.
func (r *reader) ended(t api.Type, endings []ending) (api.Type, bool) {
	for _, e := range endings {
		if r.skip(e.mark) {
			return e.read(t), true
		}
	}
	return t, false
}

// group reads what stands behind a parenthesis.
func (r *reader) group() api.Type {
	if r.skip(")") {
		return api.Type{}
	}
	first := r.term()
	if first.Kind == api.TNone {
		r.need(" => ")
		return with(api.TFun, append(first.Args, r.until(")"))...)
	}
	t, isEnded := r.ended(first, r.groups)
	if !isEnded {
		return r.fail()
	}
	return t
}

// lastParam makes the list of one parameter.
func (r *reader) lastParam(first api.Type) api.Type {
	return with(api.TNone, first)
}

// params reads the other parameters of a list.
func (r *reader) params(first api.Type) api.Type {
	return with(api.TNone, append([]api.Type{first}, r.list(", ", ")")...)...)
}

func (r *reader) intersection(first api.Type) api.Type {
	return with(api.TAnd, append([]api.Type{first}, r.list(" & ", ")")...)...)
}

func (r *reader) union(first api.Type) api.Type {
	return with(api.TOr, append([]api.Type{first}, r.list(" | ", ")")...)...)
}

func (r *reader) match(scrutinee api.Type) api.Type {
	t := with(api.TMatch, scrutinee)
	t.Num = r.number()
	for r.skip(" {") {
		t.Args = append(t.Args, r.until(" => "), r.until("}"))
	}
	r.need(")")
	return t
}

func (r *reader) refinement(first api.Type) api.Type {
	t := with(api.TRefine, first)
	t.Name = r.name()
	r.need(" >: ")
	t.Args = append(t.Args, r.until(" <: "), r.until(")"))
	return t
}

func (r *reader) repeated(element api.Type) api.Type {
	return with(api.TRepeat, element)
}

func (r *reader) byName() api.Type {
	return with(api.TByName, r.until(")"))
}

func (r *reader) wild() api.Type {
	lo := r.until(" <: ")
	return with(api.TWild, lo, r.until(")"))
}

func (r *reader) array() api.Type {
	return with(api.TArray, r.until(")"))
}

func (r *reader) lambda() api.Type {
	t := api.Type{Kind: api.TLambda, Num: r.number()}
	r.need(" => ")
	t.Args = []api.Type{r.until("}")}
	return t
}

func (r *reader) bound() api.Type {
	t := api.Type{Kind: api.TBound, Num: r.number()}
	r.need("^")
	t.Sym = r.number()
	return t
}

func (r *reader) this() api.Type {
	t := api.Type{Kind: api.TThis, Sym: r.class()}
	r.need(")")
	return t
}

// application reads the arguments of a type function.
func (r *reader) application(function api.Type) api.Type {
	return with(api.TApply, append([]api.Type{function}, r.list(", ", ")")...)...)
}

// member reads a type member or a field of a prefix.
func (r *reader) member(prefix api.Type) api.Type {
	t := with(api.TNone, prefix)
	r.name()
	switch {
	case r.skip("'"):
		t.Kind = api.TMember
	case r.skip("@"):
		t.Kind = api.TField
	default:
		return r.fail()
	}
	t.Sym = r.number()
	return t
}

// named reads a type that begins with a name.
func (r *reader) named() api.Type {
	start := r.at
	name := r.name()
	switch {
	case r.skip("'"):
		return api.Type{Kind: api.TParam, Sym: r.number()}
	case r.skip("@"):
		return api.Type{Kind: api.TLocal, Sym: r.number()}
	case name == "?" && r.isDigitNext():
		return api.Type{Kind: api.TVar, Num: r.number()}
	}
	for kind, basic := range basicNames {
		if basic != "" && basic == name {
			return api.Type{Kind: kind}
		}
	}
	r.at = start
	t := api.Type{Kind: api.TClass, Sym: r.class()}
	r.need("[")
	if !r.skip("]") {
		t.Args = r.list(", ", "]")
	}
	return t
}

func (r *reader) isDigitNext() bool {
	return r.at < len(r.text) && strings.IndexByte(digits, r.text[r.at]) >= 0
}

// class reads the full name of a class.
func (r *reader) class() int {
	start := r.at
	last := r.name()
	r.skip("#")
	for r.skip(".") {
		last = r.name()
		r.skip("#")
	}
	full := r.text[start:r.at]
	class, isFound := r.classes[full]
	if !isFound {
		class = findClass(r.env.P, full, last)
		r.classes[full] = class
	}
	if class == none {
		r.fail()
	}
	return class
}

// findClass returns the first class with a full name, the last part of which is its own name, or -1.
func findClass(p api.Program, full, last string) int {
	for i, c := range p.Classes {
		if c.Name != last {
			continue
		}
		if name, e := symbols.FullName(p, i); e == api.OK && name == full {
			return i
		}
	}
	return none
}
