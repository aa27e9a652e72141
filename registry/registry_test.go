package registry_test

import (
	"cmp"
	"fmt"
	"math"
	"math/rand"
	"slices"
	"strings"
	"testing"

	"broker/api"
	"broker/match"
	"broker/registry"
	"broker/schema"
	"broker/topic"
)

// modes are all modes.
var modes = []int{api.ModeNone, api.ModeBackward, api.ModeForward, api.ModeFull}

// noModes are numbers that no mode has.
var noModes = []int{0, -1, 5, math.MinInt, math.MaxInt}

// parsed returns the schema of a notation.
func parsed(t *testing.T, notation string) api.Type {
	t.Helper()
	x, at, code := schema.Parse(notation)
	if code != api.OK {
		t.Fatalf("Parse(%q): %d at %d", notation, code, at)
	}
	return x
}

// parsedAll returns the schemas of some notations.
func parsedAll(t *testing.T, notations ...string) []api.Type {
	t.Helper()
	var l []api.Type
	for _, notation := range notations {
		l = append(l, parsed(t, notation))
	}
	return l
}

// subject returns a subject with versions.
func subject(name, filter string, mode int, versions ...api.Type) api.Subject {
	return api.Subject{Name: name, Filter: filter, Mode: mode, Versions: versions}
}

// show prints subjects or types; a list without elements may be nil or empty.
func show(x any) string { return fmt.Sprintf("%+v", x) }

// compatible is Compatible as the chapter defines it.
func compatible(mode int, old, next api.Type) bool {
	back, forth := schema.Includes(next, old), schema.Includes(old, next)
	return mode == 1 || mode == 2 && back || mode == 3 && forth || mode == 4 && back && forth
}

// check is Check as the chapter defines it.
func check(l []api.Subject) api.Errno {
	if len(l) > 32 {
		return api.ErrTooLong
	}
	earlier := map[string]bool{}
	for _, s := range l {
		switch {
		case !topic.Name(s.Name):
			return api.ErrName
		case earlier[s.Name]:
			return api.ErrExists
		case !topic.Filter(s.Filter):
			return api.ErrFilter
		case s.Mode < 1, s.Mode > 4:
			return api.ErrKind
		case len(s.Versions) > 16:
			return api.ErrTooLong
		}
		earlier[s.Name] = true
		for i, v := range s.Versions {
			if code := schema.Check(v); code != api.OK {
				return code
			}
			if i > 0 && !compatible(s.Mode, s.Versions[i-1], v) {
				return api.ErrCompatible
			}
		}
	}
	return api.OK
}

// find is Find as the chapter defines it.
func find(l []api.Subject, name string) (api.Subject, bool) {
	for _, s := range l {
		if match.Matches(s.Filter, name) {
			return s, true
		}
	}
	return api.Subject{}, false
}

// admits is Admits as the chapter defines it.
func admits(l []api.Subject, m api.Message) api.Errno {
	s, found := find(l, m.Topic)
	if !found || len(s.Versions) == 0 || schema.Accepts(s.Versions[len(s.Versions)-1], m.Payload) {
		return api.OK
	}
	return api.ErrSchema
}

// checkList compares Check with its definition and with what is expected.
func checkList(t *testing.T, l []api.Subject, want api.Errno) {
	t.Helper()
	if def := check(l); def != want {
		t.Fatalf("by definition, Check of %s = %d, want %d", show(l), def, want)
	}
	if got := registry.Check(l); got != want {
		t.Errorf("Check of %s = %d, want %d", show(l), got, want)
	}
}

// add returns the list with another subject.
func add(t *testing.T, l []api.Subject, name, filter string, mode int) []api.Subject {
	t.Helper()
	out, code := registry.Add(l, name, filter, mode)
	if code != api.OK {
		t.Fatalf("Add(%q, %q, %d) = %d", name, filter, mode, code)
	}
	return out
}

// register calls Register with a notation, and returns the list, which is the old one if there is an error.
func register(t *testing.T, l []api.Subject, name, notation string, number int, want api.Errno) []api.Subject {
	t.Helper()
	out, got, code := registry.Register(l, name, parsed(t, notation))
	if got != number || code != want {
		t.Errorf("Register(%q, %q) = %d, %d, want %d, %d", name, notation, got, code, number, want)
	}
	if code == api.OK {
		return out
	}
	if len(out) > 0 {
		t.Errorf("Register(%q, %q) with an error = %s", name, notation, show(out))
	}
	return l
}

// checkAdmits compares Admits with its definition and with what is expected.
func checkAdmits(t *testing.T, l []api.Subject, name, payload string, want api.Errno) {
	t.Helper()
	m := api.Message{Topic: name, Payload: payload}
	if def := admits(l, m); def != want {
		t.Fatalf("by definition, Admits of %q to %q = %d, want %d", payload, name, def, want)
	}
	if got := registry.Admits(l, m); got != want {
		t.Errorf("Admits of %q to %q = %d, want %d", payload, name, got, want)
	}
}

// P23.3 to P23.5, the example 1
func TestExampleOfBackward(t *testing.T) {
	l := add(t, nil, "s", "a/#", api.ModeBackward)
	checkAdmits(t, l, "a/x", "{b:2}", api.OK)
	l = register(t, l, "s", "{a: int}", 1, api.OK)
	l = register(t, l, "s", "{a: int, b: int}", 0, api.ErrCompatible)
	l = register(t, l, "s", "{a: int, b?: int}", 2, api.OK)
	if want := []api.Subject{subject("s", "a/#", api.ModeBackward, parsedAll(t, "{a: int}", "{a: int, b?: int}")...)}; show(l) != show(want) {
		t.Errorf("the list is %s, want %s", show(l), show(want))
	}
	checkAdmits(t, l, "a/x", "{a:1,b:2}", api.OK)
	checkAdmits(t, l, "a/x", "{a:1}", api.OK)
	checkAdmits(t, l, "a/x", "{b:2}", api.ErrSchema)
	checkAdmits(t, l, "a", "{b:2}", api.ErrSchema)
	checkAdmits(t, l, "a/x", "", api.ErrSchema)
	for _, payload := range []string{"{b:2}", "{a:1}", "", "any payload"} {
		checkAdmits(t, l, "b", payload, api.OK)
	}
}

// P23.2 to P23.5, the examples 2 to 4
func TestExamples(t *testing.T) {
	l := add(t, nil, "s", "#", api.ModeForward)
	l = register(t, l, "s", "{a: int, b?: int}", 1, api.OK)
	register(t, l, "s", "{a: int, b: int, c: int}", 0, api.ErrCompatible)
	register(t, l, "s", "{a: int}", 2, api.OK)

	l = add(t, l, "t", "a/#", api.ModeNone)
	if s, found := registry.Find(l, "a/b"); !found || show(s) != show(l[0]) {
		t.Errorf("Find of a/b = %s, %v", show(s), found)
	}
	if s, found := registry.Find(l, "$sys"); found || show(s) != show(api.Subject{}) {
		t.Errorf("Find of $sys = %s, %v", show(s), found)
	}

	for _, c := range []struct {
		name, filter string
		mode         int
		want         api.Errno
	}{{"S", "a", 9, api.ErrName}, {"s", "a/#/b", 1, api.ErrExists}, {"u", "a/#/b", 9, api.ErrFilter}, {"u", "a", 9, api.ErrKind}} {
		if out, code := registry.Add(l, c.name, c.filter, c.mode); code != c.want || len(out) > 0 {
			t.Errorf("Add(%q, %q, %d) = %s, %d, want %d", c.name, c.filter, c.mode, show(out), code, c.want)
		}
	}
}

// P23.2: each mode, with schemas of which one, both or none includes the other one
func TestCompatible(t *testing.T) {
	for _, c := range []struct {
		old, next     string
		back, forward bool
	}{
		{"int 0..5", "int 0..5", true, true}, {"int 0..5", "int 0..6", true, false}, {"int 0..5", "int 1..5", false, true}, {"int 0..5", "int 1..6", false, false},
		{"{a: int}", "{a: int, b?: int}", true, false}, {"{a: int, b?: int}", "{a: int}", false, true}, {"{a: int}", "{a: int, b: int}", false, false},
		{"enum(a)", "text", true, false}, {"any", "bool", false, true}, {"any", "any", true, true}, {"bool", "int", false, false}, {"list 0..0 of int", "list 0..0 of bool", true, true},
	} {
		old, next := parsed(t, c.old), parsed(t, c.next)
		want := map[int]bool{api.ModeNone: true, api.ModeBackward: c.back, api.ModeForward: c.forward, api.ModeFull: c.back && c.forward}
		for _, mode := range slices.Concat(modes, noModes) {
			if got := registry.Compatible(mode, old, next); got != want[mode] {
				t.Errorf("Compatible(%d, %s, %s) = %v, want %v", mode, c.old, c.next, got, want[mode])
			}
		}
	}
}

// names, filters and kinds are values of the fields of a subject, with the errors that they are for a list that has the subjects here and there.
func names() map[string]api.Errno {
	return map[string]api.Errno{
		"s": api.OK, "a-9": api.OK, "her": api.OK, strings.Repeat("x", api.MaxName): api.OK,
		"here": api.ErrExists, "there": api.ErrExists,
		"": api.ErrName, "S": api.ErrName, "9": api.ErrName, "here/": api.ErrName, "*": api.ErrName, strings.Repeat("x", api.MaxName+1): api.ErrName,
	}
}

func filters() map[string]api.Errno {
	return map[string]api.Errno{
		"a": api.OK, "#": api.OK, "a/+/#": api.OK, "$sys/#": api.OK, "/": api.OK, "here": api.OK, strings.Repeat("x", api.MaxTopic): api.OK,
		"": api.ErrFilter, "a/#/b": api.ErrFilter, "a+": api.ErrFilter, "\x00": api.ErrFilter, strings.Repeat("x", api.MaxTopic+1): api.ErrFilter, "a/b/c/d/e/f/g/h/i": api.ErrFilter,
	}
}

func kinds() map[int]api.Errno {
	all := map[int]api.Errno{}
	for _, mode := range modes {
		all[mode] = api.OK
	}
	for _, mode := range noModes {
		all[mode] = api.ErrKind
	}
	return all
}

// hereAndThere is a list with two subjects.
func hereAndThere(t *testing.T) []api.Subject {
	return []api.Subject{subject("there", "b/+", api.ModeFull, parsedAll(t, "any", "any")...), subject("here", "b/#", api.ModeNone)}
}

// P23.1 and P23.3: every combination of names, filters and modes, which shows the order of the errors
func TestNewSubject(t *testing.T) {
	l := hereAndThere(t)
	for name, e := range names() {
		for filter, f := range filters() {
			for mode, k := range kinds() {
				want := cmp.Or(e, f, k)
				full := append(slices.Clone(l), subject(name, filter, mode))
				checkList(t, full, want)
				out, code := registry.Add(l, name, filter, mode)
				if code != want || want == api.OK && show(out) != show(full) || want != api.OK && len(out) > 0 {
					t.Errorf("Add(%q, %q, %d) = %s, %d, want %d", name, filter, mode, show(out), code, want)
				}
			}
		}
	}
}

// many returns so many subjects.
func many(count int) []api.Subject {
	var l []api.Subject
	for i := range count {
		l = append(l, subject("s"+string([]byte{byte('a' + i/26), byte('z' - i%26)}), "a/#", api.ModeNone))
	}
	return l
}

// P23.1 and P23.3: the number of subjects is limited; Add names the other errors first
func TestManySubjects(t *testing.T) {
	checkList(t, many(api.MaxList), api.OK)
	checkList(t, many(api.MaxList+1), api.ErrTooLong)
	checkList(t, make([]api.Subject, api.MaxList), api.ErrName)
	checkList(t, make([]api.Subject, api.MaxList+1), api.ErrTooLong)
	l := many(api.MaxList - 1)
	l = add(t, l, "last", "a/b", api.ModeFull)
	if want := append(many(api.MaxList-1), subject("last", "a/b", api.ModeFull)); show(l) != show(want) {
		t.Errorf("the list is %s", show(l))
	}
	for _, c := range []struct {
		name, filter string
		mode         int
		want         api.Errno
	}{{"t", "a", 1, api.ErrFull}, {"t", "a", 5, api.ErrKind}, {"t", "", 1, api.ErrFilter}, {"last", "a", 1, api.ErrExists}, {"", "a", 1, api.ErrName}} {
		if out, code := registry.Add(l, c.name, c.filter, c.mode); code != c.want || len(out) > 0 {
			t.Errorf("Add(%q, %q, %d) = %d, want %d", c.name, c.filter, c.mode, code, c.want)
		}
	}
}

// badTypes returns types that are no schemas, with the errors of schema.Check.
func badTypes() map[api.Errno]api.Type {
	deep := api.Type{Kind: api.TypeAny}
	for range api.MaxDepth {
		deep = api.Type{Kind: api.TypeList, Max: 1, Of: []api.Type{deep}}
	}
	return map[api.Errno]api.Type{
		api.ErrDepth:   deep,
		api.ErrKind:    {Kind: 8},
		api.ErrField:   {Kind: api.TypeBool, Min: 1},
		api.ErrRange:   {Kind: api.TypeInt, Min: 2, Max: 1},
		api.ErrTooLong: {Kind: api.TypeEnum, Options: make([]string, api.MaxOptions+1)},
		api.ErrName:    {Kind: api.TypeEnum, Options: []string{"A"}},
		api.ErrOrder:   {Kind: api.TypeEnum, Options: []string{"b", "a"}},
	}
}

// P23.1: the versions, and the order of their errors
func TestCheckVersions(t *testing.T) {
	l := parsedAll(t, "int 0..1", "int 0..2", "bool")
	narrow, wide, other := l[0], l[1], l[2]
	strict := []int{api.ModeBackward, api.ModeForward, api.ModeFull}
	for code, bad := range badTypes() {
		for _, mode := range modes {
			checkList(t, []api.Subject{subject("s", "a", mode, bad)}, code)
			checkList(t, []api.Subject{subject("s", "a", mode, narrow, narrow, bad)}, code)
			checkList(t, []api.Subject{subject("s", "a", mode, narrow, bad, other)}, code)
			checkList(t, []api.Subject{subject("s", "a", mode, bad, narrow, other), subject("S", "a", mode)}, code)
			checkList(t, []api.Subject{subject("s", "a", mode), subject("t", "a", mode, bad)}, code)
			checkList(t, []api.Subject{subject("s", "a", 5, bad)}, api.ErrKind)
			checkList(t, []api.Subject{subject("s", "", mode, bad)}, api.ErrFilter)
			checkList(t, []api.Subject{subject("s", "a", mode), subject("s", "a", mode, bad)}, api.ErrExists)
			checkList(t, []api.Subject{subject("S", "a", mode, bad)}, api.ErrName)
		}
		for _, mode := range strict {
			checkList(t, []api.Subject{subject("s", "a", mode, narrow, other, bad)}, api.ErrCompatible)
		}
	}
	for _, mode := range strict {
		checkList(t, []api.Subject{subject("s", "a", mode, narrow, other)}, api.ErrCompatible)
		checkList(t, []api.Subject{subject("s", "a", mode, narrow, narrow, other), subject("S", "a", mode)}, api.ErrCompatible)
		checkList(t, []api.Subject{subject("s", "a", mode, narrow, wide, narrow)}, api.ErrCompatible)
	}
	checkList(t, []api.Subject{subject("s", "a", api.ModeNone, narrow, other, wide, other)}, api.OK)
	checkList(t, []api.Subject{subject("s", "a", api.ModeBackward, narrow, wide, wide)}, api.OK)
	checkList(t, []api.Subject{subject("s", "a", api.ModeForward, narrow, wide)}, api.ErrCompatible)
	checkList(t, []api.Subject{subject("s", "a", api.ModeForward, wide, narrow, narrow)}, api.OK)
	checkList(t, []api.Subject{subject("s", "a", api.ModeBackward, wide, narrow)}, api.ErrCompatible)
	checkList(t, []api.Subject{subject("s", "a", api.ModeFull, wide, wide)}, api.OK)
	checkList(t, []api.Subject{subject("s", "a", api.ModeFull, narrow, wide)}, api.ErrCompatible)
	checkList(t, nil, api.OK)
}

// P23.1: the number of versions is limited, whatever they are
func TestCheckManyVersions(t *testing.T) {
	one := parsedAll(t, "{a: int}")
	for _, mode := range modes {
		checkList(t, []api.Subject{subject("s", "a", mode, slices.Repeat(one, api.MaxOptions)...)}, api.OK)
		checkList(t, []api.Subject{subject("s", "a", mode, slices.Repeat(one, api.MaxOptions+1)...)}, api.ErrTooLong)
		checkList(t, []api.Subject{subject("s", "a", mode, make([]api.Type, api.MaxOptions)...)}, api.ErrKind)
		checkList(t, []api.Subject{subject("s", "a", mode, make([]api.Type, api.MaxOptions+1)...)}, api.ErrTooLong)
		checkList(t, []api.Subject{subject("s", "a", 9, make([]api.Type, api.MaxOptions+1)...)}, api.ErrKind)
	}
}

// P23.4: the errors in their order, of subjects without versions, with some, and with all that there may be
func TestRegisterErrors(t *testing.T) {
	int1 := parsed(t, "int 0..1")
	for _, mode := range modes {
		for _, count := range []int{0, 1, api.MaxOptions - 1, api.MaxOptions} {
			l := []api.Subject{subject("r", "b", api.ModeNone, int1), subject("s", "a", mode, slices.Repeat([]api.Type{int1}, count)...), subject("t", "a", mode)}
			types := badTypes()
			types[api.OK] = int1
			if count > 0 && mode != api.ModeNone {
				types[api.ErrCompatible] = parsed(t, "bool")
			}
			for want, x := range types {
				if count == api.MaxOptions && (want == api.OK || want == api.ErrCompatible) {
					want = api.ErrFull
				}
				out, number, code := registry.Register(l, "s", x)
				if code != want || code != api.OK && (len(out) > 0 || number != 0) {
					t.Errorf("Register of %s after %d versions in the mode %d = %s, %d, %d, want %d", show(x), count, mode, show(out), number, code, want)
				}
				if out, number, code := registry.Register(l, "u", x); code != api.ErrNotFound || number != 0 || len(out) > 0 {
					t.Errorf("Register for no subject = %s, %d, %d", show(out), number, code)
				}
			}
		}
	}
}

// P23.4: the new version is the last one of its subject, nothing else changes, and only the last one counts
func TestRegister(t *testing.T) {
	l := []api.Subject{subject("t", "b", api.ModeFull, parsed(t, "any")), subject("s", "a", api.ModeBackward), subject("r", "c", api.ModeNone)}
	var versions []api.Type
	for i := range api.MaxOptions {
		notation := "int 0.." + show(i+1)
		versions = append(versions, parsed(t, notation))
		l = register(t, l, "s", notation, i+1, api.OK)
		want := []api.Subject{subject("t", "b", api.ModeFull, parsed(t, "any")), subject("s", "a", api.ModeBackward, versions...), subject("r", "c", api.ModeNone)}
		if show(l) != show(want) || registry.Check(l) != api.OK {
			t.Fatalf("the list is %s, want %s", show(l), show(want))
		}
		checkAdmits(t, l, "a", show(i+1), api.OK)
		checkAdmits(t, l, "a", show(i+2), api.ErrSchema)
		if i > 0 && i < api.MaxOptions-1 {
			register(t, l, "s", "int 0.."+show(i), 0, api.ErrCompatible)
		}
	}
	register(t, l, "s", "any", 0, api.ErrFull)
	register(t, l, "", "any", 0, api.ErrNotFound)
	register(t, nil, "s", "any", 0, api.ErrNotFound)
	free := register(t, l, "r", "int", 1, api.OK)
	free = register(t, free, "r", "bool", 2, api.OK)
	free = register(t, free, "r", "int", 3, api.OK)
	checkAdmits(t, free, "c", "true", api.ErrSchema)
	checkAdmits(t, free, "c", "3", api.OK)
}

// P23.5: the first subject that matches is found, and decides, also if it has no versions
func TestFirstSubject(t *testing.T) {
	num, truth := parsed(t, "int"), parsed(t, "bool")
	l := []api.Subject{subject("z", "a/+", api.ModeNone, truth, num), subject("y", "a/b", api.ModeNone, truth), subject("x", "b/#", api.ModeNone), subject("w", "b/c", api.ModeNone, truth), subject("v", "$sys/#", api.ModeNone, truth), subject("u", "#", api.ModeFull, num)}
	for name, want := range map[string]string{"a/b": "z", "a/": "z", "a": "u", "a/b/c": "u", "b": "x", "b/c": "x", "$sys": "v", "$sys/a": "v", "$other": "", "": "", "a/#": "", "a/+": "", "#": "", "a\x00": "", strings.Repeat("x", api.MaxTopic+1): ""} {
		s, found := registry.Find(l, name)
		def, exists := find(l, name)
		if s.Name != want || found != (want != "") || show(s) != show(def) || found != exists {
			t.Errorf("Find(%q) = %s, %v, want %q", name, show(s), found, want)
		}
	}
	for _, c := range []struct {
		name, payload string
		want          api.Errno
	}{
		{"a/b", "1", api.OK}, {"a/b", "true", api.ErrSchema}, {"a/b", "", api.ErrSchema}, {"a/b", "01", api.ErrSchema}, {"b/c", "1", api.OK}, {"b/c", "anything", api.OK}, {"$sys/a", "true", api.OK}, {"$sys/a", "1", api.ErrSchema}, {"$other", "?", api.OK},
		{"c", "1", api.OK}, {"c", "true", api.ErrSchema}, {"", "?", api.OK}, {"a/#", "?", api.OK}, {"c", strings.Repeat("9", api.MaxText+1), api.ErrSchema},
	} {
		checkAdmits(t, l, c.name, c.payload, c.want)
	}
	if s, found := registry.Find(nil, "a"); found || show(s) != show(api.Subject{}) {
		t.Errorf("Find in an empty list = %s, %v", show(s), found)
	}
	checkAdmits(t, nil, "a", "?", api.OK)
}

// P23.5: messages need not be valid
func TestAdmitsInvalid(t *testing.T) {
	l := []api.Subject{subject("s", "a", api.ModeNone, parsed(t, "int"))}
	for payload, want := range map[string]api.Errno{"1": api.OK, "x": api.ErrSchema} {
		m := api.Message{Topic: "a", Payload: payload, Level: 7, Priority: -1, Expires: -1, From: "X", Seq: -1, Retain: true, Props: []api.Prop{{Key: "B"}, {Key: "A"}}}
		if got := registry.Admits(l, m); got != want {
			t.Errorf("Admits of %q = %d, want %d", payload, got, want)
		}
	}
}

// schemas returns schemas that are alike, so that some include others.
func schemas(t *testing.T) []api.Type {
	return parsedAll(t, "any", "int", "int 0..1", "int 0..2", "int 1..2", "text", "text 1..1", "text 1..2", "bool", "enum(a)", "enum(a|b)", "{}", "{a: int}", "{a?: int}", "{a: int, b?: int}", "{a?: int, b?: any}", "{a: int, b: int}", "list 0..1 of int", "list 0..2 of any", "list 0..0 of bool")
}

// payloads are notations of values that fit some of the schemas, and others.
var payloads = []string{"0", "1", "2", "3", "-1", `""`, `"a"`, `"b"`, `"c"`, `"ab"`, "true", "{}", "{a:1}", "{b:1}", "{a:1,b:1}", `{a:1,b:"x"}`, "{a:true}", "[]", "[1]", "[1,2]", "[true]", "[1,2,3]", "", "x", "{", "01"}

// P23.1 to P23.6: random calls, compared with the definitions. The lists stay valid, and the versions accept what their modes ask for.
func TestRandomCalls(t *testing.T) {
	r := rand.New(rand.NewSource(23))
	all := schemas(t)
	filters := []string{"a", "a/#", "a/+", "b", "+", "+/b", "#", "$s/#", "a/b", "a/#/b"}
	objects := []string{"a", "a/b", "a/c", "b", "b/b", "c", "$s", "$s/a", "", "+"}
	for range 300 {
		var l []api.Subject
		for range 40 {
			name, x := string([]byte{byte('a' + r.Intn(5))}), all[r.Intn(len(all))]
			if r.Intn(4) == 0 {
				l = randomAdd(t, l, name, filters[r.Intn(len(filters))], r.Intn(6))
			} else {
				l = randomRegister(t, l, name, x)
			}
		}
		checkList(t, l, api.OK)
		checkAccepted(t, l)
		for _, object := range objects {
			s, found := registry.Find(l, object)
			if def, exists := find(l, object); found != exists || show(s) != show(def) {
				t.Fatalf("Find(%q) in %s = %s, %v", object, show(l), show(s), found)
			}
			payload := payloads[r.Intn(len(payloads))]
			checkAdmits(t, l, object, payload, admits(l, api.Message{Topic: object, Payload: payload}))
		}
	}
}

// randomAdd compares Add with its definition, and returns the list that follows.
func randomAdd(t *testing.T, l []api.Subject, name, filter string, mode int) []api.Subject {
	t.Helper()
	want := append(slices.Clone(l), subject(name, filter, mode))
	code := check(want)
	out, got := registry.Add(l, name, filter, mode)
	if got != code || code == api.OK && show(out) != show(want) {
		t.Fatalf("Add(%q, %q, %d) to %s = %s, %d, want %d", name, filter, mode, show(l), show(out), got, code)
	}
	if code != api.OK {
		return l
	}
	return out
}

// randomRegister compares Register with its definition, and returns the list that follows.
func randomRegister(t *testing.T, l []api.Subject, name string, x api.Type) []api.Subject {
	t.Helper()
	want, number, code := slices.Clone(l), 0, api.ErrNotFound
	for i, s := range want {
		if s.Name == name {
			want[i].Versions = append(slices.Clone(s.Versions), x)
			number, code = len(want[i].Versions), check(want)
			if number > api.MaxOptions {
				code = api.ErrFull
			}
		}
	}
	out, n, got := registry.Register(l, name, x)
	if got != code || code == api.OK && (n != number || show(out) != show(want)) {
		t.Fatalf("Register(%q, %s) in %s = %s, %d, %d, want %d, %d", name, show(x), show(l), show(out), n, got, number, code)
	}
	if code != api.OK {
		return l
	}
	return out
}

// checkAccepted checks P23.6 for the versions of each subject.
func checkAccepted(t *testing.T, l []api.Subject) {
	t.Helper()
	for _, s := range l {
		for i, late := range s.Versions {
			for _, early := range s.Versions[:i] {
				for _, payload := range payloads {
					was, is := schema.Accepts(early, payload), schema.Accepts(late, payload)
					back, forth := s.Mode == api.ModeBackward || s.Mode == api.ModeFull, s.Mode == api.ModeForward || s.Mode == api.ModeFull
					if back && was && !is || forth && is && !was {
						t.Fatalf("in the mode %d, %s and %s accept %q: %v and %v", s.Mode, show(early), show(late), payload, was, is)
					}
				}
			}
		}
	}
}

// P23.6: a subject after another one whose filter covers its filter is never responsible
func TestCovered(t *testing.T) {
	levels := []string{"a", "b", "+", "$s"}
	var filters []string
	for _, x := range levels {
		filters = append(filters, x, x+"/#")
		for _, y := range levels {
			filters = append(filters, x+"/"+y, x+"/"+y+"/#")
		}
	}
	filters = append(filters, "#")
	topics := []string{"a", "b", "c", "$s", "a/a", "a/b", "a/c", "b/a", "$s/a", "$s/$s", "a/b/c", "c/a/b", "$s/a/b"}
	covered := 0
	for _, f := range filters {
		for _, g := range filters {
			if !match.Covers(f, g) {
				continue
			}
			covered++
			l := add(t, add(t, nil, "y", f, api.ModeNone), "x", g, api.ModeNone)
			for _, name := range topics {
				if s, _ := registry.Find(l, name); s.Name == "x" {
					t.Errorf("%q is responsible for %q after %q", g, name, f)
				}
			}
		}
	}
	if covered < 100 {
		t.Errorf("only %d filters are covered", covered)
	}
}

// spoil overwrites the lists of types, also behind their ends.
func spoil(l []api.Type) {
	for _, x := range l[:cap(l)] {
		for _, f := range x.Fields[:cap(x.Fields)] {
			spoil([]api.Type{f.Type})
		}
		spoil(x.Of)
		clear(x.Options[:cap(x.Options)])
		clear(x.Fields[:cap(x.Fields)])
	}
	clear(l[:cap(l)])
}

// spoilList overwrites a list of subjects, also behind its end.
func spoilList(l []api.Subject) {
	for _, s := range l[:cap(l)] {
		spoil(s.Versions)
	}
	clear(l[:cap(l)])
}

// rich is the notation of a schema with lists of all sorts.
const rich = "{a: {b: enum(x|y), c?: list 0..2 of enum(x|y)}, d: enum(x|y)}"

// roomy returns a list with room behind its end and behind the ends of its versions, which has something there.
func roomy(t *testing.T) []api.Subject {
	versions := parsedAll(t, rich, rich, "bool", "bool")
	return []api.Subject{subject("s", "a", api.ModeNone, versions[:2]...), subject("t", "b", api.ModeNone, parsedAll(t, rich, "int")[:1]...), subject("u", "c", api.ModeFull), subject("v", "d", api.ModeNone)}[:2]
}

// behind shows a list and what is behind its ends.
func behind(l []api.Subject) string {
	out := show(l[:cap(l)])
	for _, s := range l {
		out += show(s.Versions[:cap(s.Versions)])
	}
	return out
}

// R5: arguments are not changed, and results share no memory with them
func TestMemory(t *testing.T) {
	x, before := parsed(t, rich), behind(roomy(t))
	for i, result := range []func(l []api.Subject) []api.Subject{
		func(l []api.Subject) []api.Subject { return add(t, l, "w", "a", api.ModeNone) },
		func(l []api.Subject) []api.Subject { out, _, _ := registry.Register(l, "s", x); return out },
		func(l []api.Subject) []api.Subject { out, _, _ := registry.Register(l, "t", x); return out },
		func(l []api.Subject) []api.Subject { s, _ := registry.Find(l, "a"); return []api.Subject{s} },
		func(l []api.Subject) []api.Subject { s, _ := registry.Find(l, "b"); return []api.Subject{s} },
		func(l []api.Subject) []api.Subject { registry.Check(l); return nil },
		func(l []api.Subject) []api.Subject {
			registry.Admits(l, api.Message{Topic: "a", Payload: "1"})
			return nil
		},
	} {
		l := roomy(t)
		out := result(l)
		if behind(l) != before {
			t.Errorf("case %d: the argument is changed: %s", i, behind(l))
		}
		spoilList(out)
		if behind(l) != before || show(x) != show(parsed(t, rich)) {
			t.Errorf("case %d: the argument shares memory with the result: %s", i, behind(l))
		}
	}
}

// R5: what is registered shares no memory within the result
func TestMemoryWithin(t *testing.T) {
	options := []string{"x", "y"}
	list := []api.Type{{Kind: api.TypeEnum, Options: options}}
	inner := api.Type{Kind: api.TypeList, Max: 2, Of: list}
	x := api.Type{Kind: api.TypeRecord, Fields: []api.Field{{Name: "a", Type: inner}, {Name: "b", Type: inner}, {Name: "c", Type: list[0]}}}
	l := add(t, add(t, nil, "s", "a", api.ModeNone), "t", "b", api.ModeNone)
	for _, name := range []string{"s", "s", "t", "t"} {
		l, _, _ = registry.Register(l, name, x)
	}
	want := show(x)
	spoil(l[0].Versions[:1:1])
	spoil(l[1].Versions[1:])
	fields := l[0].Versions[1].Fields
	if show(l[0].Versions[1]) != want || show(l[1].Versions[0]) != want || show(x) != want {
		t.Fatalf("the versions share memory: %s", show(l))
	}
	spoil([]api.Type{fields[0].Type})
	if show(fields[1].Type) != show(inner) || show(fields[2].Type) != show(list[0]) {
		t.Errorf("the fields share memory: %s", show(fields))
	}
}

// R1: every call returns, also with lists that are not valid, and with types without end
func TestInvalid(t *testing.T) {
	round := make([]api.Type, 2)
	round[0] = api.Type{Kind: api.TypeList, Max: 1, Of: round}
	round[1] = api.Type{Kind: api.TypeRecord, Fields: []api.Field{{Name: "a", Type: round[0]}, {Name: "b", Type: round[0]}}}
	versions := append(slices.Clone(round), badTypes()[api.ErrName], badTypes()[api.ErrDepth], api.Type{Kind: api.TypeBool, Of: round}, api.Type{Kind: -1})
	var l []api.Subject
	for i := range api.MaxList + 8 {
		l = append(l, subject([]string{"", "s", "t", "S"}[i%4], []string{"a", "", "#/a", "a/+"}[i/4%4], i-2, versions[i%7:]...))
	}
	registry.Check(l)
	for _, name := range []string{"", "s", "t", "u", "S", "a", "a/b", "#"} {
		registry.Add(l, name, name, len(name))
		registry.Find(l, name)
		registry.Admits(l, api.Message{Topic: name, Payload: "[]"})
		for _, x := range versions {
			registry.Register(l, name, x)
			registry.Register(l, name, api.Type{Kind: api.TypeAny})
			for mode := range 6 {
				registry.Compatible(mode, x, round[1])
				registry.Compatible(mode, round[0], x)
			}
		}
	}
	if _, number, code := registry.Register([]api.Subject{subject("s", "a", api.ModeNone)}, "s", round[0]); number != 0 || code != api.ErrDepth {
		t.Errorf("Register of a type without end = %d, %d", number, code)
	}
}
