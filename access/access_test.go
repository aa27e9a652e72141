package access_test

import (
	"math"
	"math/rand"
	"slices"
	"strings"
	"testing"

	"broker/access"
	"broker/api"
	"broker/match"
	"broker/topic"
)

// allow and forbid return a rule for a user and an action.
func allow(user string, action int, filter string) api.Rule {
	return api.Rule{Allow: true, User: user, Action: action, Filter: filter}
}

func forbid(user string, action int, filter string) api.Rule {
	return api.Rule{User: user, Action: action, Filter: filter}
}

// who returns a client and its user.
func who(client, user string) api.Who { return api.Who{Client: client, User: user} }

// expand is Expand as the chapter defines it, byte by byte.
func expand(filter string, w api.Who) string {
	out, level := "", ""
	for _, c := range []byte(filter + "/") {
		if c != '/' {
			level += string([]byte{c})
			continue
		}
		switch level {
		case "%c":
			level = w.Client
		case "%u":
			level = w.User
		}
		out, level = out+level+"/", ""
	}
	return out[:len(out)-1]
}

// isFor reports whether a rule is for a user and an action, as the chapter defines it.
func isFor(r api.Rule, user string, action int) bool {
	if r.User != "*" && r.User != user {
		return false
	}
	return r.Action == 0 || r.Action == action
}

// allowed is Allowed as the chapter defines it.
func allowed(l []api.Rule, w api.Who, action int, object string) bool {
	for _, r := range l {
		if isFor(r, w.User, action) && match.Matches(expand(r.Filter, w), object) {
			return r.Allow
		}
	}
	return false
}

// subscribes is Subscribes as the chapter defines it.
func subscribes(l []api.Rule, w api.Who, filter string) bool {
	for _, r := range l {
		if !isFor(r, w.User, api.ActSubscribe) {
			continue
		}
		if f := expand(r.Filter, w); match.Meets(f, filter) {
			return r.Allow && match.Covers(f, filter)
		}
	}
	return false
}

// replaced reports whether a filter has a level that is replaced.
func replaced(filter string) bool {
	padded := "/" + filter + "/"
	return strings.Contains(padded, "/%c/") || strings.Contains(padded, "/%u/")
}

// shadowed is Shadowed as the chapter defines it.
func shadowed(l []api.Rule) []int {
	var out []int
	for i, r := range l {
		for _, e := range l[:i] {
			users, actions := e.User == "*" || e.User == r.User, e.Action == 0 || e.Action == r.Action
			filters := match.Covers(e.Filter, r.Filter) && (e.Filter == r.Filter || !replaced(e.Filter) && !replaced(r.Filter))
			if users && actions && filters {
				out = append(out, i)
				break
			}
		}
	}
	return out
}

// checkAllowed compares Allowed with its definition and with what is expected.
func checkAllowed(t *testing.T, l []api.Rule, w api.Who, action int, object string, want bool) {
	t.Helper()
	if def := allowed(l, w, action, object); def != want {
		t.Fatalf("by definition, %v allows %+v the action %d on %q: %v", l, w, action, object, def)
	}
	if got := access.Allowed(l, w, action, object); got != want {
		t.Errorf("%v allows %+v the action %d on %q: %v", l, w, action, object, got)
	}
}

// checkSubscribes compares Subscribes with its definition and with what is expected.
func checkSubscribes(t *testing.T, l []api.Rule, w api.Who, filter string, want bool) {
	t.Helper()
	if def := subscribes(l, w, filter); def != want {
		t.Fatalf("by definition, by %v %+v subscribes to %q: %v", l, w, filter, def)
	}
	if got := access.Subscribes(l, w, filter); got != want {
		t.Errorf("by %v %+v subscribes to %q: %v", l, w, filter, got)
	}
}

// checkShadowed compares Shadowed with its definition and with what is expected.
func checkShadowed(t *testing.T, l []api.Rule, want ...int) {
	t.Helper()
	if def := shadowed(l); !slices.Equal(def, want) {
		t.Fatalf("by definition, of %v these are shadowed: %v", l, def)
	}
	if got := access.Shadowed(l); !slices.Equal(got, want) {
		t.Errorf("Shadowed of %v = %v, want %v", l, got, want)
	}
}

// P20.3 and P20.4, the example 1
func TestExampleOfRules(t *testing.T) {
	l := []api.Rule{forbid("*", api.ActPublish, "$sys/#"), allow("u", api.ActPublish, "home/%u/#"), allow("*", api.ActSubscribe, "home/+/temp")}
	u, v := who("c", "u"), who("d", "v")
	for object, want := range map[string]bool{"home/u": true, "home/u/x": true, "home/v": false, "$sys/a": false, "home": false, "home/c": false} {
		checkAllowed(t, l, u, api.ActPublish, object, want)
		checkAllowed(t, l, v, api.ActPublish, object, false)
		checkAllowed(t, l, u, api.ActConsume, object, false)
	}
	for _, w := range []api.Who{u, v, who("", "")} {
		for filter, want := range map[string]bool{"home/a/temp": true, "home/+/temp": true, "home/#": false, "home/+/+": false, "home/u": false, "#": false} {
			checkSubscribes(t, l, w, filter, want)
		}
	}
}

// P20.1 to P20.5, the examples 2 to 5
func TestExamples(t *testing.T) {
	if got := access.Expand("a/%c/%u/%c%u", who("c", "u")); got != "a/c/u/%c%u" {
		t.Errorf("Expand = %q", got)
	}
	if got := access.Expand("a/%c/%u/%c%u", who("%u", "u")); got != "a/%u/u/%c%u" {
		t.Errorf("Expand for the client %%u = %q", got)
	}
	checkShadowed(t, []api.Rule{forbid("*", 0, "a/#"), allow("u", 1, "a/b")}, 1)
	checkShadowed(t, []api.Rule{allow("*", 1, "%c/#"), allow("*", 1, "a/b")})
	checkShadowed(t, []api.Rule{allow("*", 1, "%c/#"), forbid("*", 1, "%c/#")}, 1)
	checkSubscribes(t, []api.Rule{allow("*", 2, "$sys/#"), allow("*", 2, "#")}, who("c", "u"), "#", true)
	for _, x := range []struct {
		l    []api.Rule
		code api.Errno
	}{
		{[]api.Rule{allow("**", 1, "a")}, api.ErrName}, {[]api.Rule{allow("*", 5, "a")}, api.ErrKind}, {[]api.Rule{allow("*", 1, "a/#/b")}, api.ErrFilter},
		{make([]api.Rule, api.MaxList+1), api.ErrTooLong}, {slices.Repeat([]api.Rule{allow("*", 1, "a")}, api.MaxList+1), api.ErrTooLong},
	} {
		if code := access.Check(x.l); code != x.code {
			t.Errorf("Check of %v = %d, want %d", x.l, code, x.code)
		}
	}
}

// ruleError is the error of a rule for itself, as the chapter defines it.
func ruleError(r api.Rule) api.Errno {
	switch {
	case r.User != "*" && !topic.Name(r.User):
		return api.ErrName
	case r.Action != 0 && r.Action != 1 && r.Action != 2 && r.Action != 3 && r.Action != 4:
		return api.ErrKind
	case !topic.Filter(r.Filter):
		return api.ErrFilter
	}
	return api.OK
}

// P20.1: every combination of users, actions and filters, which shows the order of the errors
func TestCheckRule(t *testing.T) {
	users := map[string]bool{"*": true, "u": true, "a-9": true, strings.Repeat("x", api.MaxName): true, "": false, "**": false, "U": false, "9": false, "%u": false, "+": false, "#": false, "a/b": false, strings.Repeat("x", api.MaxName+1): false}
	actions := map[int]bool{0: true, api.ActPublish: true, api.ActSubscribe: true, api.ActConsume: true, api.ActAdmin: true, -1: false, 5: false, math.MinInt: false, math.MaxInt: false}
	filters := map[string]bool{
		"a": true, "#": true, "+": true, "/": true, "a/+/#": true, "$sys/#": true, "%c": true, "%u/#": true, "a/%c%u": true, "$share/g/a": true, strings.Repeat("x", api.MaxTopic): true, "a/b/c/d/e/f/g/h": true, "\xff": true,
		"": false, "a+": false, "a/#/b": false, "#/": false, "\x00": false, "%c+": false, strings.Repeat("x", api.MaxTopic+1): false, "a/b/c/d/e/f/g/h/i": false,
	}
	good := []api.Rule{forbid("*", 0, "#"), allow("u", 4, "%u/#")}
	for user, name := range users {
		for action, kind := range actions {
			for filter, ok := range filters {
				want := api.OK
				switch {
				case !name:
					want = api.ErrName
				case !kind:
					want = api.ErrKind
				case !ok:
					want = api.ErrFilter
				}
				for _, r := range []api.Rule{allow(user, action, filter), forbid(user, action, filter)} {
					if def := ruleError(r); def != want {
						t.Fatalf("by definition, the error of %+v is %d, not %d", r, def, want)
					}
					for _, l := range [][]api.Rule{{r}, append(slices.Clone(good), r), append([]api.Rule{r}, good...)} {
						if code := access.Check(l); code != want {
							t.Errorf("Check of %+v = %d, want %d", l, code, want)
						}
					}
				}
			}
		}
	}
}

// P20.1: the number of rules comes first, then rule by rule.
func TestCheckList(t *testing.T) {
	bad := []api.Rule{forbid("U", 9, "a#"), forbid("u", 9, "a#"), forbid("u", 0, "a#"), forbid("u", 0, "a")}
	for _, a := range bad {
		for _, b := range bad {
			want := ruleError(a)
			if want == api.OK {
				want = ruleError(b)
			}
			if code := access.Check([]api.Rule{a, b}); code != want {
				t.Errorf("Check of %+v and %+v = %d, want %d", a, b, code, want)
			}
		}
		for n := range api.MaxList + 3 {
			l := append(slices.Repeat([]api.Rule{allow("*", 0, "a")}, n), a)
			want := ruleError(a)
			if n >= api.MaxList {
				want = api.ErrTooLong
			}
			if code := access.Check(l); code != want {
				t.Errorf("Check of %+v after %d rules = %d, want %d", a, n, code, want)
			}
		}
	}
	for _, l := range [][]api.Rule{nil, {}} {
		if code := access.Check(l); code != api.OK {
			t.Errorf("Check of no rules = %d", code)
		}
	}
}

// P20.2
func TestExpand(t *testing.T) {
	w := who("cl", "us")
	for filter, want := range map[string]string{
		"": "", "%c": "cl", "%u": "us", "%c/%u": "cl/us", "%u/%c/%u": "us/cl/us", "/%c/": "/cl/", "//": "//", "a/b": "a/b", "+/%c/#": "+/cl/#", "$sys/%u": "$sys/us",
		"%": "%", "%%c": "%%c", "%c%u": "%c%u", "%C": "%C", "%U": "%U", "%cc": "%cc", "x%c": "x%c", "%c ": "%c ", "% c": "% c", "%d": "%d", "%c#/%u": "%c#/us", "\xff/%c/\x00": "\xff/cl/\x00",
		strings.Repeat("%c/", 500) + "%": strings.Repeat("cl/", 500) + "%",
	} {
		if got := access.Expand(filter, w); got != want {
			t.Errorf("Expand of %q = %q, want %q", filter, got, want)
		}
	}
	for _, x := range []struct {
		w    api.Who
		want string
	}{
		{who("", ""), "a////b"}, {who("%u", "%c"), "a/%u/%c/%u/b"}, {who("%c", "%u"), "a/%c/%u/%c/b"}, {who("%c/%u", "/"), "a/%c/%u///%c/%u/b"}, {who("+", "#"), "a/+/#/+/b"}, {who("x/y", "\x00"), "a/x/y/\x00/x/y/b"}, {who(strings.Repeat("c", 99), "u"), "a/" + strings.Repeat("c", 99) + "/u/" + strings.Repeat("c", 99) + "/b"},
	} {
		if got := access.Expand("a/%c/%u/%c/b", x.w); got != x.want {
			t.Errorf("Expand for %+v = %q, want %q", x.w, got, x.want)
		}
	}
}

// P20.2: texts of all kinds of pieces
func TestExpandPieces(t *testing.T) {
	r := rand.New(rand.NewSource(202))
	pieces := []string{"%c", "%u", "/", "/", "/", "%", "c", "u", "a", "+", "#", ""}
	text := func() string {
		s := ""
		for range r.Intn(9) {
			s += pieces[r.Intn(len(pieces))]
		}
		return s
	}
	for range 20000 {
		filter, w := text(), who(text(), text())
		if got, want := access.Expand(filter, w), expand(filter, w); got != want {
			t.Fatalf("Expand of %q for %+v = %q, want %q", filter, w, got, want)
		}
	}
}

// P20.3: the first rule that is for the user and the action and matches decides, not a later one.
func TestAllowedFirst(t *testing.T) {
	u, v := who("c", "u"), who("c", "v")
	l := []api.Rule{forbid("u", api.ActPublish, "a/b"), allow("*", api.ActPublish, "a/#"), forbid("*", 0, "a/+"), allow("v", 0, "#")}
	for _, x := range []struct {
		w      api.Who
		action int
		object string
		want   bool
	}{
		{u, api.ActPublish, "a/b", false}, {v, api.ActPublish, "a/b", true}, {u, api.ActPublish, "a/c", true}, {u, api.ActPublish, "a", true}, {u, api.ActPublish, "a/b/c", true}, {u, api.ActPublish, "b", false}, {v, api.ActPublish, "b", true},
		{u, api.ActSubscribe, "a", false}, {v, api.ActSubscribe, "a", true}, {v, api.ActSubscribe, "a/b", false}, {v, api.ActConsume, "a/b/c", true}, {v, api.ActAdmin, "q", true}, {u, api.ActAdmin, "q", false},
		{v, api.ActAdmin, "$sys", false}, {v, 0, "b", true}, {v, 0, "a/b", false}, {u, 0, "a/b/c", false}, {v, 5, "b", true}, {v, -1, "b", true}, {u, 77, "b", false}, {who("v", "c"), api.ActAdmin, "q", false}, {who("c", ""), api.ActPublish, "a/b", true}, {who("c", "*"), api.ActAdmin, "q", false},
	} {
		checkAllowed(t, l, x.w, x.action, x.object, x.want)
	}
}

// P20.3: each action has rules of its own; the action 0 of a rule is for every one.
func TestAllowedActions(t *testing.T) {
	for rule := range api.ActAdmin + 1 {
		for action := -1; action <= api.ActAdmin+1; action++ {
			want := rule == 0 || rule == action
			checkAllowed(t, []api.Rule{allow("*", rule, "a")}, who("c", "u"), action, "a", want)
			checkAllowed(t, []api.Rule{forbid("*", rule, "a"), allow("*", 0, "a")}, who("c", "u"), action, "a", !want)
		}
	}
}

// P20.3: nothing is allowed on what is not a topic name; and a filter that became too long, or has too many levels, matches nothing.
func TestAllowedObjects(t *testing.T) {
	everything := []api.Rule{allow("*", 0, "#"), allow("*", 0, "$sys/#"), allow("*", 0, "+/+")}
	for _, object := range []string{"", "+", "#", "a/+", "a/#", "a#", "\x00", strings.Repeat("x", api.MaxTopic+1), "a/b/c/d/e/f/g/h/i"} {
		checkAllowed(t, everything, who("c", "u"), api.ActPublish, object, false)
		checkAllowed(t, []api.Rule{allow("*", 0, "%c")}, who(object, "u"), api.ActPublish, object, false)
	}
	for _, object := range []string{"a", "/", "a//b", "$sys/x", "$sys", "\xff", strings.Repeat("x", api.MaxTopic), "a/b/c/d/e/f/g/h"} {
		checkAllowed(t, everything, who("c", "u"), api.ActPublish, object, true)
		checkAllowed(t, []api.Rule{allow("*", 0, "%c")}, who(object, "u"), api.ActPublish, object, true)
	}
	long := strings.Repeat("c", api.MaxName)
	checkAllowed(t, []api.Rule{allow("*", 0, "%c/%c/%c/+")}, who(long, "u"), api.ActPublish, strings.Repeat(long+"/", 3)+"abc", true)
	checkAllowed(t, []api.Rule{forbid("*", 0, "%c/%c/%c/%c/#"), allow("*", 0, "#")}, who(long, "u"), api.ActPublish, strings.Repeat(long+"/", 3)+"abc", true)
	checkAllowed(t, []api.Rule{forbid("*", 0, "%c/%c/%c/%c/#"), allow("*", 0, "#")}, who("c", "u"), api.ActPublish, "c/c/c/c/c", false)
	checkAllowed(t, []api.Rule{allow("*", 0, "%c/b/c/d/#")}, who("a/a", "u"), api.ActPublish, "a/a/b/c/d", true)
	checkAllowed(t, []api.Rule{allow("*", 0, "%c/b/c/d/e/f/g/#")}, who("a/a", "u"), api.ActPublish, "a/a/b/c/d/e/f/g", false)
}

// P20.3: the client and the user of a rule's filter are those who ask, and what is inserted may be a wildcard or another placeholder.
func TestAllowedExpanded(t *testing.T) {
	l := []api.Rule{allow("*", 1, "in/%c/%u"), forbid("*", 1, "%u"), allow("*", 1, "+")}
	for _, x := range []struct {
		w      api.Who
		object string
		want   bool
	}{
		{who("c", "u"), "in/c/u", true}, {who("c", "u"), "in/u/c", false}, {who("c", "u"), "in/%c/%u", false}, {who("%u", "u"), "in/u/u", false}, {who("%u", "u"), "in/%u/u", true}, {who("+", "#"), "in/x/y/z", true}, {who("+", "#"), "a", false},
		{who("c", "u"), "u", false}, {who("c", "u"), "v", true}, {who("u", "v"), "u", true}, {who("", ""), "in//", true}, {who("c", "$s"), "$s", false}, {who("c", "u"), "$s", false},
	} {
		checkAllowed(t, l, x.w, api.ActPublish, x.object, x.want)
	}
}

// P20.4: the first rule that meets the filter decides; it must cover it, too.
func TestSubscribes(t *testing.T) {
	w := who("c", "u")
	for _, x := range []struct {
		l      []api.Rule
		filter string
		want   bool
	}{
		{nil, "a", false}, {[]api.Rule{allow("*", 2, "a/#")}, "a/#", true}, {[]api.Rule{allow("*", 2, "a/#")}, "a", true}, {[]api.Rule{allow("*", 2, "a/#")}, "a/+/b", true}, {[]api.Rule{allow("*", 2, "a/+")}, "a/#", false}, {[]api.Rule{allow("*", 2, "a/+"), allow("*", 2, "a/#")}, "a/#", false},
		{[]api.Rule{forbid("*", 2, "a/b"), allow("*", 2, "a/#")}, "a/+", false}, {[]api.Rule{forbid("*", 2, "a/b"), allow("*", 2, "a/#")}, "a/c", true}, {[]api.Rule{forbid("*", 2, "a/b/c"), allow("*", 2, "a/#")}, "a/+", true}, {[]api.Rule{allow("*", 2, "a/#"), forbid("*", 2, "a/b")}, "a/b", true},
		{[]api.Rule{forbid("v", 2, "a/b"), allow("u", 2, "a/#")}, "a/+", true}, {[]api.Rule{forbid("u", 2, "a/b"), allow("u", 2, "a/#")}, "a/+", false}, {[]api.Rule{forbid("*", 1, "a/b"), forbid("*", 3, "a/b"), forbid("*", 4, "a/b"), allow("*", 2, "a/#")}, "a/+", true}, {[]api.Rule{forbid("*", 0, "a/b"), allow("*", 2, "a/#")}, "a/+", false},
		{[]api.Rule{allow("*", 0, "a/#")}, "a/+", true}, {[]api.Rule{allow("*", 1, "a/#"), allow("*", 3, "a/#"), allow("*", 4, "a/#")}, "a/+", false}, {[]api.Rule{allow("v", 2, "#")}, "a", false},
		{[]api.Rule{allow("*", 2, "in/%c/#")}, "in/c/+", true}, {[]api.Rule{allow("*", 2, "in/%c/#")}, "in/+/+", false}, {[]api.Rule{allow("*", 2, "in/%c/#")}, "in/%c/+", false}, {[]api.Rule{forbid("*", 2, "in/%u"), allow("*", 2, "in/+")}, "in/u", false}, {[]api.Rule{forbid("*", 2, "in/%u"), allow("*", 2, "in/+")}, "in/+", false}, {[]api.Rule{forbid("*", 2, "in/%u"), allow("*", 2, "in/+")}, "in/v", true},
		{[]api.Rule{allow("*", 2, "#")}, "$sys/#", false}, {[]api.Rule{allow("*", 2, "#"), allow("*", 2, "$sys/#")}, "$sys/#", true}, {[]api.Rule{forbid("*", 2, "$sys/#"), allow("*", 2, "#")}, "+/a", true}, {[]api.Rule{allow("*", 2, "+/#")}, "#", false},
		{[]api.Rule{allow("*", 0, "#")}, "", false}, {[]api.Rule{allow("*", 0, "#")}, "a/#/b", false}, {[]api.Rule{allow("*", 0, "#")}, "a+", false}, {[]api.Rule{allow("*", 0, "#")}, strings.Repeat("x", api.MaxTopic+1), false}, {[]api.Rule{allow("*", 0, "#")}, "a/b/c/d/e/f/g/h/i", false}, {[]api.Rule{allow("*", 0, "#")}, "a/b/c/d/e/f/g/#", true},
	} {
		checkSubscribes(t, x.l, w, x.filter, x.want)
	}
	long := strings.Repeat("c", api.MaxName)
	checkSubscribes(t, []api.Rule{forbid("*", 0, "%c/%c/%c/%c/#"), allow("*", 0, "#")}, who(long, "u"), "#", true)
	checkSubscribes(t, []api.Rule{forbid("*", 0, "%c/%c/%c/%c/#"), allow("*", 0, "#")}, who("c", "u"), "#", false)
}

// P20.5: the user, the action and the filter of an earlier rule, and placeholders
func TestShadowed(t *testing.T) {
	a := allow("u", 1, "a/b")
	for _, x := range []struct {
		earlier, later api.Rule
		want           bool
	}{
		{a, a, true}, {forbid("u", 1, "a/b"), a, true}, {a, forbid("u", 1, "a/b"), true}, {allow("*", 1, "a/b"), a, true}, {a, allow("*", 1, "a/b"), false}, {allow("v", 1, "a/b"), a, false}, {allow("*", 1, "a/b"), allow("*", 1, "a/b"), true},
		{allow("u", 0, "a/b"), a, true}, {a, allow("u", 0, "a/b"), false}, {allow("u", 2, "a/b"), a, false}, {allow("u", 0, "a/b"), allow("u", 0, "a/b"), true},
		{allow("u", 1, "a/+"), a, true}, {allow("u", 1, "a/#"), a, true}, {allow("u", 1, "#"), a, true}, {allow("u", 1, "+/+"), a, true}, {a, allow("u", 1, "a/+"), false}, {allow("u", 1, "+/c"), a, false}, {allow("u", 1, "a"), a, false}, {allow("u", 1, "#"), allow("u", 1, "$sys/a"), false}, {allow("u", 1, "+/#"), allow("u", 1, "#"), false},
		{allow("u", 1, "#"), allow("u", 1, "%c"), false}, {allow("u", 1, "+/#"), allow("u", 1, "a/%u"), false}, {allow("u", 1, "%c"), allow("u", 1, "%c"), true}, {allow("u", 1, "a/%u/#"), allow("u", 1, "a/%u/#"), true}, {allow("u", 1, "%u/#"), allow("u", 1, "%u/a"), false}, {allow("u", 1, "%c/#"), allow("u", 1, "x/a"), false}, {allow("u", 1, "%c"), allow("u", 1, "%u"), false}, {allow("v", 1, "%c"), allow("u", 1, "%c"), false}, {allow("u", 2, "%c"), allow("u", 1, "%c"), false}, {allow("*", 0, "%c"), allow("u", 1, "%c"), true},
		{allow("u", 1, "+"), allow("u", 1, "%c%u"), true}, {allow("u", 1, "+/#"), allow("u", 1, "%/x%c/%cc"), true}, {allow("u", 1, "%C/#"), allow("u", 1, "%C/a"), true}, {allow("u", 1, "a/#"), allow("u", 1, "a/%u"), false}, {allow("u", 1, "%u/+"), allow("u", 1, "%u/+"), true}, {allow("u", 1, "#"), allow("u", 1, "#"), true}, {allow("u", 1, "$sys/#"), allow("u", 1, "$sys/#"), true},
	} {
		var want []int
		if x.want {
			want = []int{1}
		}
		checkShadowed(t, []api.Rule{x.earlier, x.later}, want...)
	}
}

// P20.5: the indexes are in ascending order, each once, also of rules that are shadowed by shadowed ones, or by several.
func TestShadowedLists(t *testing.T) {
	checkShadowed(t, nil)
	checkShadowed(t, []api.Rule{allow("*", 0, "#")})
	checkShadowed(t, []api.Rule{allow("u", 1, "a"), allow("*", 0, "a"), forbid("u", 1, "a"), allow("v", 2, "b"), forbid("*", 0, "#"), allow("v", 2, "b"), allow("u", 1, "a")}, 2, 5, 6)
	checkShadowed(t, []api.Rule{allow("*", 0, "a/#"), allow("*", 0, "a/+"), allow("*", 0, "b"), allow("*", 0, "a/b"), allow("*", 0, "b/#"), allow("*", 0, "b")}, 1, 3, 5)
	l := slices.Repeat([]api.Rule{allow("*", 0, "%c/#")}, api.MaxList)
	var rest []int
	for i := 1; i < len(l); i++ {
		rest = append(rest, i)
	}
	checkShadowed(t, l, rest...)
}

// some returns a random valid list of rules of few users, actions and levels, so that they meet often.
func some(r *rand.Rand) []api.Rule {
	var l []api.Rule
	for range r.Intn(7) {
		l = append(l, api.Rule{Allow: r.Intn(2) == 0, User: pick(r, "*", "*", "u", "v"), Action: r.Intn(4), Filter: filter(r, "a", "b", "+", "%c", "%u", "$s", "a")})
	}
	return l
}

func pick(r *rand.Rand, l ...string) string { return l[r.Intn(len(l))] }

// filter returns a random filter of up to three levels.
func filter(r *rand.Rand, levels ...string) string {
	var l []string
	for range 1 + r.Intn(3) {
		l = append(l, pick(r, levels...))
	}
	if r.Intn(3) == 0 {
		l[len(l)-1] = "#"
	}
	return strings.Join(l, "/")
}

// names returns all topic names of one to three of some levels, and the filters that have wildcards, too.
func names(levels ...string) []string {
	all, last := []string(nil), []string{""}
	for range 3 {
		var next []string
		for _, s := range last {
			for _, level := range levels {
				next = append(next, s+level+"/")
			}
		}
		for _, s := range next {
			all = append(all, s[:len(s)-1])
		}
		last = next
	}
	return all
}

// P20.3 to P20.5: random rules, compared with the definitions. P20.6: a rule that is shadowed never decides, and who may subscribe to a filter may to each topic name that it matches.
func TestRandom(t *testing.T) {
	r := rand.New(rand.NewSource(20))
	objects := names("a", "b", "u", "$s")
	people := []api.Who{who("a", "u"), who("b", "v"), who("u", "u"), who("%u", "b"), who("+", "u"), who("", ""), who("a/b", "#")}
	for range 1500 {
		l := some(r)
		if code := access.Check(l); code != api.OK {
			t.Fatalf("Check of %v = %d", l, code)
		}
		out := shadowed(l)
		checkShadowed(t, l, out...)
		var fewer []api.Rule
		for i, x := range l {
			if !slices.Contains(out, i) {
				fewer = append(fewer, x)
			}
		}
		w := people[r.Intn(len(people))]
		for action := range api.ActConsume + 1 {
			object := pick(r, objects...)
			checkAllowed(t, l, w, action, object, allowed(l, w, action, object))
			if access.Allowed(l, w, action, object) != access.Allowed(fewer, w, action, object) {
				t.Fatalf("of %v the rules %v decide on %q", l, out, object)
			}
		}
		f := filter(r, "a", "b", "u", "+", "$s")
		checkSubscribes(t, l, w, f, subscribes(l, w, f))
		may := access.Subscribes(l, w, f)
		if may != access.Subscribes(fewer, w, f) {
			t.Fatalf("of %v the rules %v decide on the filter %q", l, out, f)
		}
		for _, object := range match.Select(f, objects) {
			if may && !access.Allowed(l, w, api.ActSubscribe, object) {
				t.Fatalf("%v allows %+v the filter %q, but not %q", l, w, f, object)
			}
		}
	}
}

// P20.6: without rules nothing is allowed.
func TestNoRules(t *testing.T) {
	for _, l := range [][]api.Rule{nil, {}, make([]api.Rule, 0, 3)} {
		for action := range api.ActAdmin + 1 {
			for _, object := range []string{"a", "a/b", "$sys", "", "#"} {
				checkAllowed(t, l, who("c", "u"), action, object, false)
				checkSubscribes(t, l, who("c", "u"), object, false)
			}
		}
		checkShadowed(t, l)
	}
}

// R5: the rules are not changed, also behind their end, and Shadowed returns new memory each time.
func TestMemory(t *testing.T) {
	whole := []api.Rule{allow("*", 1, "%c/#"), forbid("*", 1, "%c/#"), allow("u", 2, "%u/a"), allow("u", 2, "%u/a"), forbid("v", 3, "b")}
	before := slices.Clone(whole)
	l := whole[:4]
	access.Check(l)
	access.Allowed(l, who("c", "u"), 1, "c/a")
	access.Subscribes(l, who("c", "u"), "u/a")
	first := access.Shadowed(l)
	first = append(first[:0], 8, 8)
	if second := access.Shadowed(l); !slices.Equal(second, []int{1, 3}) || !slices.Equal(first, []int{8, 8}) || !slices.Equal(whole, before) {
		t.Errorf("Shadowed = %v, the rules are %v", second, whole)
	}
}

// R1: nothing is promised for rules that are not valid, but an end.
func TestInvalid(t *testing.T) {
	odd := []string{"", "#/a", "a+", "%c", "%u", "\x00", "+", strings.Repeat("x/", 3000), "$share/g/a"}
	var l []api.Rule
	for i, user := range odd {
		for j, f := range odd {
			l = append(l, api.Rule{Allow: (i+j)%2 == 0, User: user, Action: i*j - 5, Filter: f})
		}
	}
	access.Check(l)
	access.Shadowed(l)
	for _, s := range odd {
		for _, action := range []int{math.MinInt, -5, 0, 7, math.MaxInt} {
			access.Allowed(l, who(s, s), action, s)
		}
		access.Subscribes(l, who(s, s), s)
		access.Expand(s, who(s, s))
	}
}
