package exchange_test

import (
	"cmp"
	"fmt"
	"math"
	"math/rand"
	"slices"
	"sort"
	"strings"
	"testing"

	"broker/api"
	"broker/exchange"
	"broker/message"
	"broker/topic"
)

// kinds are all kinds of exchanges.
var kinds = []int{api.Direct, api.Fanout, api.Topical, api.Headers}

// noKinds are numbers that no kind has.
var noKinds = []int{0, -1, 5, math.MinInt, math.MaxInt}

// show prints routes and lists; a list without elements may be nil or empty.
func show(x any) string { return fmt.Sprintf("%+q", x) }

// declared returns an exchange, with the name of the alternate one if there is one.
func declared(name string, kind int, alternate ...string) api.Exchange {
	return api.Exchange{Name: name, Kind: kind, Alternate: strings.Join(alternate, "")}
}

// bound returns a binding with a key.
func bound(exchange, queue, key string) api.Binding {
	return api.Binding{Exchange: exchange, Queue: queue, Key: key}
}

// matching returns a binding of a Headers exchange with the properties that spaces divide.
func matching(exchange, queue string, all bool, props string) api.Binding {
	return api.Binding{Exchange: exchange, Queue: queue, All: all, Match: list(props)}
}

// list returns properties from a text such as a=1 b=2.
func list(text string) []api.Prop {
	var l []api.Prop
	for _, field := range strings.Fields(text) {
		key, value, _ := strings.Cut(field, "=")
		l = append(l, api.Prop{Key: key, Value: value})
	}
	return l
}

// routes returns routes with some exchanges and bindings.
func routes(x []api.Exchange, b ...api.Binding) api.Routes {
	return api.Routes{Exchanges: x, Bindings: b}
}

// divide reports whether the words of a key can be divided into parts, as the chapter defines it.
func divide(pattern, key []string) bool {
	if len(pattern) == 0 {
		return len(key) == 0
	}
	for n := range len(key) + 1 {
		fits := pattern[0] == "#" || n == 1 && (pattern[0] == "*" || pattern[0] == key[0])
		if fits && divide(pattern[1:], key[n:]) {
			return true
		}
	}
	return false
}

// isKey reports whether s is a routing key or a routing pattern.
func isKey(s string) bool { return len(s) <= 64 && strings.IndexByte(s, 0) < 0 }

// matches is Matches as the chapter defines it.
func matches(pattern, key string) bool {
	return isKey(pattern) && isKey(key) && divide(strings.Split(pattern, "."), strings.Split(key, "."))
}

// keyError is the error of a routing key.
func keyError(s string) api.Errno {
	switch {
	case len(s) > 64:
		return api.ErrTooLong
	case strings.IndexByte(s, 0) >= 0:
		return api.ErrSyntax
	}
	return api.OK
}

// exchangeError is the error of an exchange for itself, as the chapter defines it.
func exchangeError(x api.Exchange) api.Errno {
	switch {
	case !topic.Name(x.Name):
		return api.ErrName
	case !slices.Contains(kinds, x.Kind):
		return api.ErrKind
	case x.Alternate != "" && !topic.Name(x.Alternate):
		return api.ErrName
	}
	return api.OK
}

// bindingError is the error of Bind but for ErrFull, as the chapter defines it.
func bindingError(l []api.Exchange, b api.Binding) api.Errno {
	if !topic.Name(b.Exchange) || !topic.Name(b.Queue) {
		return api.ErrName
	}
	if code := keyError(b.Key); code != api.OK {
		return code
	}
	for _, x := range l {
		switch {
		case x.Name != b.Exchange:
		case x.Kind == api.Headers:
			return message.Props(b.Match)
		case b.All || len(b.Match) > 0:
			return api.ErrField
		default:
			return api.OK
		}
	}
	return api.ErrNotFound
}

// equal reports whether two bindings are equal, as the chapter defines it.
func equal(a, b api.Binding) bool { return show(a) == show(b) }

// has reports whether an equal binding is in a list.
func has(l []api.Binding, b api.Binding) bool {
	return slices.ContainsFunc(l, func(x api.Binding) bool { return equal(x, b) })
}

// check is Check as the chapter defines it.
func check(t api.Routes) api.Errno {
	if len(t.Exchanges) > 32 || len(t.Bindings) > 256 {
		return api.ErrTooLong
	}
	last := ""
	for _, x := range t.Exchanges {
		if code := exchangeError(x); code != api.OK {
			return code
		}
		if x.Name <= last {
			return api.ErrOrder
		}
		last = x.Name
	}
	for i, b := range t.Bindings {
		if code := bindingError(t.Exchanges, b); code != api.OK {
			return code
		}
		if has(t.Bindings[:i], b) {
			return api.ErrDuplicate
		}
	}
	return api.OK
}

// takes reports whether a binding of an exchange takes a message, as the chapter defines it.
func takes(x api.Exchange, b api.Binding, key string, props []api.Prop) bool {
	count := 0
	for _, p := range b.Match {
		if value, found := message.Get(props, p.Key); found && value == p.Value {
			count++
		}
	}
	switch x.Kind {
	case api.Direct:
		return b.Key == key
	case api.Topical:
		return matches(b.Key, key)
	case api.Headers:
		return b.All && count == len(b.Match) || !b.All && count > 0
	}
	return x.Kind == api.Fanout
}

// route is Route as the chapter defines it.
func route(t api.Routes, name, key string, props []api.Prop) ([]string, api.Errno) {
	code := cmp.Or(keyError(key), message.Props(props))
	at := slices.IndexFunc(t.Exchanges, func(x api.Exchange) bool { return x.Name == name })
	switch {
	case code != api.OK:
		return nil, code
	case name == "" && topic.Name(key):
		return []string{key}, api.OK
	case name == "":
		return nil, api.OK
	case !topic.Name(name):
		return nil, api.ErrName
	case at < 0:
		return nil, api.ErrNotFound
	}
	asked, queues := map[string]bool{}, map[string]bool{}
	for len(queues) == 0 && at >= 0 && !asked[t.Exchanges[at].Name] {
		x := t.Exchanges[at]
		asked[x.Name] = true
		for _, b := range t.Bindings {
			if b.Exchange == x.Name && takes(x, b, key, props) {
				queues[b.Queue] = true
			}
		}
		at = slices.IndexFunc(t.Exchanges, func(y api.Exchange) bool { return y.Name == x.Alternate })
	}
	var out []string
	for queue := range queues {
		out = append(out, queue)
	}
	sort.Strings(out)
	return out, api.OK
}

// checkRoutes compares Check with its definition and with what is expected.
func checkRoutes(t *testing.T, x api.Routes, want api.Errno) {
	t.Helper()
	if def := check(x); def != want {
		t.Fatalf("by definition, Check of %s = %d, want %d", show(x), def, want)
	}
	if got := exchange.Check(x); got != want {
		t.Errorf("Check of %s = %d, want %d", show(x), got, want)
	}
}

// checkReached compares Route with its definition and with the queues that are expected, divided by spaces.
func checkReached(t *testing.T, x api.Routes, name, key, props, want string) {
	t.Helper()
	if def, code := route(x, name, key, list(props)); strings.Join(def, " ") != want || code != api.OK {
		t.Fatalf("by definition, Route to %q, %q, %q = %q, %d, want %q", name, key, props, def, code, want)
	}
	if got, code := exchange.Route(x, name, key, list(props)); strings.Join(got, " ") != want || code != api.OK {
		t.Errorf("Route to %q, %q, %q = %q, %d, want %q", name, key, props, got, code, want)
	}
}

// checkMatches compares Matches with its definition and with what is expected.
func checkMatches(t *testing.T, pattern, key string, want bool) {
	t.Helper()
	if def := matches(pattern, key); def != want {
		t.Fatalf("by definition, Matches(%q, %q) = %v", pattern, key, def)
	}
	if got := exchange.Matches(pattern, key); got != want {
		t.Errorf("Matches(%q, %q) = %v, want %v", pattern, key, got, want)
	}
}

// P24.1, the example 1 and edges
func TestMatches(t *testing.T) {
	long := strings.Repeat("x", api.MaxTopic)
	for _, c := range []struct {
		pattern, key string
		want         bool
	}{
		{"a.*.c", "a.b.c", true}, {"a.*.c", "a..c", true}, {"a.*.c", "a.c", false}, {"a.*.c", "a.b.b.c", false}, {"a.#.c", "a.c", true}, {"a.#.c", "a.b.c", true}, {"a.#.c", "a.b.b.c", true}, {"#", "", true}, {"", "", true}, {"", "a", false}, {"", ".", false},
		{"#", "a.b", true}, {"#", "...", true}, {"*", "", true}, {"*", "a", true}, {"*", "a.b", false}, {"*.*", ".", true}, {".", ".", true}, {".", "", false}, {"#.#", "", true}, {"#.*", "", true}, {"*.#", "a.b.c", true}, {"*.*", "a", false},
		{"a#", "a#", true}, {"a#", "a", false}, {"a*", "ab", false}, {"**", "**", true}, {"**", "a", false}, {"##", "a", false}, {"a", "A", false}, {"a.b", "a/b", false}, {"+", "a", false}, {"a.#", "a", true}, {"a.#", "a.", true}, {"a.#", "ab", false}, {"#.a", "a", true}, {"#.a", "b.a.a", true}, {"#.a", "a.b", false},
		{"a", "*", false}, {"a", "#", false}, {"*", "#", true}, {"*", "*", true}, {"#", "*.#", true}, {"#.b.#.b", "b.a.b", true}, {"#.b.#.b", "b", false}, {"#.a.b", "a.a.b", true}, {"#.a.*.b", "a.a.a.b", true}, {"é.*", "é.\xff", true},
		{long, long, true}, {long, long + "x", false}, {long + "x", long + "x", false}, {"#", long, true}, {"#", long + "x", false}, {"#", "\x00", false}, {"#", "a.\x00", false}, {"\x00", "\x00", false}, {"#.\x00", "a.\x00", false}, {strings.Repeat("#.", 32), strings.Repeat(".", 32), true}, {strings.Repeat("#.", 32) + "#", "", false},
	} {
		checkMatches(t, c.pattern, c.key, c.want)
	}
}

// sentences returns all strings of one to some number of these words.
func sentences(most int, words ...string) []string {
	all, last := slices.Clone(words), words
	for range most - 1 {
		var next []string
		for _, s := range last {
			for _, word := range words {
				next = append(next, s+"."+word)
			}
		}
		all = append(all, next...)
		last = next
	}
	return all
}

// P24.1: all short patterns and keys, compared with the definition; P24.7: the reversed words
func TestShortPatterns(t *testing.T) {
	reverse := func(s string) string {
		words := strings.Split(s, ".")
		slices.Reverse(words)
		return strings.Join(words, ".")
	}
	keys := slices.Concat(sentences(4, "", "a", "b"), sentences(2, "*", "#", "a"))
	for _, pattern := range sentences(4, "", "a", "b", "*", "#") {
		back := reverse(pattern)
		for _, key := range keys {
			got := exchange.Matches(pattern, key)
			if got != matches(pattern, key) {
				t.Fatalf("Matches(%q, %q) = %v", pattern, key, got)
			}
			if exchange.Matches(back, reverse(key)) != got {
				t.Fatalf("Matches(%q, %q) = %v, but not so if it is reversed", pattern, key, got)
			}
		}
	}
}

// P24.1: long random patterns and keys, compared with the definition
func TestRandomPatterns(t *testing.T) {
	r := rand.New(rand.NewSource(24))
	some := func(count int, words ...string) string {
		var l []string
		for range 1 + r.Intn(count) {
			l = append(l, words[r.Intn(len(words))])
		}
		return strings.Join(l, ".")
	}
	found := 0
	for range 30000 {
		pattern, key := some(7, "a", "b", "*", "#", "#"), some(12, "a", "b")
		if got := exchange.Matches(pattern, key); got != matches(pattern, key) {
			t.Fatalf("Matches(%q, %q) = %v", pattern, key, got)
		} else if got {
			found++
		}
	}
	if found < 3000 {
		t.Errorf("only %d patterns match", found)
	}
}

// P24.1: a pattern with many words # takes no long time
func TestHardPatterns(t *testing.T) {
	for pattern, want := range map[string]bool{strings.Repeat("#.a.", 15) + "#": true, strings.Repeat("#.a.", 15) + "b": false, strings.Repeat("#.*.", 15) + "b": false, strings.Repeat("#.*.", 15) + "#.#": true, strings.Repeat("#.", 31) + "#": true, strings.Repeat("#.", 31) + "b": false} {
		if got := exchange.Matches(pattern, strings.Repeat("a.", 31)+"a"); got != want {
			t.Errorf("Matches(%q) = %v", pattern, got)
		}
	}
}

// P24.7: patterns without wildcards, the pattern #, and keys that are followed by it
func TestPatternRules(t *testing.T) {
	keys := append(sentences(3, "", "a", "b", "a*", "#b"), strings.Repeat(".", api.MaxTopic), strings.Repeat("k", api.MaxTopic-2))
	for _, pattern := range keys {
		for _, key := range keys {
			checkMatches(t, pattern, key, pattern == key)
			long := pattern + ".#"
			checkMatches(t, long, key, len(long) <= api.MaxTopic && (key == pattern || strings.HasPrefix(key, pattern+".")))
		}
		checkMatches(t, "#", pattern, true)
	}
}

// P24.2 and P24.3, the example 3, and what an exchange may be
func TestDeclare(t *testing.T) {
	l := []api.Exchange{declared("b", api.Direct), declared("d", api.Headers, "b"), declared("f", api.Topical, "f")}
	names := map[string]api.Errno{"a": api.OK, "c-9": api.OK, "g": api.OK, strings.Repeat("x", api.MaxName): api.OK, "b": api.ErrExists, "d": api.ErrExists, "f": api.ErrExists, "": api.ErrName, "B": api.ErrName, "9": api.ErrName, "a.b": api.ErrName, strings.Repeat("x", api.MaxName+1): api.ErrName}
	alternates := map[string]api.Errno{"": api.OK, "a": api.OK, "b": api.OK, "none": api.OK, strings.Repeat("x", api.MaxName): api.OK, "A": api.ErrName, "-": api.ErrName, strings.Repeat("x", api.MaxName+1): api.ErrName}
	for name, e := range names {
		for _, kind := range slices.Concat(kinds, noKinds) {
			k := api.OK
			if slices.Contains(noKinds, kind) {
				k = api.ErrKind
			}
			for alternate, a := range alternates {
				x := declared(name, kind, alternate)
				want := cmp.Or(k, a, e)
				if e == api.ErrName {
					want = e
				}
				if slices.Contains(l, x) {
					want = api.OK
				}
				checkDeclare(t, routes(l, bound("b", "q", "k")), x, want)
				single := exchangeError(x)
				checkRoutes(t, routes([]api.Exchange{x}), single)
				checkRoutes(t, routes([]api.Exchange{declared("a", 1), x, declared("b", 9)}), cmp.Or(single, order("a", name), api.ErrKind))
			}
		}
	}
}

// order is the error of a name that follows another one.
func order(last, name string) api.Errno {
	if name <= last {
		return api.ErrOrder
	}
	return api.OK
}

// checkDeclare compares Declare with its definition and with the error that is expected.
func checkDeclare(t *testing.T, x api.Routes, y api.Exchange, want api.Errno) {
	t.Helper()
	out, code := exchange.Declare(x, y)
	if code != want || code != api.OK && show(out) != show(api.Routes{}) {
		t.Fatalf("Declare of %s = %s, %d, want %d", show(y), show(out), code, want)
	}
	if code != api.OK {
		return
	}
	l := append(slices.Clone(x.Exchanges), y)
	sort.Slice(l, func(i, k int) bool { return l[i].Name < l[k].Name })
	if def := routes(slices.Compact(l), x.Bindings...); show(out) != show(def) {
		t.Fatalf("Declare of %s = %s, want %s", show(y), show(out), show(def))
	}
	checkRoutes(t, out, api.OK)
}

// many returns so many exchanges, in ascending order of names.
func many(count int) []api.Exchange {
	var l []api.Exchange
	for i := range count {
		l = append(l, declared("x"+string([]byte{byte('a' + i/26), byte('a' + i%26)}), kinds[i%4]))
	}
	return l
}

// P24.2 and P24.3: the number of exchanges is limited; an exchange that is there already needs no room
func TestManyExchanges(t *testing.T) {
	full := routes(many(api.MaxList))
	checkRoutes(t, full, api.OK)
	checkRoutes(t, routes(many(api.MaxList+1)), api.ErrTooLong)
	checkRoutes(t, routes(make([]api.Exchange, api.MaxList+1)), api.ErrTooLong)
	checkRoutes(t, routes(make([]api.Exchange, api.MaxList)), api.ErrName)
	checkDeclare(t, routes(many(api.MaxList-1)), declared("a", api.Fanout), api.OK)
	for _, c := range []struct {
		x    api.Exchange
		want api.Errno
	}{
		{declared("a", api.Fanout), api.ErrFull}, {declared("z", api.Fanout), api.ErrFull}, {full.Exchanges[0], api.OK}, {full.Exchanges[31], api.OK}, {declared("xaa", api.Headers), api.ErrExists}, {declared("xaa", api.Direct, "a"), api.ErrExists},
		{declared("a", 5), api.ErrKind}, {declared("A", 5), api.ErrName}, {declared("a", 1, "A"), api.ErrName}, {declared("xaa", 9, "A"), api.ErrKind},
	} {
		checkDeclare(t, full, c.x, c.want)
	}
}

// P24.2: the order of the exchanges and their errors
func TestCheckExchanges(t *testing.T) {
	a, b, bad := declared("a", api.Direct), declared("b", api.Fanout, "a"), bound("A", "q", "")
	for _, c := range []struct {
		t    api.Routes
		want api.Errno
	}{
		{api.Routes{}, api.OK}, {routes([]api.Exchange{a, b}), api.OK}, {routes([]api.Exchange{b, a}), api.ErrOrder}, {routes([]api.Exchange{a, a}), api.ErrOrder}, {routes([]api.Exchange{a, declared("a", api.Fanout)}), api.ErrOrder}, {routes([]api.Exchange{b, a, declared("", 0)}), api.ErrOrder}, {routes([]api.Exchange{a, declared("", 0), a}), api.ErrName},
		{routes([]api.Exchange{b, declared("a", 0, "A")}), api.ErrKind}, {routes([]api.Exchange{b, declared("a", 1, "A")}), api.ErrName}, {routes([]api.Exchange{b, a}, bad), api.ErrOrder}, {routes([]api.Exchange{a, b}, bad), api.ErrName}, {routes([]api.Exchange{declared("a-a", 1), declared("aa", 2), declared("ab", 3), declared("b", 4)}), api.OK}, {routes([]api.Exchange{declared("aa", 1), declared("a-a", 2)}), api.ErrOrder},
		{routes(nil, bound("a", "q", "")), api.ErrNotFound},
	} {
		checkRoutes(t, c.t, c.want)
	}
}

// four are exchanges of the four kinds.
func four() []api.Exchange {
	return []api.Exchange{declared("d", api.Direct), declared("f", api.Fanout), declared("h", api.Headers), declared("t", api.Topical)}
}

// checkBind compares Bind with its definition and with the error that is expected, and Check with the binding at the end.
func checkBind(t *testing.T, x api.Routes, b api.Binding, want api.Errno) {
	t.Helper()
	out, code := exchange.Bind(x, b)
	if code != want || code != api.OK && show(out) != show(api.Routes{}) {
		t.Fatalf("Bind of %s = %s, %d, want %d", show(b), show(out), code, want)
	}
	longer := append(slices.Clone(x.Bindings), b)
	if got := exchange.Check(routes(x.Exchanges, longer...)); got != check(routes(x.Exchanges, longer...)) {
		t.Fatalf("Check with the binding %s = %d", show(b), got)
	}
	if has(x.Bindings, b) {
		longer = x.Bindings
	}
	if def := routes(x.Exchanges, longer...); code == api.OK && show(out) != show(def) {
		t.Fatalf("Bind of %s = %s, want %s", show(b), show(out), show(def))
	}
}

// P24.2 and P24.4: every combination of names, keys and properties, which shows the order of the errors
func TestBind(t *testing.T) {
	start := routes(four(), bound("f", "q", "k"), matching("h", "q", true, "a=1"))
	names := map[string]api.Errno{"d": api.OK, "f": api.OK, "h": api.OK, "t": api.OK, "none": api.ErrNotFound, "": api.ErrName, "D": api.ErrName, strings.Repeat("d", api.MaxName+1): api.ErrName}
	queues := map[string]api.Errno{"q": api.OK, "other": api.OK, "": api.ErrName, "Q": api.ErrName, "q.q": api.ErrName}
	keys := map[string]api.Errno{"": api.OK, "k": api.OK, "a.*.#": api.OK, "\xff/+": api.OK, strings.Repeat("k", api.MaxTopic): api.OK, strings.Repeat("k", api.MaxTopic+1): api.ErrTooLong, strings.Repeat("\x00", api.MaxTopic+1): api.ErrTooLong, "\x00": api.ErrSyntax, "a.\x00b": api.ErrSyntax}
	lists := map[string]api.Errno{"": api.OK, "a=1": api.OK, "a=1 b=": api.OK, "b=1 a=1": api.ErrProps, "A=1": api.ErrProps, "a=1 a=1": api.ErrProps, "a=" + strings.Repeat("v", api.MaxValue): api.OK, "a=" + strings.Repeat("v", api.MaxValue+1): api.ErrTooLong, "a= b= c= d= e= f= g= h=": api.OK, "a= b= c= d= e= f= g= h= i=": api.ErrTooLong}
	for name, e := range names {
		for queue, q := range queues {
			for key, k := range keys {
				for props, p := range lists {
					for _, all := range []bool{false, true} {
						last := p
						if name != "h" {
							last = api.OK
							if all || props != "" {
								last = api.ErrField
							}
						}
						b := matching(name, queue, all, props)
						b.Key = key
						want := cmp.Or(q, k, e, last)
						if e == api.ErrName {
							want = e
						}
						checkBind(t, start, b, want)
					}
				}
			}
		}
	}
}

// P24.4: bindings that differ in one field are others; equal ones are bound once
func TestEqualBindings(t *testing.T) {
	l := []api.Binding{
		bound("h", "q", ""), bound("h", "r", ""), bound("h", "q", "k"), bound("d", "q", ""), matching("h", "q", true, ""), matching("h", "q", false, "a=1"), matching("h", "q", true, "a=1"), matching("h", "q", false, "a=2"), matching("h", "q", false, "b=1"), matching("h", "q", false, "a=1 b=1"), matching("h", "q", false, "a="),
	}
	x := routes(four())
	for i, b := range l {
		checkBind(t, x, b, api.OK)
		x, _ = exchange.Bind(x, b)
		if len(x.Bindings) != i+1 {
			t.Errorf("%s is not a new binding", show(b))
		}
	}
	checkRoutes(t, x, api.OK)
	for _, b := range l {
		b.Match = append(make([]api.Prop, 0, 4), b.Match...) // an empty list, where there was none
		out, code := exchange.Bind(x, b)
		if code != api.OK || show(out) != show(x) {
			t.Errorf("Bind of %s, which is there, = %s, %d", show(b), show(out), code)
		}
		checkRoutes(t, routes(x.Exchanges, append(slices.Clone(x.Bindings), b)...), api.ErrDuplicate)
		checkRoutes(t, routes(x.Exchanges, append(slices.Clone(x.Bindings), b, bound("D", "", ""))...), api.ErrDuplicate)
		checkRoutes(t, routes(x.Exchanges, append(slices.Clone(x.Bindings), bound("D", "", ""), b)...), api.ErrName)
	}
}

// P24.2 and P24.4: the number of bindings is limited; a binding that is there already needs no room
func TestManyBindings(t *testing.T) {
	x := routes(four())
	for i := range api.MaxQueue {
		x = bind(t, x, bound("d", "q", fmt.Sprint(i)))
	}
	checkRoutes(t, x, api.OK)
	more := routes(x.Exchanges, append(slices.Clone(x.Bindings), bound("d", "q", "more"))...)
	checkRoutes(t, more, api.ErrTooLong)
	checkRoutes(t, routes(nil, make([]api.Binding, api.MaxQueue+1)...), api.ErrTooLong)
	checkRoutes(t, routes([]api.Exchange{declared("", 0)}, make([]api.Binding, api.MaxQueue+1)...), api.ErrTooLong)
	checkRoutes(t, routes(nil, make([]api.Binding, api.MaxQueue)...), api.ErrName)
	for _, c := range []struct {
		b    api.Binding
		want api.Errno
	}{
		{bound("d", "q", "256"), api.ErrFull}, {bound("f", "q", "0"), api.ErrFull}, {bound("d", "q", "0"), api.OK}, {bound("d", "q", "255"), api.OK}, {bound("", "q", "k"), api.ErrName}, {bound("d", "q", "\x00"), api.ErrSyntax}, {bound("none", "q", "k"), api.ErrNotFound}, {matching("d", "q", true, ""), api.ErrField}, {matching("h", "q", true, "A="), api.ErrProps},
	} {
		out, code := exchange.Bind(x, c.b)
		if code != c.want || code == api.OK && show(out) != show(x) || code != api.OK && show(out) != show(api.Routes{}) {
			t.Errorf("Bind of %s = %d, want %d", show(c.b), code, c.want)
		}
	}
}

// bind returns the routes with another binding.
func bind(t *testing.T, x api.Routes, b api.Binding) api.Routes {
	t.Helper()
	out, code := exchange.Bind(x, b)
	if code != api.OK {
		t.Fatalf("Bind of %s = %d", show(b), code)
	}
	return out
}

// P24.5: Unbind takes exactly the equal binding out, and the others keep their order
func TestUnbind(t *testing.T) {
	l := []api.Binding{bound("d", "q", "k"), bound("t", "r", "a.#"), matching("h", "q", true, "a=1 b=2"), matching("h", "q", false, "a=1 b=2"), bound("f", "q", "")}
	x := routes(four(), l...)
	for i, b := range l {
		out, code := exchange.Unbind(x, b)
		if want := routes(four(), slices.Concat(l[:i], l[i+1:])...); code != api.OK || show(out) != show(want) {
			t.Errorf("Unbind of %s = %s, %d", show(b), show(out), code)
		}
		if again, code := exchange.Unbind(out, b); code != api.ErrNotFound || show(again) != show(api.Routes{}) {
			t.Errorf("the second Unbind of %s = %s, %d", show(b), show(again), code)
		}
	}
	for _, b := range []api.Binding{{}, bound("d", "q", ""), bound("d", "r", "k"), bound("f", "q", "k"), bound("D", "q", "\x00"), bound("none", "q", "k"), matching("d", "q", true, ""), matching("h", "q", true, "a=1"), matching("h", "q", true, "b=2 a=1"), matching("h", "q", true, "a=1 b=2 c=3"), matching("h", "r", true, "a=1 b=2"), matching("f", "q", false, "a=1")} {
		if out, code := exchange.Unbind(x, b); code != api.ErrNotFound || show(out) != show(api.Routes{}) {
			t.Errorf("Unbind of %s = %s, %d", show(b), show(out), code)
		}
	}
	empty, code := exchange.Unbind(routes(four(), matching("h", "q", false, "")), api.Binding{Exchange: "h", Queue: "q", Match: []api.Prop{}})
	if code != api.OK || show(empty) != show(routes(four())) {
		t.Errorf("Unbind of the only binding = %s, %d", show(empty), code)
	}
}

// P24.5 and P24.9: Drop takes all bindings to a queue out, of all exchanges
func TestDrop(t *testing.T) {
	l := []api.Binding{bound("d", "q", "k"), bound("t", "r", "#"), matching("h", "q", true, ""), bound("f", "q", ""), bound("f", "r", ""), bound("f", "qq", "q")}
	x := routes(four(), l...)
	for queue, want := range map[string][]api.Binding{"q": {l[1], l[4], l[5]}, "r": {l[0], l[2], l[3], l[5]}, "qq": l[:5], "none": l, "": l, "Q": l, "f": l} {
		if got := exchange.Drop(x, queue); show(got) != show(routes(four(), want...)) {
			t.Errorf("Drop of %q = %s", queue, show(got))
		}
	}
	if got := exchange.Drop(exchange.Drop(exchange.Drop(x, "q"), "r"), "qq"); show(got) != show(routes(four())) {
		t.Errorf("Drop of all queues = %s", show(got))
	}
	if got := exchange.Drop(api.Routes{}, "q"); show(got) != show(api.Routes{}) {
		t.Errorf("Drop without bindings = %s", show(got))
	}
}

// P24.6, the examples 2, 3 and 5
func TestExamples(t *testing.T) {
	x := routes([]api.Exchange{declared("x", api.Direct, "y"), declared("y", api.Fanout)}, bound("x", "q1", "k"), bound("y", "q2", ""), bound("y", "q1", ""))
	checkReached(t, x, "x", "k", "", "q1")
	checkReached(t, x, "x", "other", "", "q1 q2")
	checkReached(t, x, "y", "k", "", "q1 q2")
	checkReached(t, routes([]api.Exchange{declared("x", api.Topical, "x")}), "x", "k", "", "")
	for _, y := range []api.Routes{x, {}, routes(four())} {
		checkReached(t, y, "", "q", "", "q")
		checkReached(t, y, "", "a.b", "", "")
		checkReached(t, y, "", "", "", "")
		checkReached(t, y, "", "Q", "", "")
		checkReached(t, y, "", strings.Repeat("q", api.MaxName), "a=1", strings.Repeat("q", api.MaxName))
		checkReached(t, y, "", strings.Repeat("q", api.MaxName+1), "", "")
	}
}

// P24.6, the example 4
func TestExampleOfHeaders(t *testing.T) {
	for _, c := range []struct {
		all          bool
		match, props string
		want         bool
	}{
		{true, "a=1 b=2", "a=1 b=2 c=3", true}, {true, "a=1 b=2", "a=1", false}, {false, "a=1 b=2", "a=1 b=2 c=3", true}, {false, "a=1 b=2", "a=1", true}, {true, "", "", true}, {true, "", "a=1", true}, {false, "", "", false}, {false, "", "a=1", false},
		{false, "a=1 b=2", "a=2 b=1", false}, {true, "a=1 b=2", "a=1 b=3", false}, {false, "a=1 b=2", "a=1 b=3", true}, {false, "a=1", "", false}, {true, "a=1", "", false}, {true, "a=", "a=", true}, {true, "a=", "b=", false}, {true, "a=", "a=1", false}, {false, "a=1", "b=1", false},
	} {
		b := matching("h", "q", c.all, c.match)
		b.Key = "no matter"
		want := ""
		if c.want {
			want = "q"
		}
		checkReached(t, routes(four(), b), "h", "k", c.props, want)
	}
}

// P24.6: the kinds differ in what they take for a key, and properties matter for Headers only
func TestKinds(t *testing.T) {
	x := routes(four())
	for _, name := range []string{"d", "f", "t"} {
		x = bind(t, x, bound(name, "one", "a.*"))
		x = bind(t, x, bound(name, "two", "a.b"))
	}
	x = bind(t, x, matching("h", "one", true, "k=v"))
	for key, want := range map[string][4]string{"a.b": {"two", "one two", "one", "one two"}, "a.*": {"one", "one two", "one", "one"}, "a.c": {"", "one two", "one", "one"}, "": {"", "one two", "one", ""}, "a.b.c": {"", "one two", "one", ""}, "A.b": {"", "one two", "one", ""}} {
		for i, name := range []string{"d", "f", "h", "t"} {
			checkReached(t, x, name, key, "k=v", want[i])
		}
		checkReached(t, x, "h", key, "k=w", "")
	}
}

// P24.6 and P24.10: alternates are asked in turn, each once, and only if no binding takes the message
func TestAlternates(t *testing.T) {
	chain := []api.Exchange{declared("a", api.Direct, "b"), declared("b", api.Headers, "c"), declared("c", api.Topical, "a"), declared("d", api.Direct, "none"), declared("e", api.Direct, "a"), declared("f", api.Fanout, "a")}
	x := routes(chain, bound("a", "qa", "k"), matching("b", "qb", false, "p=1"), bound("c", "qc", "*.k"), bound("c", "qd", "x.#"), bound("d", "q", "k"))
	for _, c := range []struct{ name, key, props, want string }{
		{"a", "k", "", "qa"}, {"a", "k", "p=1", "qa"}, {"a", "l", "p=1", "qb"}, {"a", "x.k", "", "qc qd"}, {"a", "x.k", "p=1", "qb"}, {"a", "y", "", ""}, {"b", "k", "", "qa"}, {"b", "k", "p=1", "qb"}, {"c", "k", "p=1", "qa"}, {"c", "l", "p=1", "qb"}, {"c", "x", "p=1", "qd"}, {"c", "l", "", ""},
		{"d", "k", "", "q"}, {"d", "l", "p=1", ""}, {"e", "k", "", "qa"}, {"e", "x.y", "", "qd"}, {"e", "y", "", ""}, {"f", "k", "", "qa"}, {"f", "y", "", ""},
	} {
		checkReached(t, x, c.name, c.key, c.props, c.want)
	}
	long := many(api.MaxList)
	for i := range long {
		long[i] = declared(long[i].Name, api.Direct, long[(i+1)%len(long)].Name)
	}
	checkReached(t, routes(long, bound(long[31].Name, "q", "k")), long[0].Name, "k", "", "q")
	checkReached(t, routes(long, bound(long[0].Name, "q", "k")), long[1].Name, "k", "", "q")
	checkReached(t, routes(long, bound(long[0].Name, "q", "k")), long[0].Name, "l", "", "")
}

// P24.6: queues are in the order of their bytes, each once
func TestQueuesReached(t *testing.T) {
	x := routes(four())
	for _, queue := range []string{"q", "q2", "q10", "a", "b-1", "b1", "q", "a"} {
		for _, key := range []string{"k", "#", "k2"} {
			x = bind(t, x, bound("f", queue, key))
			x = bind(t, x, bound("t", queue, key))
		}
	}
	checkReached(t, x, "f", "", "", "a b-1 b1 q q10 q2")
	checkReached(t, x, "t", "k", "", "a b-1 b1 q q10 q2")
}

// P24.6: every combination of keys, properties and exchanges, which shows the order of the errors
func TestRouteErrors(t *testing.T) {
	x := routes(four(), bound("f", "q", ""))
	keys := map[string]api.Errno{"": api.OK, "k": api.OK, "a.#": api.OK, strings.Repeat("k", api.MaxTopic): api.OK, strings.Repeat("k", api.MaxTopic+1): api.ErrTooLong, strings.Repeat("\x00", api.MaxTopic+1): api.ErrTooLong, "\x00": api.ErrSyntax, "k\x00": api.ErrSyntax}
	lists := map[string]api.Errno{"": api.OK, "a=1": api.OK, "b= a=": api.ErrProps, "A=": api.ErrProps, "a=" + strings.Repeat("v", api.MaxValue+1): api.ErrTooLong, "a= b= c= d= e= f= g= h= i=": api.ErrTooLong}
	names := map[string]api.Errno{"": api.OK, "f": api.OK, "d": api.OK, "g": api.ErrNotFound, "ff": api.ErrNotFound, strings.Repeat("x", api.MaxName): api.ErrNotFound, "F": api.ErrName, "f.": api.ErrName, "\x00": api.ErrName, strings.Repeat("x", api.MaxName+1): api.ErrName}
	for key, k := range keys {
		for props, p := range lists {
			for name, e := range names {
				want := cmp.Or(k, p, e)
				def, code := route(x, name, key, list(props))
				if code != want {
					t.Fatalf("by definition, Route to %q, %q, %q = %d, want %d", name, key, props, code, want)
				}
				if got, code := exchange.Route(x, name, key, list(props)); code != want || !slices.Equal(got, def) {
					t.Errorf("Route to %q, %q, %q = %q, %d, want %q, %d", name, key, props, got, code, def, want)
				}
			}
		}
	}
}

// randomBinding returns a binding, mostly one that Bind accepts.
func randomBinding(r *rand.Rand) api.Binding {
	pick := func(l ...string) string { return l[r.Intn(len(l))] }
	b := bound(pick("a", "b", "c", "d", "e"), pick("p", "q", "r", "s"), pick("", "k", "l", "k.l", "k.*", "k.#", "#", "*"))
	if r.Intn(3) == 0 {
		b.All, b.Match = r.Intn(2) == 0, list(pick("", "a=1", "a=2", "a=1 b=1", "b=1", "b=1 a=1"))
	}
	return b
}

// P24.2 to P24.10: random calls, compared with the definitions
func TestRandomCalls(t *testing.T) {
	r := rand.New(rand.NewSource(240))
	pick := func(l ...string) string { return l[r.Intn(len(l))] }
	for range 400 {
		x := api.Routes{}
		for range 60 {
			switch r.Intn(8) {
			case 0, 1:
				y := declared(pick("a", "b", "c", "d", "d", "E"), 1+r.Intn(5), pick("", "a", "b", "c", "d", "none", "N"))
				x = randomDeclare(t, x, y)
			case 2:
				x = randomUnbind(t, x, randomBinding(r))
			case 3:
				queue := pick("p", "q", "r", "s", "")
				out := exchange.Drop(x, queue)
				want := slices.DeleteFunc(slices.Clone(x.Bindings), func(b api.Binding) bool { return b.Queue == queue })
				if show(out) != show(routes(x.Exchanges, want...)) {
					t.Fatalf("Drop of %q from %s = %s", queue, show(x), show(out))
				}
				if r.Intn(5) == 0 {
					x = out
				}
			default:
				x = randomBind(t, x, randomBinding(r))
			}
			checkRandomRoute(t, r, x, pick("", "a", "b", "c", "d", "e", "A"), pick("", "k", "l", "k.l", "k.l.m", "p", "*", "m.m", "\x00"), pick("", "a=1", "a=2", "b=1", "a=1 b=1", "a=1 b=1 c=1", "b=1 a=1"))
		}
		checkRoutes(t, x, api.OK)
	}
}

// randomDeclare compares Declare with its definition, and returns the routes that follow.
func randomDeclare(t *testing.T, x api.Routes, y api.Exchange) api.Routes {
	t.Helper()
	code := exchangeError(y)
	if code == api.OK && !slices.Contains(x.Exchanges, y) && slices.ContainsFunc(x.Exchanges, func(z api.Exchange) bool { return z.Name == y.Name }) {
		code = api.ErrExists
	}
	checkDeclare(t, x, y, code)
	if code != api.OK {
		return x
	}
	out, _ := exchange.Declare(x, y)
	return out
}

// randomBind compares Bind with its definition, and returns the routes that follow. Unbind undoes what it does.
func randomBind(t *testing.T, x api.Routes, b api.Binding) api.Routes {
	t.Helper()
	code := bindingError(x.Exchanges, b)
	checkBind(t, x, b, code)
	if code != api.OK {
		return x
	}
	out, _ := exchange.Bind(x, b)
	if back, e := exchange.Unbind(out, b); !has(x.Bindings, b) && (e != api.OK || show(back) != show(x)) {
		t.Fatalf("Unbind of %s after Bind = %s, %d, want %s", show(b), show(back), e, show(x))
	}
	return out
}

// randomUnbind compares Unbind with its definition, and returns the routes that follow.
func randomUnbind(t *testing.T, x api.Routes, b api.Binding) api.Routes {
	t.Helper()
	out, code := exchange.Unbind(x, b)
	if !has(x.Bindings, b) {
		if code != api.ErrNotFound || show(out) != show(api.Routes{}) {
			t.Fatalf("Unbind of %s = %s, %d", show(b), show(out), code)
		}
		return x
	}
	want := slices.DeleteFunc(slices.Clone(x.Bindings), func(c api.Binding) bool { return equal(b, c) })
	if code != api.OK || show(out) != show(routes(x.Exchanges, want...)) {
		t.Fatalf("Unbind of %s from %s = %s, %d", show(b), show(x), show(out), code)
	}
	return out
}

// checkRandomRoute compares Route with its definition. It does not depend on the order of the bindings, nor on an alternate where a binding takes the message, and no declared exchange reaches a queue that was dropped.
func checkRandomRoute(t *testing.T, r *rand.Rand, x api.Routes, name, key, props string) {
	t.Helper()
	want, code := route(x, name, key, list(props))
	got, e := exchange.Route(x, name, key, list(props))
	if e != code || !slices.Equal(got, want) {
		t.Fatalf("Route in %s to %q, %q, %q = %q, %d, want %q, %d", show(x), name, key, props, got, e, want, code)
	}
	mixed := routes(x.Exchanges, slices.Clone(x.Bindings)...)
	r.Shuffle(len(mixed.Bindings), func(i, k int) {
		mixed.Bindings[i], mixed.Bindings[k] = mixed.Bindings[k], mixed.Bindings[i]
	})
	if other, e := exchange.Route(mixed, name, key, list(props)); e != code || !slices.Equal(other, got) {
		t.Fatalf("Route depends on the order of %s: %q, %q", show(x.Bindings), got, other)
	}
	alone := routes(slices.Clone(x.Exchanges), x.Bindings...)
	for i := range alone.Exchanges {
		alone.Exchanges[i].Alternate = ""
	}
	if first, _ := exchange.Route(alone, name, key, list(props)); len(first) > 0 && !slices.Equal(first, got) {
		t.Fatalf("Route in %s to %q, %q, %q = %q, though %q are reached without alternates", show(x), name, key, props, got, first)
	}
	if rest, _ := exchange.Route(exchange.Drop(x, "q"), name, key, list(props)); name != "" && slices.Contains(rest, "q") {
		t.Fatalf("Route reaches a queue that was dropped from %s", show(x))
	}
}

// spoil overwrites routes, also behind the ends of their lists.
func spoil(x api.Routes) {
	for _, b := range x.Bindings[:cap(x.Bindings)] {
		clear(b.Match[:cap(b.Match)])
	}
	clear(x.Bindings[:cap(x.Bindings)])
	clear(x.Exchanges[:cap(x.Exchanges)])
}

// roomy returns routes with room behind the ends of their lists, which has something there.
func roomy() api.Routes {
	x := routes(append(four(), declared("z", 1)), bound("d", "q", "k"), matching("h", "q", true, "a=1 b=2 c=3"), matching("h", "r", true, "a=1 b=2"), bound("f", "r", ""), bound("f", "s", ""))
	x.Bindings[1].Match = x.Bindings[1].Match[:2]
	return routes(x.Exchanges[:4], x.Bindings[:4]...)
}

// behind shows routes and what is behind the ends of their lists.
func behind(x api.Routes) string {
	out := show(x.Exchanges[:cap(x.Exchanges)]) + show(x.Bindings[:cap(x.Bindings)])
	for _, b := range x.Bindings {
		out += show(b.Match[:cap(b.Match)])
	}
	return out
}

// P24.3 to P24.5 and R5: arguments are not changed, and results share no memory with them
func TestMemory(t *testing.T) {
	b := matching("h", "new", false, "a=1 b=2")
	b.Match = b.Match[:1]
	before, shown := behind(roomy()), show(b.Match[:2])
	for i, result := range []func(x api.Routes) api.Routes{
		func(x api.Routes) api.Routes { out, _ := exchange.Declare(x, declared("a", api.Fanout)); return out },
		func(x api.Routes) api.Routes { out, _ := exchange.Declare(x, declared("x", api.Fanout)); return out },
		func(x api.Routes) api.Routes { out, _ := exchange.Declare(x, x.Exchanges[0]); return out },
		func(x api.Routes) api.Routes { out, _ := exchange.Bind(x, b); return out },
		func(x api.Routes) api.Routes { out, _ := exchange.Bind(x, x.Bindings[1]); return out },
		func(x api.Routes) api.Routes { out, _ := exchange.Unbind(x, x.Bindings[0]); return out },
		func(x api.Routes) api.Routes { out, _ := exchange.Unbind(x, x.Bindings[1]); return out },
		func(x api.Routes) api.Routes { return exchange.Drop(x, "q") },
		func(x api.Routes) api.Routes { return exchange.Drop(x, "none") },
		func(x api.Routes) api.Routes { exchange.Check(x); return api.Routes{} },
		func(x api.Routes) api.Routes { exchange.Route(x, "f", "k", b.Match); return api.Routes{} },
		func(x api.Routes) api.Routes { exchange.Route(x, "h", "k", b.Match); return api.Routes{} },
	} {
		x := roomy()
		out := result(x)
		if behind(x) != before || show(b.Match[:2]) != shown {
			t.Errorf("case %d: an argument is changed: %s", i, behind(x))
		}
		spoil(out)
		if behind(x) != before || show(b.Match[:2]) != shown {
			t.Errorf("case %d: an argument shares memory with the result: %s", i, behind(x))
		}
	}
}

// R5: bindings of one list of properties share no memory in the result, and Route returns new memory each time
func TestMemoryWithin(t *testing.T) {
	b := matching("h", "p", true, "a=1")
	x := bind(t, routes(four()), b)
	b.Queue = "q"
	x = bind(t, x, b)
	clear(x.Bindings[0].Match[:cap(x.Bindings[0].Match)])
	if show(x.Bindings[1]) != show(b) {
		t.Errorf("the bindings share memory: %s", show(x))
	}
	first, _ := exchange.Route(x, "h", "", list("a=1"))
	clear(first[:cap(first)])
	if second, _ := exchange.Route(x, "h", "", list("a=1")); !slices.Equal(second, []string{"q"}) {
		t.Errorf("Route returns %q", second)
	}
}

// R1: every call returns, also with routes that are not valid
func TestInvalid(t *testing.T) {
	odd := []string{"", "a", "A", "b", "\x00", "a.b", "#", "*", strings.Repeat("#.", 40)}
	x := api.Routes{}
	for i, name := range slices.Concat(odd, odd) {
		for k, other := range odd {
			x.Exchanges = append(x.Exchanges, declared(name, i-k, other))
			b := matching(name, other, i%2 == 0, "b=1 a=1 A=")
			b.Key = other
			x.Bindings = append(x.Bindings, b, b, bound(other, name, name))
		}
	}
	exchange.Check(x)
	for _, name := range odd {
		for _, other := range odd {
			exchange.Matches(name, other)
			exchange.Declare(x, declared(name, len(other), other))
			exchange.Bind(x, bound(name, other, name))
			exchange.Unbind(x, bound(other, name, other))
			exchange.Route(x, name, other, nil)
			exchange.Route(x, name, other, list("b=1 a=1"))
		}
		exchange.Drop(x, name)
	}
	loop := routes([]api.Exchange{declared("a", 9, "b"), declared("b", 0, "a")}, bound("a", "q", ""))
	if got, code := exchange.Route(loop, "a", "", nil); len(got) > 0 || code != api.OK {
		t.Errorf("Route to exchanges of no kind = %q, %d", got, code)
	}
}
