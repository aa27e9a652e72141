package trie_test

import (
	"cmp"
	"math"
	"math/rand"
	"slices"
	"strings"
	"testing"

	"broker/api"
	"broker/match"
	"broker/topic"
	"broker/trie"
)

const maxSubs = api.MaxClients * api.MaxList

func hit(client, filter string, level int) api.Hit {
	return api.Hit{Client: client, Sub: api.Sub{Filter: filter, Level: level}}
}

// table is an index as the chapter defines it: a set of subscriptions, in which everything is found by looking at all of them.
type table struct{ hits []api.Hit }

func (m *table) index(client, filter string) int {
	return slices.IndexFunc(m.hits, func(h api.Hit) bool { return h.Client == client && h.Sub.Filter == filter })
}

func (m *table) add(client string, s api.Sub) (bool, api.Errno) {
	i := m.index(client, s.Filter)
	switch {
	case !topic.Name(client):
		return false, api.ErrName
	case !topic.Filter(s.Filter) || strings.HasPrefix(s.Filter, "$share/"):
		return false, api.ErrFilter
	case s.Level < 0 || s.Level > 2:
		return false, api.ErrLevel
	case i >= 0:
		m.hits[i].Sub = s
		return true, api.OK
	case len(m.hits) >= maxSubs:
		return false, api.ErrFull
	}
	m.hits = append(m.hits, api.Hit{Client: client, Sub: s})
	slices.SortFunc(m.hits, func(a, b api.Hit) int {
		return cmp.Or(cmp.Compare(a.Client, b.Client), cmp.Compare(a.Sub.Filter, b.Sub.Filter))
	})
	return false, api.OK
}

func (m *table) remove(client, filter string) bool {
	i := m.index(client, filter)
	if i >= 0 {
		m.hits = slices.Delete(m.hits, i, i+1)
	}
	return i >= 0
}

func (m *table) drop(client string) int {
	before := len(m.hits)
	m.hits = slices.DeleteFunc(m.hits, func(h api.Hit) bool { return h.Client == client })
	return before - len(m.hits)
}

func (m *table) match(name string) []api.Hit {
	var l []api.Hit
	for _, h := range m.hits {
		if match.Matches(h.Sub.Filter, name) {
			l = append(l, h)
		}
	}
	return l
}

// pair is an index and the table with which it is compared after every call.
type pair struct {
	t *testing.T
	x *trie.Index
	m *table
}

func newPair(t *testing.T) *pair { return &pair{t, trie.New(), &table{}} }

func (p *pair) add(client string, s api.Sub) {
	p.t.Helper()
	want, e := p.m.add(client, s)
	if got, code := p.x.Add(client, s); got != want || code != e {
		p.t.Errorf("Add(%q, %+v) = %v, %d, want %v, %d", client, s, got, code, want, e)
	}
	p.check()
}

func (p *pair) remove(client, filter string) {
	p.t.Helper()
	want := p.m.remove(client, filter)
	if got := p.x.Remove(client, filter); got != want {
		p.t.Errorf("Remove(%q, %q) = %v", client, filter, got)
	}
	p.check()
}

func (p *pair) drop(client string) {
	p.t.Helper()
	want := p.m.drop(client)
	if got := p.x.Drop(client); got != want {
		p.t.Errorf("Drop(%q) = %d, want %d", client, got, want)
	}
	p.check()
}

func (p *pair) check() {
	p.t.Helper()
	if got := p.x.All(); !slices.Equal(got, p.m.hits) || p.x.Len() != len(p.m.hits) {
		p.t.Fatalf("All = %v, Len = %d, want %v", got, p.x.Len(), p.m.hits)
	}
}

func (p *pair) match(names ...string) {
	p.t.Helper()
	for _, name := range names {
		if got, want := p.x.Match(name), p.m.match(name); !slices.Equal(got, want) {
			p.t.Errorf("Match(%q) = %v, want %v", name, got, want)
		}
	}
}

// all returns all texts of 1 to n of these levels.
func all(levels []string, n int) []string {
	var list []string
	row := []string{""}
	for i := range n {
		var next []string
		for _, s := range row {
			for _, level := range levels {
				if i > 0 {
					level = s + "/" + level
				}
				next = append(next, level)
			}
		}
		list = append(list, next...)
		row = next
	}
	return list
}

// filters returns many short topic filters.
func filters() []string {
	return slices.DeleteFunc(all([]string{"a", "b", "", "$s", "+", "#"}, 3), func(s string) bool { return !topic.Filter(s) })
}

// names returns many short topic names.
func names() []string {
	return slices.DeleteFunc(all([]string{"a", "b", "", "$s", "x"}, 4), func(s string) bool { return !topic.Valid(s) })
}

// matches checks what Match returns.
func matches(t *testing.T, x *trie.Index, name string, want ...api.Hit) {
	t.Helper()
	if got := x.Match(name); !slices.Equal(got, want) {
		t.Errorf("Match(%q) = %v, want %v", name, got, want)
	}
}

// adds checks what Add returns.
func adds(t *testing.T, x *trie.Index, client string, s api.Sub, replaced bool, code api.Errno) {
	t.Helper()
	if got, e := x.Add(client, s); got != replaced || e != code {
		t.Errorf("Add(%q, %+v) = %v, %d, want %v, %d", client, s, got, e, replaced, code)
	}
}

// P10.1 to P10.4, the examples
func TestExamples(t *testing.T) {
	x := trie.New()
	adds(t, x, "a", api.Sub{Filter: "s/#", Level: 1}, false, api.OK)
	adds(t, x, "a", api.Sub{Filter: "s/+"}, false, api.OK)
	adds(t, x, "b", api.Sub{Filter: "#", Level: 2}, false, api.OK)
	matches(t, x, "s/t", hit("a", "s/#", 1), hit("a", "s/+", 0), hit("b", "#", 2))
	matches(t, x, "s", hit("a", "s/#", 1), hit("b", "#", 2))
	matches(t, x, "$s")

	adds(t, x, "a", api.Sub{Filter: "s/#", Level: 2}, true, api.OK)
	if x.Len() != 3 {
		t.Errorf("Len = %d", x.Len())
	}
	matches(t, x, "s", hit("a", "s/#", 2), hit("b", "#", 2))

	adds(t, x, "A", api.Sub{Filter: "a/#"}, false, api.ErrName)
	adds(t, x, "A", api.Sub{Filter: "a/#/b"}, false, api.ErrName)
	adds(t, x, "a", api.Sub{Filter: "a/#/b", Level: 3}, false, api.ErrFilter)
	adds(t, x, "a", api.Sub{Filter: "$share/g/a", Level: 3}, false, api.ErrFilter)

	if first, second := x.Drop("a"), x.Drop("a"); first != 2 || second != 0 {
		t.Errorf("Drop = %d, then %d", first, second)
	}
	if got := x.All(); !slices.Equal(got, []api.Hit{hit("b", "#", 2)}) {
		t.Errorf("All = %v", got)
	}
}

// P10.1
func TestNew(t *testing.T) {
	x := trie.New()
	if x.Len() != 0 || len(x.All()) != 0 || len(x.Match("a")) != 0 || x.Drop("a") != 0 || x.Remove("a", "a") || x.Len() != 0 {
		t.Error("a new index is not empty")
	}
}

// P10.1: by client, then by filter, as bytes are ordered, in whatever order they came
func TestAll(t *testing.T) {
	want := []api.Hit{
		hit("a", "#", 0), hit("a", "+", 1), hit("a", "/", 2), hit("a", "A", 0), hit("a", "a", 1), hit("a", "a/", 2), hit("a", "a/b", 0), hit("a", "aa", 1), hit("a", "\uFFFD", 1), hit("a", "\xff", 2),
		hit("a-", "a", 0), hit("a0", "#", 1), hit("aa", "#", 2), hit("b", "#", 0), hit("b", "$s", 1), hit("b", "a", 2),
	}
	want[1].Sub.NoLocal = true
	random := rand.New(rand.NewSource(1))
	for range 20 {
		x := trie.New()
		for i, j := range random.Perm(len(want)) {
			adds(t, x, want[j].Client, want[j].Sub, false, api.OK)
			if x.Len() != i+1 {
				t.Errorf("Len = %d after %d", x.Len(), i+1)
			}
		}
		if got := x.All(); !slices.Equal(got, want) {
			t.Fatalf("All = %v", got)
		}
	}
}

// P10.2: a client has one subscription to a filter, and the last one counts.
func TestAddReplaces(t *testing.T) {
	x := trie.New()
	subs := []api.Sub{{Filter: "a/+", Level: 1}, {Filter: "a/+", Level: 1, NoLocal: true}, {Filter: "a/+", Level: 2, NoLocal: true}, {Filter: "a/+"}, {Filter: "a/+"}}
	other := api.Hit{Client: "d", Sub: api.Sub{Filter: "a/+", Level: 2}}
	adds(t, x, other.Client, other.Sub, false, api.OK)
	for i, s := range subs {
		adds(t, x, "c", s, i > 0, api.OK)
		matches(t, x, "a/b", api.Hit{Client: "c", Sub: s}, other)
		if got := x.All(); !slices.Equal(got, []api.Hit{{Client: "c", Sub: s}, other}) || x.Len() != 2 {
			t.Errorf("All = %v", got)
		}
	}
	adds(t, x, "c", api.Sub{Filter: "a/b", Level: 1}, false, api.OK)
	matches(t, x, "a/b", hit("c", "a/+", 0), hit("c", "a/b", 1), other)
}

// P10.2: the errors, and that they change nothing
func TestAddErrors(t *testing.T) {
	p := newPair(t)
	p.add("c", api.Sub{Filter: "a", Level: 1})
	for _, x := range []struct {
		client, filter string
		level          int
		code           api.Errno
	}{
		{"", "a", 1, api.ErrName}, {"C", "a", 1, api.ErrName}, {"9c", "a", 1, api.ErrName}, {"-", "a", 1, api.ErrName}, {"*", "a", 1, api.ErrName}, {strings.Repeat("c", api.MaxName+1), "a", 1, api.ErrName},
		{"c", "", 1, api.ErrFilter}, {"c", "a+", 1, api.ErrFilter}, {"c", "a/#/b", 1, api.ErrFilter}, {"c", "#/", 1, api.ErrFilter}, {"c", "a\x00", 1, api.ErrFilter},
		{"c", "1/2/3/4/5/6/7/8/9", 1, api.ErrFilter}, {"c", strings.Repeat("a", api.MaxTopic+1), 1, api.ErrFilter},
		{"c", "$share/g/a", 1, api.ErrFilter}, {"c", "$share/", 1, api.ErrFilter}, {"c", "$share/#", 1, api.ErrFilter}, {"c", "$share/G", 1, api.ErrFilter}, {"c", "$share/g/$share/h/a", 1, api.ErrFilter},
		{"c", "a", 3, api.ErrLevel}, {"c", "a", -1, api.ErrLevel}, {"c", "b", 3, api.ErrLevel}, {"c", "b", math.MaxInt, api.ErrLevel}, {"c", "b", math.MinInt, api.ErrLevel},
		{"", "", 3, api.ErrName}, {"C", "a", 3, api.ErrName}, {"c", "", 3, api.ErrFilter}, // several
	} {
		adds(t, p.x, x.client, api.Sub{Filter: x.filter, Level: x.level, NoLocal: true}, false, x.code)
		p.check()
		p.match("a", "b", "$share/g/a")
	}
	for _, filter := range []string{"$share", "$sharex/a", "$Share/a", "a/$share/b", "/$share/", "$", "#", "+/#", "/", "1/2/3/4/5/6/7/#", strings.Repeat("a", api.MaxTopic)} {
		adds(t, p.x, strings.Repeat("c", api.MaxName), api.Sub{Filter: filter, Level: 2}, false, api.OK)
	}
}

// full returns an index with as many subscriptions as possible.
func full(t *testing.T) *pair {
	t.Helper()
	p := newPair(t)
	for i := range maxSubs {
		client, filter := "c"+string(rune('a'+i%16)), string(rune('a'+i/16%8))+"/"+string(rune('a'+i/128))
		p.m.add(client, api.Sub{Filter: filter})
		adds(t, p.x, client, api.Sub{Filter: filter}, false, api.OK)
	}
	p.check()
	return p
}

// P10.2: a full index
func TestAddFull(t *testing.T) {
	p := full(t)
	if p.x.Len() != 1024 {
		t.Fatalf("Len = %d", p.x.Len())
	}
	adds(t, p.x, "ca", api.Sub{Filter: "new"}, false, api.ErrFull)
	adds(t, p.x, "new", api.Sub{Filter: "a/a"}, false, api.ErrFull)
	adds(t, p.x, "New", api.Sub{Filter: "new"}, false, api.ErrName)
	adds(t, p.x, "ca", api.Sub{Filter: "new+"}, false, api.ErrFilter)
	adds(t, p.x, "ca", api.Sub{Filter: "new", Level: 3}, false, api.ErrLevel)
	adds(t, p.x, "ca", api.Sub{Filter: "a/a", Level: 3}, false, api.ErrLevel)
	p.check()
	p.match("new", "a/a")

	p.add("ca", api.Sub{Filter: "a/a", Level: 2, NoLocal: true}) // replaces
	p.remove("ca", "a/b")
	p.add("new", api.Sub{Filter: "a/a"})
	p.add("ca", api.Sub{Filter: "a/b"}) // full again
	p.drop("cb")
	p.add("ca", api.Sub{Filter: "a/b"})
	p.match("a/a", "a/b", "h/h", "a", "a/a/a")
}

// P10.3
func TestRemove(t *testing.T) {
	p := newPair(t)
	for _, client := range []string{"a", "b"} {
		for _, filter := range []string{"a", "a/b", "a/b/c", "a/#", "a/+", "#", "/a", ""} {
			p.m.add(client, api.Sub{Filter: filter, Level: 1})
			p.x.Add(client, api.Sub{Filter: filter, Level: 1})
		}
	}
	p.check()
	absent := [][2]string{
		{"a", ""}, {"a", "/"}, {"a", "+"}, {"a", "a/"}, {"a", "a/b/"}, {"a", "a/b/c/d"}, {"a", "a/b/#"}, {"a", "a/+/c"}, {"a", "b"}, {"a", "A"}, {"a", strings.Repeat("/", 5000)}, {"a", "$share/g/a"}, {"a", "a#"},
		{"", "a"}, {"A", "a"}, {"c", "a"}, {"a", "a/b/c/d/e/f/g/h/i/j"},
	}
	for _, x := range absent {
		p.remove(x[0], x[1])
	}
	for _, filter := range []string{"a/b", "a/b", "a", "#", "a/b/c", "a/#", "/a", "a/+", "a/+"} {
		p.remove("a", filter)
		p.match("a", "a/b", "a/b/c", "a/x", "/a", "x", "$s")
		p.remove("b", filter)
		p.match("a", "a/b", "a/b/c", "a/x", "/a", "x", "$s")
	}
	if p.x.Len() != 0 {
		t.Errorf("Len = %d", p.x.Len())
	}
}

// P10.3
func TestDrop(t *testing.T) {
	p := newPair(t)
	for i, filter := range filters() {
		p.m.add("a", api.Sub{Filter: filter, Level: i % 3})
		p.x.Add("a", api.Sub{Filter: filter, Level: i % 3})
		if i%2 == 0 {
			p.m.add("b", api.Sub{Filter: filter})
			p.x.Add("b", api.Sub{Filter: filter})
		}
	}
	for _, client := range []string{"", "A", "c", "aa", "#", "a", "a", "b", "b"} {
		p.drop(client)
		p.match("a", "a/b", "/", "$s/a", "a/$s/b")
	}
	if p.x.Len() != 0 {
		t.Errorf("Len = %d", p.x.Len())
	}
	p.add("a", api.Sub{Filter: "a/b"})
	p.match("a/b")
}

// P10.4: topic names whose levels are many, empty, wildcards elsewhere, or begin with a dollar sign
func TestMatch(t *testing.T) {
	p := newPair(t)
	for _, filter := range []string{
		"#", "+", "+/+", "+/#", "/", "/+", "+/", "/#", "//", "a", "a/", "a/#", "a/+", "a/+/#", "a/b", "a/b/#", "a/+/c", "+/b/c", "+/+/c", "a//c", "A", "aa", "$s", "$s/#", "$s/+", "$s/a", "+/$s", "a/$s", "a/$share/b", "$", "$share",
		"1/2/3/4/5/6/7/8", "1/2/3/4/5/6/7/#", "1/2/3/4/5/6/7/+", "+/+/+/+/+/+/+/+", "+/+/+/+/+/+/+/#", "1/2/3/4/5/6/7", "\xff", "\xff/+", "\uFFFD", strings.Repeat("a", api.MaxTopic),
	} {
		p.add("c", api.Sub{Filter: filter, Level: 1})
	}
	p.match("a", "b", "aa", "A", "a/", "/a", "/", "//", "///", "a/b", "a/b/c", "a//c", "b/b/c", "a/b/c/d", "$s", "$s/a", "$s/a/b", "$s/", "a/$s", "b/$s", "a/$share/b", "$", "$x", "$share", "$share/g/a", "\xff", "\xff/a", "\xfe", "\uFFFD")
	p.match("1/2/3/4/5/6/7/8", "1/2/3/4/5/6/7", "1/2/3/4/5/6/7/9", "8/7/6/5/4/3/2/1", "$/2/3/4/5/6/7/8", "///////", strings.Repeat("a", api.MaxTopic))
	for _, name := range []string{"", "+", "#", "a/+", "a/#", "+/b", "a+", "a\x00", "\x00", "1/2/3/4/5/6/7/8/9", "////////", strings.Repeat("a", api.MaxTopic+1), strings.Repeat("/", 5000)} {
		if got := p.x.Match(name); len(got) != 0 {
			t.Errorf("Match(%.80q) = %v", name, got)
		}
	}
}

// P10.5: all short filters and names
func TestMatchByDefinition(t *testing.T) {
	p := newPair(t)
	for i, filter := range filters() {
		for j, client := range []string{"a", "b", "c-1"} {
			if (i+j)%3 != 0 {
				s := api.Sub{Filter: filter, Level: (i + j) % 3, NoLocal: i%2 == 0}
				p.m.add(client, s)
				adds(t, p.x, client, s, false, api.OK)
			}
		}
	}
	p.check()
	p.match(names()...)
}

// P10.5: each short filter alone
func TestMatchAlone(t *testing.T) {
	for _, filter := range filters() {
		p := newPair(t)
		p.add("a", api.Sub{Filter: filter, Level: 2})
		p.match(names()...)
	}
}

// P10.1 to P10.5: calls in no particular order
func TestCalls(t *testing.T) {
	random := rand.New(rand.NewSource(7))
	clients := []string{"a", "b", "c", "d", "E", ""}
	some := append(filters(), "a#", "", "$share/g/a", "1/2/3/4/5/6/7/#", "1/2/3/4/5/6/7/8")
	asked := append(names(), "#", "", "1/2/3/4/5/6/7/8", "1/2/3/4/5/6/7")
	p := newPair(t)
	for range 5000 {
		client, filter := clients[random.Intn(len(clients))], some[random.Intn(len(some))]
		switch n := random.Intn(100); {
		case n == 0:
			p.drop(client)
		case n <= 30:
			p.remove(client, filter)
		default:
			p.add(client, api.Sub{Filter: filter, Level: random.Intn(9)/2 - 1, NoLocal: random.Intn(2) == 0})
		}
		p.match(asked[random.Intn(len(asked))])
	}
}

// P10.5: who adds a subscription that was not there, and removes it, has the index as before.
func TestAddAndRemove(t *testing.T) {
	p := newPair(t)
	for _, filter := range []string{"a/b", "a/+/c", "#", "b"} {
		p.add("a", api.Sub{Filter: filter, Level: 1})
	}
	for _, client := range []string{"a", "b"} {
		for _, filter := range filters() {
			if replaced, _ := p.x.Add(client, api.Sub{Filter: filter, Level: 2}); replaced {
				p.x.Add(client, api.Sub{Filter: filter, Level: 1})
				continue
			}
			if !p.x.Remove(client, filter) {
				t.Errorf("Remove(%q, %q) after Add", client, filter)
			}
			p.check()
			p.match("a", "a/b", "a/b/c", "b", "/", "$s", "a/$s")
		}
	}
}

// P10.5: indexes do not influence each other.
func TestTwo(t *testing.T) {
	p, q := newPair(t), newPair(t)
	p.add("a", api.Sub{Filter: "a/+", Level: 1})
	q.check()
	q.add("a", api.Sub{Filter: "a/+", Level: 2})
	q.add("b", api.Sub{Filter: "a/b", Level: 2})
	p.check()
	p.match("a/b")
	q.match("a/b")
	p.drop("a")
	q.check()
	q.match("a/b")
	q.remove("b", "a/b")
	q.drop("a")
	p.add("b", api.Sub{Filter: "#"})
	q.check()
}

// R5: results are new.
func TestResultsAreNew(t *testing.T) {
	p := newPair(t)
	for _, filter := range []string{"a", "+", "#"} {
		p.add("a", api.Sub{Filter: filter, Level: 1})
		p.add("b", api.Sub{Filter: filter, Level: 1})
	}
	first, second := p.x.Match("a"), p.x.Match("a")
	whole, again := p.x.All(), p.x.All()
	clear(first[:cap(first)])
	clear(whole[:cap(whole)])
	if !slices.Equal(second, p.m.match("a")) || !slices.Equal(again, p.m.hits) {
		t.Error("results share memory")
	}
	p.check()
	p.match("a")
}
