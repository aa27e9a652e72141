package share_test

import (
	"cmp"
	"math/rand"
	"slices"
	"strings"
	"testing"

	"broker/api"
	"broker/match"
	"broker/share"
	"broker/topic"
)

// position stands among the members of a row, where the chapter says that the position is.
const position = "|"

// row is a group as the chapter defines it: its members in order, with the position among them.
type row struct {
	group, filter string
	line          []string
}

func (r *row) members() []string {
	return slices.DeleteFunc(slices.Clone(r.line), func(s string) bool { return s == position })
}

// choose lists the members in turn, takes one, and puts the position right behind it.
func (r *row) choose(online []string) string {
	at := slices.Index(r.line, position)
	turn := slices.Concat(r.line[at+1:], r.line[:at])
	chosen := turn[0]
	if i := slices.IndexFunc(turn, func(s string) bool { return slices.Contains(online, s) }); i >= 0 {
		chosen = turn[i]
	}
	r.line = slices.Insert(r.members(), slices.Index(r.members(), chosen)+1, position)
	return chosen
}

// table is a set of groups as the chapter defines it: a list in the order of groups.
type table struct{ rows []*row }

func (m *table) find(group, filter string) *row {
	for _, r := range m.rows {
		if r.group == group && r.filter == filter {
			return r
		}
	}
	return nil
}

func (m *table) join(group, filter, client string) (bool, api.Errno) {
	if !topic.Name(group) || !topic.Name(client) {
		return false, api.ErrName
	}
	if !topic.Filter(filter) || strings.HasPrefix(filter, "$share/") {
		return false, api.ErrFilter
	}
	r := m.find(group, filter)
	if r == nil {
		r = &row{group, filter, []string{position}}
		m.rows = append(m.rows, r)
		slices.SortFunc(m.rows, func(a, b *row) int {
			return cmp.Or(cmp.Compare(a.group, b.group), cmp.Compare(a.filter, b.filter))
		})
	}
	if slices.Contains(r.line, client) {
		return false, api.OK
	}
	r.line = append(r.line, client)
	return true, api.OK
}

func (m *table) leave(group, filter, client string) bool {
	r := m.find(group, filter)
	if r == nil || !slices.Contains(r.members(), client) {
		return false
	}
	r.line = slices.DeleteFunc(r.line, func(s string) bool { return s == client })
	m.rows = slices.DeleteFunc(m.rows, func(r *row) bool { return len(r.members()) == 0 })
	return true
}

func (m *table) drop(client string) int {
	dropped := 0
	for _, r := range slices.Clone(m.rows) {
		if m.leave(r.group, r.filter, client) {
			dropped++
		}
	}
	return dropped
}

func (m *table) choose(name string, online []string) []api.Pick {
	var l []api.Pick
	for _, r := range m.rows {
		if match.Matches(r.filter, name) {
			l = append(l, api.Pick{Group: r.group, Filter: r.filter, Client: r.choose(online)})
		}
	}
	return l
}

// pair is a set of groups and the table with which it is compared after every call.
type pair struct {
	t *testing.T
	g *share.Groups
	m *table
}

func newPair(t *testing.T) *pair { return &pair{t, share.New(), &table{}} }

func (p *pair) join(group, filter, client string) {
	p.t.Helper()
	want, e := p.m.join(group, filter, client)
	if got, code := p.g.Join(group, filter, client); got != want || code != e {
		p.t.Errorf("Join(%q, %q, %q) = %v, %d, want %v, %d", group, filter, client, got, code, want, e)
	}
	p.check()
}

func (p *pair) leave(group, filter, client string) {
	p.t.Helper()
	want := p.m.leave(group, filter, client)
	if got := p.g.Leave(group, filter, client); got != want {
		p.t.Errorf("Leave(%q, %q, %q) = %v", group, filter, client, got)
	}
	p.check()
}

func (p *pair) drop(client string) {
	p.t.Helper()
	want := p.m.drop(client)
	if got := p.g.Drop(client); got != want {
		p.t.Errorf("Drop(%q) = %d, want %d", client, got, want)
	}
	p.check()
}

func (p *pair) choose(name string, online ...string) {
	p.t.Helper()
	want := p.m.choose(name, online)
	if got := p.g.Choose(name, online); !slices.Equal(got, want) {
		p.t.Errorf("Choose(%.80q, %q) = %v, want %v", name, online, got, want)
	}
	p.check()
}

func (p *pair) check() {
	p.t.Helper()
	if p.g.Len() != len(p.m.rows) {
		p.t.Fatalf("Len = %d, want %d", p.g.Len(), len(p.m.rows))
	}
	for _, r := range p.m.rows {
		if got := p.g.Members(r.group, r.filter); !slices.Equal(got, r.members()) {
			p.t.Fatalf("Members(%q, %q) = %q, want %q", r.group, r.filter, got, r.members())
		}
	}
}

// joins adds clients to the group g of a filter.
func joins(t *testing.T, g *share.Groups, filter string, clients ...string) {
	t.Helper()
	for _, client := range clients {
		if got, code := g.Join("g", filter, client); !got || code != api.OK {
			t.Errorf("Join(g, %q, %q) = %v, %d", filter, client, got, code)
		}
	}
}

// chosen checks which members of the single group that matches are chosen one after the other.
func chosen(t *testing.T, g *share.Groups, name, online, want string) {
	t.Helper()
	for i, client := range strings.Fields(want) {
		if got := g.Choose(name, strings.Fields(online)); len(got) != 1 || got[0].Client != client {
			t.Errorf("Choose(%q, %q), time %d = %v, want %q", name, online, i+1, got, client)
		}
	}
}

// P11.1 to P11.4, the examples
func TestExamples(t *testing.T) {
	g := share.New()
	joins(t, g, "t/+", "a", "b", "c")
	chosen(t, g, "t/x", "a b c", "a b c a")
	if got := g.Choose("t", []string{"a", "b", "c"}); len(got) != 0 {
		t.Errorf("Choose(t) = %v", got)
	}
	chosen(t, g, "t/x", "c", "c")
	chosen(t, g, "t/x", "", "a b")

	if !g.Leave("g", "t/+", "b") {
		t.Error("b was not a member")
	}
	chosen(t, g, "t/x", "a b c", "c")
	joins(t, g, "t/+", "d")
	chosen(t, g, "t/x", "a b c d", "d")

	g.Join("h", "t/#", "z")
	want := []api.Pick{{Group: "g", Filter: "t/+", Client: "a"}, {Group: "h", Filter: "t/#", Client: "z"}}
	if got := g.Choose("t/x", []string{"a", "z"}); !slices.Equal(got, want) {
		t.Errorf("Choose = %v", got)
	}

	for _, x := range []struct {
		group, filter string
		code          api.Errno
	}{{"G", "a/b", api.ErrName}, {"G", "a/#/b", api.ErrName}, {"g", "$share/h/a", api.ErrFilter}} {
		if got, code := g.Join(x.group, x.filter, "a"); got || code != x.code {
			t.Errorf("Join(%q, %q) = %v, %d", x.group, x.filter, got, code)
		}
	}
}

// P11.1
func TestNew(t *testing.T) {
	g := share.New()
	if g.Len() != 0 || len(g.Members("g", "a")) != 0 || len(g.Choose("a", []string{"a"})) != 0 || g.Leave("g", "a", "a") || g.Drop("a") != 0 || g.Len() != 0 {
		t.Error("a new set of groups is not empty")
	}
}

// P11.1: a group is its group name and its filter; members are in the order in which they joined.
func TestMembers(t *testing.T) {
	p := newPair(t)
	for _, x := range [][3]string{{"g", "t", "c"}, {"g", "t", "a"}, {"g", "t", "b"}, {"g", "+", "b"}, {"h", "t", "z"}, {"h", "t", "a"}, {"h", "+", "a"}, {"gt", "t", "x"}, {"g", "tt", "y"}} {
		p.join(x[0], x[1], x[2])
	}
	if p.g.Len() != 6 || !slices.Equal(p.g.Members("g", "t"), []string{"c", "a", "b"}) {
		t.Errorf("Len = %d, Members = %q", p.g.Len(), p.g.Members("g", "t"))
	}
	for _, x := range [][2]string{{"h", "tt"}, {"gt", "+"}, {"", "t"}, {"g", ""}, {"G", "t"}, {"g", "T"}, {"g", "t/"}, {"g", "$share/g/t"}, {"$share/g", "t"}, {"", "$share/g/t"}, {"g", "a#"}, {strings.Repeat("g", 5000), strings.Repeat("/", 5000)}} {
		if got := p.g.Members(x[0], x[1]); len(got) != 0 {
			t.Errorf("Members(%.20q, %.20q) = %q", x[0], x[1], got)
		}
	}
}

// P11.2: who is a member stays where it is, and the position too.
func TestJoinAgain(t *testing.T) {
	p := newPair(t)
	for _, client := range []string{"b", "a", "c", "a", "b", "c", "c"} {
		p.join("g", "t", client)
	}
	p.choose("t", "a", "b", "c")
	for _, client := range []string{"a", "b", "c", "d"} {
		p.join("g", "t", client)
		p.join("g", "t", client)
		p.choose("t", "a", "b", "c", "d")
	}
	p.join("h", "t", "a") // a member of another group
	p.join("g", "u", "a")
	p.choose("t", "a", "b", "c", "d")
}

// P11.2: the errors, their order, and that they change nothing
func TestJoinErrors(t *testing.T) {
	p := newPair(t)
	p.join("g", "t", "a")
	long := strings.Repeat("g", api.MaxName+1)
	for _, x := range []struct {
		group, filter, client string
		code                  api.Errno
	}{
		{"", "t", "a", api.ErrName}, {"G", "t", "a", api.ErrName}, {"9g", "t", "a", api.ErrName}, {"-", "t", "a", api.ErrName}, {"g/h", "t", "a", api.ErrName}, {"+", "t", "a", api.ErrName}, {long, "t", "a", api.ErrName},
		{"g", "t", "", api.ErrName}, {"g", "t", "A", api.ErrName}, {"g", "t", "9a", api.ErrName}, {"g", "t", "a_b", api.ErrName}, {"g", "t", "*", api.ErrName}, {"g", "t", long, api.ErrName}, {"h", "t", "", api.ErrName},
		{"g", "", "a", api.ErrFilter}, {"g", "t+", "a", api.ErrFilter}, {"g", "a/#/b", "a", api.ErrFilter}, {"g", "t\x00", "a", api.ErrFilter}, {"g", "1/2/3/4/5/6/7/8/9", "a", api.ErrFilter}, {"g", strings.Repeat("t", api.MaxTopic+1), "a", api.ErrFilter},
		{"g", "$share/h/a", "a", api.ErrFilter}, {"g", "$share/", "a", api.ErrFilter}, {"g", "$share/#", "a", api.ErrFilter}, {"g", "$share/H", "a", api.ErrFilter}, {"g", "$share/g/t", "a", api.ErrFilter},
		{"G", "t+", "A", api.ErrName}, {"G", "t+", "a", api.ErrName}, {"g", "t+", "A", api.ErrName}, {"g", "$share/g/t", "A", api.ErrName}, // several
	} {
		if got, code := p.g.Join(x.group, x.filter, x.client); got || code != x.code {
			t.Errorf("Join(%q, %q, %q) = %v, %d, want %d", x.group, x.filter, x.client, got, code, x.code)
		}
		if len(p.g.Members(x.group, x.filter)) > 1 {
			t.Errorf("Members(%q, %q) = %q", x.group, x.filter, p.g.Members(x.group, x.filter))
		}
		p.check()
	}
	p.choose("t", "a")
	name := strings.Repeat("g", api.MaxName)
	for _, filter := range []string{"$share", "$sharex/a", "$Share/a", "a/$share/b", "/$share/", "$", "#", "+/#", "/", "1/2/3/4/5/6/7/#", strings.Repeat("t", api.MaxTopic)} {
		if got, code := p.g.Join(name, filter, name); !got || code != api.OK {
			t.Errorf("Join(%q, %q, %q) = %v, %d", name, filter, name, got, code)
		}
	}
}

// P11.3
func TestLeave(t *testing.T) {
	p := newPair(t)
	for _, filter := range []string{"t", "+", "t/#"} {
		for _, client := range []string{"a", "b", "c"} {
			p.join("g", filter, client)
			p.join("h", filter, client)
		}
	}
	p.choose("t", "a", "b", "c")
	for _, x := range [][3]string{
		{"g", "t", "d"}, {"g", "t", ""}, {"g", "t", "A"}, {"g", "t", position}, {"g", "u", "a"}, {"g", "", "a"}, {"", "t", "a"}, {"i", "t", "a"}, {"g", "$share/g/t", "a"}, {"g", "t#", "a"}, {strings.Repeat("g", 5000), strings.Repeat("/", 5000), "a"},
		{"g", "t", "b"}, {"g", "t", "b"}, {"g", "t", "a"}, {"g", "t", "c"}, {"g", "t", "c"}, {"h", "t", "c"}, {"h", "t", "a"}, {"g", "+", "a"}, {"h", "t", "b"}, {"h", "t", "b"},
	} {
		p.leave(x[0], x[1], x[2])
		p.choose("t", "a", "b", "c")
	}
	if p.g.Len() != 4 {
		t.Errorf("Len = %d", p.g.Len())
	}
}

// P11.3
func TestDrop(t *testing.T) {
	p := newPair(t)
	for i, filter := range []string{"t", "+", "#", "t/#", "u", "+/+"} {
		p.join("g", filter, "a")
		p.join("h", filter, "b")
		p.join("h", filter, "a")
		if i%2 == 0 {
			p.join("h", filter, "c")
			p.choose("t", "a", "b", "c")
		}
	}
	for _, want := range []struct {
		client string
		n      int
	}{{"d", 0}, {"", 0}, {"A", 0}, {"g", 0}, {"a", 12}, {"a", 0}, {"c", 3}, {"b", 6}, {"b", 0}} {
		if n := p.m.drop(want.client); n != want.n {
			t.Fatalf("the table drops %q from %d", want.client, n)
		}
		if n := p.g.Drop(want.client); n != want.n {
			t.Errorf("Drop(%q) = %d, want %d", want.client, n, want.n)
		}
		p.check()
		p.choose("t", "a", "b", "c")
	}
	if p.g.Len() != 0 {
		t.Errorf("Len = %d", p.g.Len())
	}
	p.join("g", "t", "a")
	p.choose("t", "a")
}

// A group without members does not exist, and its position is forgotten.
func TestForgotten(t *testing.T) {
	for _, remove := range []func(g *share.Groups){
		func(g *share.Groups) { g.Leave("g", "t", "a"); g.Leave("g", "t", "b") },
		func(g *share.Groups) { g.Drop("b"); g.Drop("a") },
	} {
		g := share.New()
		joins(t, g, "t", "a", "b")
		chosen(t, g, "t", "a b", "a b a")
		remove(g)
		if g.Len() != 0 || len(g.Members("g", "t")) != 0 || len(g.Choose("t", []string{"a", "b"})) != 0 {
			t.Error("a group without members exists")
		}
		joins(t, g, "t", "a", "b", "c")
		chosen(t, g, "t", "a b c", "a b c a")
	}
}

// Definitions: the position, when members join and leave on either side of it
func TestPosition(t *testing.T) {
	for _, x := range []struct {
		name, before string // who is chosen first
		change       func(g *share.Groups)
		want         string
	}{
		{"nobody is chosen, the first one leaves", "", func(g *share.Groups) { g.Leave("g", "t", "a") }, "b c b"},
		{"nobody is chosen, one joins", "", func(g *share.Groups) { g.Join("g", "t", "d") }, "a b c d"},
		{"after a, a leaves", "a", func(g *share.Groups) { g.Leave("g", "t", "a") }, "b c b"},
		{"after a, b leaves", "a", func(g *share.Groups) { g.Leave("g", "t", "b") }, "c a c"},
		{"after b, a leaves", "a b", func(g *share.Groups) { g.Leave("g", "t", "a") }, "c b c"},
		{"after b, b leaves", "a b", func(g *share.Groups) { g.Leave("g", "t", "b") }, "c a c"},
		{"after b, c leaves", "a b", func(g *share.Groups) { g.Leave("g", "t", "c") }, "a b a"},
		{"after b, c leaves, d joins", "a b", func(g *share.Groups) { g.Leave("g", "t", "c"); g.Join("g", "t", "d") }, "d a b"},
		{"after b, b leaves and joins", "a b", func(g *share.Groups) { g.Leave("g", "t", "b"); g.Join("g", "t", "b") }, "c b a"},
		{"after b, a and b leave, a joins", "a b", func(g *share.Groups) { g.Leave("g", "t", "a"); g.Leave("g", "t", "b"); g.Join("g", "t", "a") }, "c a c"},
		{"after c, d joins", "a b c", func(g *share.Groups) { g.Join("g", "t", "d") }, "d a b c"},
		{"after c, c leaves", "a b c", func(g *share.Groups) { g.Leave("g", "t", "c") }, "a b a"},
		{"after c, c leaves, d joins", "a b c", func(g *share.Groups) { g.Leave("g", "t", "c"); g.Join("g", "t", "d") }, "d a b"},
		{"after c, a leaves, d joins", "a b c", func(g *share.Groups) { g.Leave("g", "t", "a"); g.Join("g", "t", "d") }, "d b c"},
		{"after c, a leaves and joins", "a b c", func(g *share.Groups) { g.Leave("g", "t", "a"); g.Join("g", "t", "a") }, "a b c"},
		{"after a once more, d joins", "a b c a", func(g *share.Groups) { g.Join("g", "t", "d") }, "b c d a"},
		{"after b, a is dropped", "a b", func(g *share.Groups) { g.Drop("a") }, "c b c"},
		{"after b, b leaves another group", "a b", func(g *share.Groups) { g.Join("h", "u", "b"); g.Leave("h", "u", "b") }, "c a b"},
	} {
		t.Run(x.name, func(t *testing.T) {
			g := share.New()
			joins(t, g, "t", "a", "b", "c")
			chosen(t, g, "t", "a b c d", x.before)
			x.change(g)
			chosen(t, g, "t", "a b c d", x.want)
		})
	}
}

// P11.4: who is online, in whatever order and however often
func TestChooseOnline(t *testing.T) {
	g := share.New()
	joins(t, g, "t", "a", "b", "c", "d")
	chosen(t, g, "t", "d c b a", "a b")
	chosen(t, g, "t", "a", "a a")   // passes c and d, then b, c and d
	chosen(t, g, "t", "b d", "b d") // passes c
	chosen(t, g, "t", "c b b c", "b c")
	chosen(t, g, "t", "x y", "d a") // nobody of the group
	chosen(t, g, "t", "", "b c")    // nobody at all
	chosen(t, g, "t", "A x a", "a") // only a
	chosen(t, g, "t", "a b c d", "b c d a b")
	joins(t, g, "t", "e")
	chosen(t, g, "t", "e e e", "e e")
	if got := g.Choose("t", []string{"", "\x00", strings.Repeat("a", 9999), "a", "b"}); len(got) != 1 || got[0].Client != "a" {
		t.Errorf("Choose = %v", got)
	}
}

// P11.4: groups whose filters match, in the order of groups, each with a position of its own
func TestChooseGroups(t *testing.T) {
	p := newPair(t)
	filters := []string{"t/x", "#", "+/x", "t/+", "t/#", "t", "+", "$s", "$s/#", "$s/+", "+/+", "t/x/#", "/x", "u/x", "\xff/x", "\uFFFD/x", "t/", "tt/x"}
	groups := []string{"h", "g", "g-1", "ga", "g1", "a"}
	for i, filter := range filters {
		for j, group := range groups {
			for k := range (i+j)%3 + 1 {
				p.join(group, filter, string(rune('a'+(j+k)%3)))
			}
		}
	}
	for _, name := range []string{"t/x", "t", "$s", "$s/x", "/x", "t/x/y", "u/x", "u", "\xff/x", "t/", "tt/x", "t/x", "t/x"} {
		p.choose(name, "a", "c")
		p.choose(name, "b")
		p.choose(name)
	}
	if got := p.g.Choose("t/x", nil); len(got) != 7*len(groups) {
		t.Errorf("%d groups match", len(got))
	}
}

// P11.4: what is no topic name has no effect.
func TestChooseInvalid(t *testing.T) {
	g := share.New()
	for _, filter := range []string{"#", "+", "+/#", "t/+", "/#"} {
		joins(t, g, filter, "a", "b")
	}
	for _, name := range []string{"", "+", "#", "t/+", "t/#", "+/x", "t+", "t#", "t\x00", "1/2/3/4/5/6/7/8/9", "////////", strings.Repeat("t", api.MaxTopic+1), strings.Repeat("/", 5000), "$share/g/t", "$s"} {
		if got := g.Choose(name, []string{"a", "b"}); len(got) != 0 {
			t.Errorf("Choose(%.80q) = %v", name, got)
		}
	}
	for _, want := range []string{"a", "b"} {
		if got := g.Choose("t/x", []string{"a", "b"}); len(got) != 3 || got[0].Client != want || got[1].Client != want || got[2].Client != want {
			t.Errorf("Choose = %v", got)
		}
	}
}

// P11.5: for every set of members that are online, wherever the position is
func TestEqual(t *testing.T) {
	members := []string{"a", "b", "c", "d", "e"}
	for start := range members {
		for online := range 1 << len(members) {
			g := share.New()
			joins(t, g, "t", members...)
			chosen(t, g, "t", strings.Join(members, " "), strings.Join(members[:start], " "))
			var present, turn []string
			for i, client := range members {
				if online>>i&1 == 1 {
					present = append(present, client)
				}
			}
			turn = present
			if len(turn) == 0 {
				turn = members
			}
			counts := map[string]int{}
			for range 12 {
				counts[g.Choose("t", present)[0].Client]++
				least, most := counts[turn[0]], counts[turn[0]]
				for _, client := range turn {
					least, most = min(least, counts[client]), max(most, counts[client])
				}
				if most-least > 1 || len(counts) > len(turn) {
					t.Fatalf("of %q online, from %d on: %v", present, start, counts)
				}
			}
			for client := range counts {
				if !slices.Contains(turn, client) {
					t.Errorf("of %q online, %q is chosen", present, client)
				}
			}
		}
	}
}

// R5, R9: arguments and results are not kept, and two sets do not influence each other.
func TestMemory(t *testing.T) {
	g, other := share.New(), share.New()
	joins(t, g, "t", "a", "b")
	joins(t, other, "t", "b", "a")
	members := g.Members("g", "t")
	clear(members[:cap(members)])
	if got := append(g.Members("g", "t")[:1], "x"); !slices.Equal(got, []string{"a", "x"}) || !slices.Equal(g.Members("g", "t"), []string{"a", "b"}) {
		t.Errorf("Members = %q", g.Members("g", "t"))
	}
	online := []string{"b", "a", "b", "c"}
	picks := g.Choose("t", online)
	if !slices.Equal(online, []string{"b", "a", "b", "c"}) {
		t.Errorf("online is %q", online)
	}
	clear(online)
	clear(picks)
	chosen(t, g, "t", "a b", "b a")
	chosen(t, other, "t", "a b", "b a")
	g.Drop("a")
	if got := other.Members("g", "t"); !slices.Equal(got, []string{"b", "a"}) {
		t.Errorf("Members of the other set = %q", got)
	}
}

// P11.1 to P11.4: calls in no particular order
func TestCalls(t *testing.T) {
	random := rand.New(rand.NewSource(11))
	pick := func(l []string) string { return l[random.Intn(len(l))] }
	groups := []string{"g", "h", "i", "g", "h", "G", ""}
	filters := []string{"t", "+", "t/#", "#", "+/x", "t/x", "$s/#", "a/#/b", "", "$share/g/t"}
	clients := []string{"a", "b", "c", "d", "e", "f", "A", ""}
	names := []string{"t", "t/x", "u", "u/x", "$s", "$s/x", "t/x/y", "#", ""}
	p := newPair(t)
	for range 20000 {
		switch n := random.Intn(100); {
		case n < 2:
			p.drop(pick(clients))
		case n < 12:
			p.leave(pick(groups), pick(filters), pick(clients))
		case n < 40:
			p.join(pick(groups), pick(filters), pick(clients))
		default:
			var online []string
			for range random.Intn(5) {
				online = append(online, pick(clients))
			}
			p.choose(pick(names), online...)
		}
	}
}
