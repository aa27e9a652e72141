package retain_test

import (
	"cmp"
	"math"
	"math/rand"
	"slices"
	"strconv"
	"strings"
	"testing"

	"broker/api"
	"broker/match"
	"broker/message"
	"broker/retain"
	"broker/topic"
)

// kept returns a message that can be retained.
func kept(name, payload string, expires int) api.Message {
	return api.Message{Topic: name, Payload: payload, Retain: true, Expires: expires}
}

// full returns a message of which no field is zero.
func full(name string) api.Message {
	return api.Message{Topic: name, Payload: "21", Level: 2, Retain: true, Priority: 9, Expires: 100, From: "pub-1", Seq: 300, Props: []api.Prop{{Key: "a", Value: "1"}, {Key: "b", Value: ""}}}
}

// same reports whether two lists have equal messages.
func same(a, b []api.Message) bool { return slices.EqualFunc(a, b, message.Same) }

// table is a store as the chapter defines it: a list of messages in the order of topics.
type table struct {
	capacity int
	list     []api.Message
}

func (m *table) index(name string) int {
	return slices.IndexFunc(m.list, func(x api.Message) bool { return x.Topic == name })
}

func (m *table) put(x api.Message, now int) api.Errno {
	i := m.index(x.Topic)
	code := message.Check(x)
	switch {
	case code != api.OK:
		return code
	case !x.Retain:
		return api.ErrField
	case x.Payload == "" || x.Expires != 0 && x.Expires <= now:
		if i >= 0 {
			m.list = slices.Delete(m.list, i, i+1)
		}
		return api.OK
	case i >= 0:
		m.list[i] = x
		return api.OK
	}
	if len(m.list) == m.capacity {
		m.expire(now)
	}
	if len(m.list) == m.capacity {
		return api.ErrFull
	}
	m.list = append(m.list, x)
	slices.SortFunc(m.list, func(a, b api.Message) int { return cmp.Compare(a.Topic, b.Topic) })
	return api.OK
}

func (m *table) expire(now int) int {
	before := len(m.list)
	m.list = slices.DeleteFunc(m.list, func(x api.Message) bool { return x.Expires != 0 && x.Expires <= now })
	return before - len(m.list)
}

func (m *table) match(filter string, now int) []api.Message {
	var l []api.Message
	for _, x := range m.list {
		if match.Matches(filter, x.Topic) && (x.Expires == 0 || now < x.Expires) {
			l = append(l, x)
		}
	}
	return l
}

func (m *table) get(name string, now int) (api.Message, bool) {
	i := m.index(name)
	if i < 0 || m.list[i].Expires != 0 && m.list[i].Expires <= now {
		return api.Message{}, false
	}
	return m.list[i], true
}

// pair is a store and the table with which it is compared after every call.
type pair struct {
	t *testing.T
	s *retain.Store
	m *table
}

func newPair(t *testing.T, capacity int) *pair {
	return &pair{t, retain.New(capacity), &table{capacity: capacity}}
}

// put puts a message and checks that its error is the one wanted, for the store and for the table.
func (p *pair) put(m api.Message, now int, want api.Errno) {
	p.t.Helper()
	if code := p.m.put(m, now); code != want {
		p.t.Fatalf("the table's Put of %+v at %d = %d, want %d", m, now, code, want)
	}
	if code := p.s.Put(m, now); code != want {
		p.t.Errorf("Put of %+v at %d = %d, want %d", m, now, code, want)
	}
	p.check(now)
	p.get(m.Topic, now)
}

func (p *pair) expire(now, want int) {
	p.t.Helper()
	if n := p.m.expire(now); n != want {
		p.t.Fatalf("the table's Expire at %d = %d", now, n)
	}
	if n := p.s.Expire(now); n != want {
		p.t.Errorf("Expire at %d = %d, want %d", now, n, want)
	}
	p.check(now)
}

func (p *pair) get(name string, now int) {
	p.t.Helper()
	want, there := p.m.get(name, now)
	if got, found := p.s.Get(name, now); found != there || !message.Same(got, want) {
		p.t.Errorf("Get(%.80q) at %d = %+v, %v, want %+v, %v", name, now, got, found, want, there)
	}
}

func (p *pair) match(filter string, now int) {
	p.t.Helper()
	if got, want := p.s.Match(filter, now), p.m.match(filter, now); !same(got, want) {
		p.t.Errorf("Match(%.80q) at %d = %+v, want %+v", filter, now, got, want)
	}
}

// check compares everything that can be seen at an instant.
func (p *pair) check(now int) {
	p.t.Helper()
	if p.s.Len() != len(p.m.list) {
		p.t.Fatalf("Len = %d, want %d", p.s.Len(), len(p.m.list))
	}
	p.match("#", now)
	p.match("$sys/#", now)
	for _, x := range p.m.list {
		p.get(x.Topic, now)
	}
	if p.s.Len() != len(p.m.list) {
		p.t.Fatalf("Len = %d after Get and Match, want %d", p.s.Len(), len(p.m.list))
	}
}

// topics returns the topics that Match finds.
func topics(s *retain.Store, filter string, now int) string {
	var l []string
	for _, m := range s.Match(filter, now) {
		l = append(l, m.Topic)
	}
	return strings.Join(l, " ")
}

// P12.1 to P12.4, the examples
func TestExamples(t *testing.T) {
	for _, expires := range []int{0, 5} {
		s := retain.New(1)
		for i, x := range []struct {
			m    api.Message
			now  int
			code api.Errno
		}{
			{kept("a", "x", 0), 0, api.OK}, {kept("b", "x", 0), 0, api.ErrFull}, {kept("a", "y", expires), 0, api.OK}, {kept("b", "", 0), 4, api.OK}, {kept("b", "x", 0), 4, api.ErrFull},
		} {
			if code := s.Put(x.m, x.now); code != x.code || s.Len() != 1 {
				t.Errorf("Put %d = %d, Len = %d", i, code, s.Len())
			}
		}
		if m, found := s.Get("a", 4); !found || m.Payload != "y" {
			t.Errorf("Get = %+v, %v", m, found)
		}
		want := api.OK
		if expires == 0 {
			want = api.ErrFull
		}
		if code := s.Put(kept("b", "z", 0), 5); code != want || s.Len() != 1 {
			t.Errorf("Put at 5 = %d, Len = %d", code, s.Len())
		}
		if _, found := s.Get("a", 5); found != (expires == 0) {
			t.Errorf("Get(a) at 5 = %v", found)
		}
	}

	s := retain.New(9)
	for _, name := range []string{"c/b", "$sys/x", "a/b"} {
		s.Put(kept(name, "x", 0), 0)
	}
	for filter, want := range map[string]string{"+/b": "a/b c/b", "#": "a/b c/b", "$sys/#": "$sys/x"} {
		if got := topics(s, filter, 0); got != want {
			t.Errorf("Match(%q) = %q, want %q", filter, got, want)
		}
	}
	if code := s.Put(api.Message{Topic: "a/b", Payload: "y"}, 0); code != api.ErrField {
		t.Errorf("Put without Retain = %d", code)
	}
	if code := s.Put(api.Message{Topic: "a/#", Payload: "y"}, 0); code != api.ErrTopic {
		t.Errorf("Put without Retain and with an invalid topic = %d", code)
	}
}

// P12.1
func TestNew(t *testing.T) {
	for capacity, want := range map[int]int{math.MinInt: 0, -1: 0, 0: 0, 1: 1, 2: 2, 255: 255, 256: 256, 257: 256, math.MaxInt: 256} {
		s := retain.New(capacity)
		if _, found := s.Get("a", 0); found || s.Len() != 0 || len(s.Match("#", 0)) != 0 || s.Expire(api.MaxTick) != 0 {
			t.Errorf("a new store with the capacity %d is not empty", capacity)
		}
		for i := range want {
			if code := s.Put(kept("t/"+strconv.Itoa(i), "x", 0), 0); code != api.OK || s.Len() != i+1 {
				t.Fatalf("Put %d with the capacity %d = %d, Len = %d", i, capacity, code, s.Len())
			}
		}
		if code := s.Put(kept("a", "x", 0), 0); code != api.ErrFull || s.Len() != want {
			t.Errorf("one more with the capacity %d = %d, Len = %d", capacity, code, s.Len())
		}
		if code := s.Put(kept("a", "", 0), 0); code != api.OK || s.Len() != want {
			t.Errorf("Put without payload with the capacity %d = %d, Len = %d", capacity, code, s.Len())
		}
	}
}

// P12.2: the errors, their order, and that they change nothing, not even expired messages of a full store
func TestPutErrors(t *testing.T) {
	p := newPair(t, 2)
	p.put(full("a"), 0, api.OK)
	p.put(kept("b", "x", 5), 0, api.OK)
	for _, x := range []struct {
		name string
		make func(m *api.Message)
		want api.Errno
	}{
		{"no topic", func(m *api.Message) { m.Topic = "" }, api.ErrTopic}, {"a filter", func(m *api.Message) { m.Topic = "+" }, api.ErrTopic}, {"a long topic", func(m *api.Message) { m.Topic = strings.Repeat("a", api.MaxTopic+1) }, api.ErrTopic}, {"a deep topic", func(m *api.Message) { m.Topic = "1/2/3/4/5/6/7/8/9" }, api.ErrTopic},
		{"a long payload", func(m *api.Message) { m.Payload = strings.Repeat("x", api.MaxPayload+1) }, api.ErrTooLong},
		{"Level -1", func(m *api.Message) { m.Level = -1 }, api.ErrLevel}, {"Level 3", func(m *api.Message) { m.Level = 3 }, api.ErrLevel},
		{"Priority -1", func(m *api.Message) { m.Priority = -1 }, api.ErrRange}, {"Priority 10", func(m *api.Message) { m.Priority = 10 }, api.ErrRange},
		{"Expires -1", func(m *api.Message) { m.Expires = -1 }, api.ErrRange}, {"a late Expires", func(m *api.Message) { m.Expires = api.MaxTick + 1 }, api.ErrRange},
		{"From A", func(m *api.Message) { m.From = "A" }, api.ErrName}, {"Seq -1", func(m *api.Message) { m.Seq = -1 }, api.ErrRange},
		{"too many properties", func(m *api.Message) { m.Props = make([]api.Prop, api.MaxProps+1) }, api.ErrTooLong}, {"a key that is none", func(m *api.Message) { m.Props = []api.Prop{{Key: "A"}} }, api.ErrProps}, {"the same key twice", func(m *api.Message) { m.Props = []api.Prop{{Key: "a"}, {Key: "a"}} }, api.ErrProps},
		{"nothing wrong but Retain", func(m *api.Message) { m.Retain = false }, api.ErrField},
	} {
		for _, name := range []string{"a", "new"} {
			for _, payload := range []string{"y", ""} {
				for _, retained := range []bool{true, false} {
					m := full(name)
					m.Payload, m.Retain = payload, retained
					x.make(&m)
					p.put(m, 5, x.want)
					if m.Expires == full(name).Expires { // also if it is expired
						m.Expires = 1
						p.put(m, 5, x.want)
					}
				}
			}
		}
	}
	if p.s.Len() != 2 {
		t.Errorf("Len = %d", p.s.Len())
	}
}

// P12.2: what is stored is the whole message, and the last one of its topic.
func TestPutReplaces(t *testing.T) {
	p := newPair(t, 3)
	for _, other := range []func(m *api.Message){
		func(m *api.Message) {}, func(m *api.Message) { m.Payload = "x" }, func(m *api.Message) { m.Level = 0 }, func(m *api.Message) { m.Priority = 0 }, func(m *api.Message) { m.Expires = 0 }, func(m *api.Message) { m.Expires = api.MaxTick },
		func(m *api.Message) { m.From = "" }, func(m *api.Message) { m.Seq = 0 }, func(m *api.Message) { m.Seq = api.MaxNumber }, func(m *api.Message) { m.Props = nil }, func(m *api.Message) { m.Props[1].Value = "2" }, func(m *api.Message) { m.Payload = strings.Repeat("\x00", api.MaxPayload) },
	} {
		for _, name := range []string{"a", "a/b", "/"} {
			m := full(name)
			other(&m)
			p.put(m, 0, api.OK)
		}
	}
	if p.s.Len() != 3 {
		t.Errorf("Len = %d", p.s.Len())
	}
}

// P12.2: an empty payload, and a message that is expired when it comes, remove the message of the topic.
func TestPutRemoves(t *testing.T) {
	for _, m := range []api.Message{kept("b", "", 0), kept("b", "", 7), kept("b", "", 8), kept("b", "y", 7), kept("b", "y", 1), {Topic: "b", Retain: true, Level: 2, From: "c", Seq: 1}} {
		for _, capacity := range []int{3, 4} {
			for _, old := range []int{0, 9, 7, 5} {
				p := newPair(t, capacity)
				p.put(kept("a", "x", 0), 0, api.OK)
				p.put(kept("b", "x", old), 0, api.OK)
				p.put(kept("c", "x", 2), 0, api.OK)
				p.put(m, 7, api.OK)
				if p.s.Len() != 2 {
					t.Errorf("Len = %d", p.s.Len())
				}
				p.put(m, 7, api.OK) // there is none
				p.put(kept("b", "z", 0), 7, api.OK)
			}
		}
	}
	p := newPair(t, 0)
	p.put(kept("b", "", 0), 0, api.OK)
	p.put(kept("b", "x", 7), 7, api.OK)
	p.put(kept("b", "x", 8), 7, api.ErrFull)
}

// P12.2: expired messages make room in a full store, and only where a new topic needs it.
func TestPutFull(t *testing.T) {
	p := newPair(t, 4)
	p.put(kept("a", "x", 5), 0, api.OK)
	p.put(kept("b", "x", 6), 0, api.OK)
	p.put(kept("c", "x", 0), 5, api.OK)  // not full: a remains
	p.put(kept("d", "x", 20), 6, api.OK) // not full: a and b remain
	if p.s.Len() != 4 {
		t.Errorf("Len = %d", p.s.Len())
	}
	p.put(kept("c", "y", 0), 6, api.OK) // replaces: a and b remain
	p.put(kept("b", "y", 7), 6, api.OK) // replaces one that is expired: a remains
	p.put(kept("e", "", 0), 6, api.OK)  // nothing to remove: a remains
	p.put(kept("e", "x", 6), 6, api.OK) // nothing to store: a remains
	p.put(api.Message{Topic: "e"}, 6, api.ErrField)
	if p.s.Len() != 4 {
		t.Errorf("Len = %d", p.s.Len())
	}
	p.put(kept("e", "x", 0), 6, api.OK) // instead of a
	p.put(kept("f", "x", 0), 6, api.ErrFull)
	p.put(kept("f", "x", 0), 7, api.OK) // instead of b
	p.put(kept("g", "x", 0), 19, api.ErrFull)
	p.put(kept("g", "x", 0), 20, api.OK) // instead of d
	p.put(kept("h", "x", 0), api.MaxTick, api.ErrFull)
	p.put(kept("c", "", 0), api.MaxTick, api.OK)
	p.put(kept("h", "x", 0), api.MaxTick, api.OK)

	p = newPair(t, 3)
	for i, name := range []string{"a", "b", "c"} {
		p.put(kept(name, "x", i+1), 0, api.OK)
	}
	p.put(kept("d", "x", 0), 2, api.OK) // instead of a and b, all that are expired
	if p.s.Len() != 2 {
		t.Errorf("Len = %d", p.s.Len())
	}
}

// P12.3
func TestGet(t *testing.T) {
	p := newPair(t, 9)
	p.put(full("a/b"), 0, api.OK)
	p.put(kept("$sys/x", "x", 5), 0, api.OK)
	p.put(kept("/", "x", 0), 0, api.OK)
	for _, now := range []int{0, 4, 5, 6, 99, 100, 101, api.MaxTick} {
		for _, name := range []string{"a/b", "$sys/x", "/", "a", "a/", "A/b", "a/b/c", "", "+", "#", "a/+", "$sys/#", "b", "a\x00", strings.Repeat("/", 5000)} {
			p.get(name, now)
		}
		if p.s.Len() != 3 {
			t.Errorf("Len = %d at %d", p.s.Len(), now)
		}
	}
	if m, found := p.s.Get("a/b", 100); found || !message.Same(m, api.Message{}) {
		t.Errorf("Get at 100 = %+v, %v", m, found)
	}
}

// P12.4: filters and topics of many kinds, in the order of the topics' bytes
func TestMatch(t *testing.T) {
	p := newPair(t, api.MaxRetained)
	names := []string{"b", "aa", "a", "A", "a/b/c", "a/b", "a/", "a//c", "/a", "/", "//", "b/b", "$s", "$s/a", "$s/", "$", "$share/g/a", "a/$s", "1/2/3/4/5/6/7/8", "1/2/3/4/5/6/7", "\xff", "\uFFFD", "\xff/a", "a-b", "a b", strings.Repeat("a", api.MaxTopic)}
	for i, name := range names {
		p.put(kept(name, "x", i%4*10), 0, api.OK)
	}
	for _, now := range []int{0, 9, 10, 20, 29, 30, api.MaxTick} {
		for _, filter := range append(slices.Clone(names),
			"#", "+", "+/+", "+/#", "/#", "/+", "+/", "a/#", "a/+", "a/+/c", "+/b/#", "+/b", "+/+/+", "$s/#", "$s/+", "$+", "$share/g/#", "$share/g/a", "+/+/+/+/+/+/+/+", "1/2/3/4/5/6/7/#", "\xff/#", "x", "x/#",
			"", "a#", "#/a", "a+", "a\x00", "1/2/3/4/5/6/7/8/9", "1/2/3/4/5/6/7/8/#", strings.Repeat("a", api.MaxTopic+1), strings.Repeat("/", 5000)) {
			p.match(filter, now)
		}
		p.check(now)
	}
	if p.s.Len() != len(names) {
		t.Errorf("Len = %d", p.s.Len())
	}
}

// P12.5
func TestExpire(t *testing.T) {
	p := newPair(t, 9)
	p.expire(0, 0)
	for i, name := range []string{"a", "b", "c", "$sys/d", "e", "f"} {
		p.put(kept(name, "x", []int{5, 6, 6, 6, 0, api.MaxTick}[i]), 0, api.OK)
	}
	for _, x := range [][2]int{{0, 0}, {4, 0}, {5, 1}, {5, 0}, {7, 3}, {7, 0}, {api.MaxTick - 1, 0}, {api.MaxTick, 1}, {api.MaxTick, 0}} {
		p.expire(x[0], x[1])
	}
	if p.s.Len() != 1 {
		t.Errorf("Len = %d", p.s.Len())
	}
}

// P12.6: after a Put that returns OK
func TestPutGet(t *testing.T) {
	for _, capacity := range []int{1, 2} {
		s := retain.New(capacity)
		for now := range 12 {
			for _, name := range []string{"a", "b", "$c"} {
				for expires := range 12 {
					for _, payload := range []string{"x", "", "y"} {
						m := kept(name, payload, expires)
						if s.Put(m, now) != api.OK {
							continue
						}
						got, found := s.Get(name, now)
						if found != (payload != "" && (expires == 0 || now < expires)) || found && !message.Same(got, m) {
							t.Fatalf("Get after Put of %+v at %d = %+v, %v", m, now, got, found)
						}
					}
				}
			}
		}
	}
}

// R5, R9: the store shares no memory with arguments and results, and two stores do not influence each other.
func TestMemory(t *testing.T) {
	s, other := retain.New(2), retain.New(2)
	m := full("a")
	m.Props = append(make([]api.Prop, 0, 9), m.Props...)
	s.Put(m, 0)
	if !message.Same(m, full("a")) {
		t.Error("Put modifies the message")
	}
	clear(m.Props[:9])
	s.Put(full("b"), 0)
	first, _ := s.Get("a", 0)
	clear(first.Props[:cap(first.Props)])
	list := s.Match("#", 0)
	for _, x := range list {
		clear(x.Props[:cap(x.Props)])
	}
	clear(list)
	second, _ := s.Get("a", 0)
	if got := s.Match("#", 0); !message.Same(second, full("a")) || !same(got, []api.Message{full("a"), full("b")}) {
		t.Errorf("Get = %+v, Match = %+v", second, got)
	}
	if other.Len() != 0 || len(other.Match("#", 0)) != 0 {
		t.Error("another store has messages")
	}
}

// P12.1 to P12.6: calls in no particular order, at instants that do not decrease
func TestCalls(t *testing.T) {
	random := rand.New(rand.NewSource(12))
	names := []string{"a", "b", "a/b", "c/b", "a/b/c", "/", "$sys", "$sys/x", "d", "e", "+", ""}
	filters := []string{"#", "+", "+/b", "a/#", "$sys/#", "a", "/+", "a/#/b", ""}
	for capacity := range 9 {
		p := newPair(t, capacity)
		now := 0
		for range 3000 {
			now += random.Intn(3) / 2
			m := kept(names[random.Intn(len(names))], []string{"x", "y", "z", ""}[random.Intn(4)], max(0, now+random.Intn(12)-4))
			m.Level, m.Retain, m.Seq = random.Intn(3), random.Intn(10) > 0, random.Intn(100)
			if random.Intn(4) == 0 {
				m.Expires = 0
			}
			switch random.Intn(12) {
			case 0:
				n := len(slices.DeleteFunc(slices.Clone(p.m.list), func(x api.Message) bool { return !message.Expired(x, now) }))
				p.expire(now, n)
			case 1, 2:
				p.match(filters[random.Intn(len(filters))], now)
			default:
				want := p.m.put(m, now)
				if code := p.s.Put(m, now); code != want {
					t.Fatalf("Put of %+v at %d = %d, want %d", m, now, code, want)
				}
				p.check(now)
			}
			found := 0
			for _, name := range names {
				p.get(name, now)
				if _, there := p.s.Get(name, now); there && !topic.System(name) {
					found++
				}
			}
			if n := len(p.s.Match("#", now)); n != found {
				t.Fatalf("Match(#) has %d messages, Get %d", n, found)
			}
		}
	}
}
