package desk_test

import (
	"maps"
	"math/rand"
	"slices"
	"sort"
	"testing"

	"broker/api"
	"broker/dead"
	"broker/desk"
	"broker/exchange"
	"broker/line"
)

// The places of a copy of a message.
const (
	inQueue = iota
	delivered
	acked
	died
	purged
)

// item is a copy of a message that was put into a queue, wherever it is now.
type item struct {
	queue string
	entry api.Entry
	place int
	owner int // the number of the consumer
	tag   int // the delivery tag
}

// member is a consumer.
type member struct {
	number, conn, tag, prefetch int
	queue                       string
}

// corpse is a noted entry.
type corpse struct {
	spec   api.Spec
	m      api.Message
	reason int
}

// model is a desk as the chapter defines it: it keeps all copies of messages in one list, whatever becomes of them.
type model struct {
	routes  api.Routes
	specs   map[string]api.Spec
	numbers map[string]int
	served  map[string]int
	members []member
	items   []item
	open    map[int][]api.Request
	made    int
	tags    int
	corpses []corpse
}

func newModel() *model {
	return &model{specs: map[string]api.Spec{}, numbers: map[string]int{}, served: map[string]int{}, open: map[int][]api.Request{}}
}

func (m *model) names() []string { return slices.Sorted(maps.Keys(m.specs)) }

// ready returns the positions of the entries of a queue, in its order.
func (m *model) ready(name string) []int {
	var l []int
	for i, x := range m.items {
		if x.queue == name && x.place == inQueue {
			l = append(l, i)
		}
	}
	sort.SliceStable(l, func(i, k int) bool {
		a, b := m.items[l[i]].entry, m.items[l[k]].entry
		if a.Message.Priority != b.Message.Priority {
			return a.Message.Priority > b.Message.Priority
		}
		return a.Number < b.Number
	})
	return l
}

// held returns the positions of the deliveries that fit, by delivery tag.
func (m *model) held(fits func(item) bool) []int {
	var l []int
	for i, x := range m.items {
		if x.place == delivered && fits(x) {
			l = append(l, i)
		}
	}
	sort.Slice(l, func(i, k int) bool { return m.items[l[i]].tag < m.items[l[k]].tag })
	return l
}

// heldBy returns the positions of the deliveries of a consumer.
func (m *model) heldBy(number int) []int {
	return m.held(func(x item) bool { return x.owner == number })
}

func (m *model) die(i, reason int) {
	m.items[i].place = died
	m.corpses = append(m.corpses, corpse{m.specs[m.items[i].queue], m.items[i].entry.Message, reason})
}

func (m *model) push(name string, message api.Message, now int) {
	m.numbers[name]++
	m.items = append(m.items, item{queue: name, entry: api.Entry{Number: m.numbers[name], Arrived: now, Message: message}})
}

func expiredIn(s api.Spec, e api.Entry, now int) bool {
	return s.TTL > 0 && now-e.Arrived >= s.TTL || e.Message.Expires > 0 && now >= e.Message.Expires
}

func (m *model) letters(now int) {
	for _, x := range m.corpses {
		if x.spec.Dead == "" || !dead.Again(x.m) {
			continue
		}
		letter := dead.Mark(x.spec.Name, x.m, x.reason)
		reached, code := exchange.Route(m.routes, x.spec.Dead, x.spec.Name, letter.Props)
		if code != api.OK {
			continue
		}
		for _, name := range reached {
			if s, found := m.specs[name]; found && len(m.ready(name)) < s.Max {
				m.push(name, letter, now)
			}
		}
	}
	m.corpses = nil
}

func (m *model) expire(now int) {
	for _, name := range m.names() {
		for _, i := range m.ready(name) {
			if expiredIn(m.specs[name], m.items[i].entry, now) {
				m.die(i, api.DeadExpired)
			}
		}
	}
	m.letters(now)
}

func (m *model) back(l []int, now int) {
	for _, i := range l {
		x := &m.items[i]
		switch s := m.specs[x.queue]; {
		case s.Attempts > 0 && x.entry.Attempts >= s.Attempts:
			m.die(i, api.DeadAttempts)
		case expiredIn(s, x.entry, now):
			m.die(i, api.DeadExpired)
		default:
			x.place, x.owner, x.tag = inQueue, 0, 0
		}
	}
}

// next returns the consumer whose turn it is.
func (m *model) next(name string) (member, bool) {
	at := slices.IndexFunc(m.members, func(c member) bool { return c.number == m.served[name] })
	for k := range m.members {
		c := m.members[(at+1+k)%len(m.members)]
		if c.queue == name && (c.prefetch == 0 || len(m.heldBy(c.number)) < c.prefetch) {
			return c, true
		}
	}
	return member{}, false
}

func (m *model) deliver() []api.Reply {
	var out []api.Reply
	for _, name := range m.names() {
		for {
			l := m.ready(name)
			c, found := m.next(name)
			if len(l) == 0 || !found || len(m.held(func(item) bool { return true })) >= api.MaxRecords {
				break
			}
			m.tags++
			x := &m.items[l[0]]
			x.place, x.owner, x.tag = delivered, c.number, m.tags
			x.entry.Attempts++
			m.served[name] = c.number
			out = append(out, api.Reply{Kind: api.RepDeliver, Conn: c.conn, Owner: c.tag, Tag: m.tags, Again: x.entry.Attempts > 1, Name: name, Entry: x.entry})
		}
	}
	return out
}

func (m *model) do(r api.Request, now int) []api.Reply {
	m.expire(now)
	count, code := m.accept(r, now)
	m.letters(now)
	return append([]api.Reply{{Kind: api.RepDone, Conn: r.Conn, Serial: r.Serial, Code: int(code), Count: count}}, m.deliver()...)
}

func (m *model) drop(conn, now int) []api.Reply {
	m.expire(now)
	delete(m.open, conn)
	for i := 0; i < len(m.members); {
		if c := m.members[i]; c.conn == conn {
			m.members = slices.Delete(slices.Clone(m.members), i, i+1)
			m.back(m.heldBy(c.number), now)
		} else {
			i++
		}
	}
	m.letters(now)
	return m.deliver()
}

func (m *model) tick(now int) []api.Reply {
	m.expire(now)
	return m.deliver()
}

func (m *model) accept(r api.Request, now int) (int, api.Errno) {
	if code := line.Check(r); code != api.OK {
		return 0, code
	}
	l, open := m.open[r.Conn]
	joins := r.Kind == api.ReqPublish || r.Kind == api.ReqAck || r.Kind == api.ReqNack
	switch {
	case !open || !joins:
		return m.execute(r, now)
	case len(l) >= api.MaxList:
		return 0, api.ErrFull
	}
	m.open[r.Conn] = append(slices.Clone(l), r)
	return 0, api.OK
}

func (m *model) execute(r api.Request, now int) (int, api.Errno) {
	switch r.Kind {
	case api.ReqExchange:
		return m.reroute(exchange.Declare(m.routes, r.Exchange))
	case api.ReqUnbind:
		return m.reroute(exchange.Unbind(m.routes, r.Binding))
	case api.ReqPublish:
		return m.publish(r, now)
	case api.ReqAck, api.ReqNack:
		return m.settle(r, now)
	case api.ReqBegin, api.ReqCommit, api.ReqRollback:
		return m.transact(r, now)
	case api.ReqCancel:
		at := m.find(r.Conn, r.Tag)
		if at < 0 {
			return 0, api.ErrNotFound
		}
		l := m.heldBy(m.members[at].number)
		m.members = slices.Delete(slices.Clone(m.members), at, at+1)
		m.back(l, now)
		return len(l), api.OK
	}
	return m.ofQueue(r)
}

// ofQueue executes the requests that name a queue.
func (m *model) ofQueue(r api.Request) (int, api.Errno) {
	name := r.Spec.Name + r.Name + r.Binding.Queue
	s, found := m.specs[name]
	l := m.ready(name)
	switch {
	case r.Kind == api.ReqQueue && found && s != r.Spec:
		return 0, api.ErrExists
	case r.Kind == api.ReqQueue && !found && len(m.specs) >= api.MaxList:
		return 0, api.ErrFull
	case r.Kind == api.ReqQueue:
		m.specs[name] = r.Spec
		return len(l), api.OK
	case !found:
		return 0, api.ErrNotFound
	case r.Kind == api.ReqBind:
		return m.reroute(exchange.Bind(m.routes, r.Binding))
	case r.Kind == api.ReqConsume && m.find(r.Conn, r.Tag) >= 0:
		return 0, api.ErrExists
	case r.Kind == api.ReqConsume && len(m.members) >= api.MaxClients:
		return 0, api.ErrFull
	case r.Kind == api.ReqConsume:
		m.made++
		m.members = append(slices.Clone(m.members), member{m.made, r.Conn, r.Tag, r.Limit, name})
		return 0, api.OK
	case r.Kind == api.ReqDelete:
		l = append(l, m.held(func(x item) bool { return x.queue == name })...)
		delete(m.specs, name)
		delete(m.numbers, name)
		delete(m.served, name)
		m.routes = exchange.Drop(m.routes, name)
		m.members = slices.DeleteFunc(slices.Clone(m.members), func(c member) bool { return c.queue == name })
	}
	if r.Kind != api.ReqDescribe {
		for _, i := range l {
			m.items[i].place = purged
		}
	}
	return len(l), api.OK
}

func (m *model) reroute(t api.Routes, code api.Errno) (int, api.Errno) {
	if code == api.OK {
		m.routes = t
	}
	return 0, code
}

// find returns the position of the consumer of a connection with a tag, or -1.
func (m *model) find(conn, tag int) int {
	return slices.IndexFunc(m.members, func(c member) bool { return c.conn == conn && c.tag == tag })
}

func (m *model) publish(r api.Request, now int) (int, api.Errno) {
	reached, code := exchange.Route(m.routes, r.Name, r.Key, r.Message.Props)
	if code != api.OK || r.Message.Expires > 0 && now >= r.Message.Expires {
		return 0, code
	}
	count := 0
	for _, name := range reached {
		if _, found := m.specs[name]; found {
			for l := m.ready(name); len(l) >= m.specs[name].Max; l = m.ready(name) {
				m.die(m.victim(l), api.DeadOverflow)
			}
			m.push(name, r.Message, now)
			count++
		}
	}
	return count, api.OK
}

// victim returns the first one of the lowest priority.
func (m *model) victim(l []int) int {
	best := l[0]
	for _, i := range l {
		if m.items[i].entry.Message.Priority < m.items[best].entry.Message.Priority {
			best = i
		}
	}
	return best
}

func (m *model) settle(r api.Request, now int) (int, api.Errno) {
	l := m.held(func(x item) bool { return x.tag == r.Tag })
	if len(l) == 0 || !slices.ContainsFunc(m.members, func(c member) bool { return c.number == m.items[l[0]].owner && c.conn == r.Conn }) {
		return 0, api.ErrNotFound
	}
	switch owner := m.items[l[0]].owner; {
	case r.Kind == api.ReqNack && r.Flag:
		m.back(l, now)
		return 1, api.OK
	case r.Kind == api.ReqNack:
		m.die(l[0], api.DeadRejected)
		return 1, api.OK
	case r.Flag:
		l = m.held(func(x item) bool { return x.owner == owner && x.tag <= r.Tag })
	}
	for _, i := range l {
		m.items[i].place = acked
	}
	return len(l), api.OK
}

func (m *model) transact(r api.Request, now int) (int, api.Errno) {
	l, open := m.open[r.Conn]
	switch {
	case open == (r.Kind == api.ReqBegin):
		return 0, api.ErrState
	case r.Kind == api.ReqBegin && len(m.open) >= api.MaxClients:
		return 0, api.ErrFull
	case r.Kind == api.ReqBegin:
		m.open[r.Conn] = nil
		return 0, api.OK
	}
	delete(m.open, r.Conn)
	if r.Kind == api.ReqRollback {
		return len(l), api.OK
	}
	items, numbers := slices.Clone(m.items), maps.Clone(m.numbers)
	for _, x := range l {
		if _, code := m.execute(x, now); code != api.OK {
			m.items, m.numbers, m.corpses = items, numbers, nil
			return 0, code
		}
		m.letters(now)
	}
	return len(l), api.OK
}

// totals counts the copies at each place.
func (m *model) totals() api.Totals {
	count := map[int]int{}
	for _, x := range m.items {
		count[x.place]++
	}
	return api.Totals{Published: len(m.items), Acked: count[acked], Dead: count[died], Purged: count[purged], Ready: count[inQueue], Leased: count[delivered]}
}

// queue returns a queue as Queue shows it.
func (m *model) queue(name string) (api.Queue, bool) {
	s, found := m.specs[name]
	if !found {
		return api.Queue{}, false
	}
	q := api.Queue{Spec: s, Next: m.numbers[name] + 1}
	for _, i := range m.ready(name) {
		q.Ready = append(q.Ready, m.items[i].entry)
	}
	return q, true
}

// leases returns the deliveries as Leases shows them.
func (m *model) leases() []api.Lease {
	var l []api.Lease
	for _, i := range m.held(func(item) bool { return true }) {
		x := m.items[i]
		l = append(l, api.Lease{Tag: x.tag, Owner: x.owner, Queue: x.queue, Entry: x.entry})
	}
	return l
}

// checkModel compares what a desk shows with what it is by definition.
func checkModel(t *testing.T, d *desk.Desk, m *model) {
	t.Helper()
	if got, want := d.Totals(), m.totals(); got != want {
		t.Fatalf("Totals = %+v, want %+v", got, want)
	}
	if got, want := text(d.Leases()), text(m.leases()); got != want {
		t.Fatalf("Leases = %s, want %s", got, want)
	}
	if got, want := text(d.Routes()), text(m.routes); got != want {
		t.Fatalf("Routes = %s, want %s", got, want)
	}
	for _, name := range append([]string{"", "q0", "none"}, queueNames()...) {
		got, found := d.Queue(name)
		want, wantFound := m.queue(name)
		if found != wantFound || text(got) != text(want) {
			t.Fatalf("Queue(%s) = %s, %v, want %s, %v", name, text(got), found, text(want), wantFound)
		}
	}
}

// checkTurns checks that no consumer has more deliveries than its prefetch, and that no queue has both an entry and a ready consumer.
func checkTurns(t *testing.T, d *desk.Desk, m *model) {
	t.Helper()
	for _, c := range m.members {
		n := 0
		for _, x := range d.Leases() {
			if x.Owner == c.number {
				n++
			}
		}
		q, _ := d.Queue(c.queue)
		free := c.prefetch == 0 || n < c.prefetch
		if c.prefetch > 0 && n > c.prefetch || free && len(q.Ready) > 0 && len(d.Leases()) < api.MaxRecords {
			t.Fatalf("the consumer %+v has %d deliveries, its queue has %d entries", c, n, len(q.Ready))
		}
	}
}

// queueNames are the names of the queues in random calls.
func queueNames() []string { return []string{"d", "p", "q", "r"} }

// exchangeNames are the names of the exchanges in random calls.
func exchangeNames() []string { return []string{"h", "x", "y", "z"} }

// pick returns one of several values.
func pick[T any](r *rand.Rand, l ...T) T { return l[r.Intn(len(l))] }

// declareExchange returns a request for the exchange with a name.
func declareExchange(r *rand.Rand, name string) api.Request {
	kind := map[string]int{"x": api.Direct, "y": api.Fanout, "z": api.Topical, "h": api.Headers}[name]
	return api.Request{Kind: api.ReqExchange, Exchange: api.Exchange{Name: name, Kind: kind, Alternate: pick(r, "", "", "y", "z")}}
}

// declareQueue returns a request for a queue with a name.
func declareQueue(r *rand.Rand, name string) api.Request {
	s := api.Spec{Name: name, Max: 1 + r.Intn(4), TTL: pick(r, 0, 0, 5, 20), Attempts: pick(r, 0, 0, 1, 2, 3), Dead: pick(r, "", "x", "y", "z", "h")}
	return api.Request{Kind: api.ReqQueue, Spec: s}
}

// bind returns a request for a binding from an exchange to a queue.
func bind(r *rand.Rand, name, to string) api.Request {
	b := api.Binding{Exchange: name, Queue: to, Key: pick(r, "d", "p", "q", "r", "#", "q.*")}
	if name == "h" {
		b.All, b.Match = r.Intn(2) == 0, []api.Prop{{Key: pick(r, "deaths", "kind"), Value: "1"}}
	}
	return api.Request{Kind: api.ReqBind, Binding: b}
}

// prepare returns requests after which there are exchanges, queues and bindings.
func prepare(r *rand.Rand) []api.Request {
	var l []api.Request
	for _, x := range exchangeNames() {
		l = append(l, declareExchange(r, x))
	}
	for _, name := range queueNames() {
		l = append(l, declareQueue(r, name), bind(r, pick(r, exchangeNames()...), name), bind(r, "y", name), bind(r, "z", name))
	}
	return l
}

// declaring returns a request that declares, binds, unbinds or removes something.
func declaring(r *rand.Rand) api.Request {
	name, x := pick(r, queueNames()...), pick(r, exchangeNames()...)
	switch r.Intn(12) {
	case 0, 1:
		return declareExchange(r, x)
	case 2, 3, 4:
		return declareQueue(r, name)
	case 5:
		return api.Request{Kind: api.ReqPurge, Name: name}
	case 6:
		return api.Request{Kind: pick(r, api.ReqDelete, api.ReqDescribe), Name: name}
	case 7:
		q := bind(r, x, name)
		q.Kind = api.ReqUnbind
		return q
	}
	return bind(r, x, name)
}

// publishing returns a request that publishes a message.
func publishing(r *rand.Rand, now int) api.Request {
	m := api.Message{Topic: "t", Payload: pick(r, "", "a", "b"), Priority: r.Intn(3), Expires: pick(r, 0, 0, 0, max(1, now+r.Intn(12)-1))}
	m.Props = pick(r, nil, nil, []api.Prop{{Key: "kind", Value: "1"}}, []api.Prop{{Key: "deaths", Value: "7"}, {Key: "kind", Value: "2"}})
	return api.Request{Kind: api.ReqPublish, Name: pick(r, "", "", "", "", "x", "x", "y", "y", "z", "z", "h", "none"), Key: pick(r, "d", "p", "q", "r", "q.a", "a b"), Message: m}
}

// own returns a delivery tag, most often one of a connection.
func own(r *rand.Rand, m *model, conn int) int {
	var l []int
	for _, c := range m.members {
		for _, i := range m.heldBy(c.number) {
			if c.conn == conn {
				l = append(l, m.items[i].tag)
			}
		}
	}
	if len(l) == 0 || r.Intn(8) == 0 {
		return r.Intn(m.tags + 2)
	}
	return pick(r, l...)
}

// consuming returns a request that consumes, cancels, acknowledges or belongs to a transaction.
func consuming(r *rand.Rand, m *model, conn int) api.Request {
	switch n := r.Intn(36); {
	case n < 16:
		return api.Request{Kind: pick(r, api.ReqBegin, api.ReqBegin, api.ReqBegin, api.ReqCommit, api.ReqCommit, api.ReqCommit, api.ReqRollback)}
	case n < 19:
		return api.Request{Kind: api.ReqConsume, Tag: r.Intn(3), Name: pick(r, queueNames()...), Limit: r.Intn(4)}
	case n < 21:
		return api.Request{Kind: api.ReqCancel, Tag: r.Intn(3)}
	}
	return api.Request{Kind: pick(r, api.ReqAck, api.ReqNack), Tag: own(r, m, conn), Flag: r.Intn(2) == 0}
}

// request returns a request, seldom one that is not valid in its form.
func request(r *rand.Rand, m *model, now int) api.Request {
	var x api.Request
	conn := 1 + r.Intn(3)
	switch n := r.Intn(20); {
	case n < 4:
		x = declaring(r)
	case n < 11:
		x = publishing(r, now)
	default:
		x = consuming(r, m, conn)
	}
	x.Conn, x.Serial = conn, r.Intn(9)
	switch r.Intn(60) {
	case 0:
		x.Serial = -1
	case 1:
		x.Kind += 16
	case 2:
		x.Limit += 5
	}
	return x
}

// counts are how often something happened in random calls.
type counts struct {
	codes, commits map[api.Errno]int // by error: requests, and commits that had several requests
	reasons        map[int]int       // dead letters
}

// checkCounts checks that everything happened often enough.
func (c counts) check(t *testing.T) {
	t.Helper()
	for _, code := range []api.Errno{api.OK, api.ErrNotFound, api.ErrExists, api.ErrState, api.ErrRange, api.ErrKind, api.ErrField} {
		if c.codes[code] < 50 {
			t.Errorf("only %d requests with the error %d", c.codes[code], code)
		}
	}
	for _, reason := range []int{api.DeadRejected, api.DeadExpired, api.DeadOverflow, api.DeadAttempts} {
		if c.reasons[reason] < 50 {
			t.Errorf("only %d dead letters for the reason %d", c.reasons[reason], reason)
		}
	}
	for _, code := range []api.Errno{api.OK, api.ErrNotFound} {
		if c.commits[code] < 50 {
			t.Errorf("only %d commits with the error %d", c.commits[code], code)
		}
	}
}

// doBoth has a request executed by a desk and by definition.
func (c counts) doBoth(d *desk.Desk, m *model, x api.Request, now int) ([]api.Reply, []api.Reply) {
	several := x.Kind == api.ReqCommit && len(m.open[x.Conn]) > 1
	got, want := d.Do(x, now), m.do(x, now)
	code := api.Errno(want[0].Code)
	c.codes[code]++
	if several {
		c.commits[code]++
	}
	return got, want
}

// P30.1 to P30.12: calls in no particular order, compared with the definitions.
func TestRandomCalls(t *testing.T) {
	r := rand.New(rand.NewSource(30))
	c := counts{map[api.Errno]int{}, map[api.Errno]int{}, map[int]int{}}
	for range 200 {
		d, m, now := desk.New(), newModel(), 0
		first := prepare(r)
		first = first[:pick(r, 0, len(first), len(first), len(first))]
		for i := range 200 {
			now += pick(r, 0, 0, 0, 1, 1, 3)
			x := request(r, m, now)
			if i < len(first) {
				x = first[i]
			}
			var got, want []api.Reply
			switch r.Intn(30) {
			case 0:
				got, want = d.Drop(x.Conn, now), m.drop(x.Conn, now)
			case 1:
				got, want = d.Tick(now), m.tick(now)
			default:
				got, want = c.doBoth(d, m, x, now)
			}
			if text(got) != text(want) {
				t.Fatalf("call %d at %d returned %s, want %s", i+1, now, text(got), text(want))
			}
			checkModel(t, d, m)
			checkTurns(t, d, m)
		}
		for _, x := range m.items {
			_, reason := dead.From(x.entry.Message)
			c.reasons[reason]++
		}
	}
	c.check(t)
}
