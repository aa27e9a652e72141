package inflight_test

import (
	"math"
	"math/rand"
	"slices"
	"strconv"
	"strings"
	"testing"

	"broker/api"
	"broker/inflight"
	"broker/message"
	"broker/packet"
)

// msg returns a message of a level.
func msg(name string, level int) api.Message { return api.Message{Topic: name, Level: level} }

// full returns a message of level 2 of which no field is zero.
func full(name string) api.Message {
	return api.Message{Topic: name, Payload: "21", Level: 2, Retain: true, Priority: 9, Expires: 100, From: "pub-1", Seq: 300, Props: []api.Prop{{Key: "a", Value: "1"}, {Key: "b", Value: ""}}}
}

// ack returns an acknowledgement.
func ack(kind, id int) api.Packet { return api.Packet{Kind: kind, ID: id} }

// describe writes down every field of the packets, so that two lists are equal if and only if their descriptions are.
func describe(l []api.Packet) string {
	var s strings.Builder
	for _, p := range l {
		s.WriteString(strconv.Itoa(p.Kind) + " " + strconv.Itoa(p.ID) + " " + strconv.FormatBool(p.Dup) + " " + string(message.Put(nil, p.Message)) + " " + others(p) + "\n")
	}
	return s.String()
}

// others tells whether a field is not zero that no Publish and no Pubrel packet uses.
func others(p api.Packet) string {
	if p.Client != "" || p.User != "" || p.Clean || p.Keep != 0 || p.Expiry != 0 || p.Window != 0 || p.Present || p.Code != 0 || len(p.Subs)+len(p.Filters)+len(p.Codes) > 0 {
		return "others"
	}
	if w := p.Will; w.Set || w.Delay != 0 || !message.Same(w.Message, api.Message{}) {
		return "will"
	}
	return ""
}

// samePool reports whether two pools are equal.
func samePool(a, b api.Pool) bool { return a.Last == b.Last && slices.Equal(a.Used, b.Used) }

// sameItem reports whether two items are equal.
func sameItem(a, b api.Flight) bool {
	return a.ID == b.ID && a.State == b.State && message.Same(a.Message, b.Message)
}

// same reports whether two windows are equal.
func same(a, b api.Window) bool {
	return a.Limit == b.Limit && slices.EqualFunc(a.Items, b.Items, sameItem) && samePool(a.Pool, b.Pool)
}

// Where the life of a message in flight stands, as P14.6 tells it.
const (
	published = "publish"
	released  = "pubrel"
	over      = "over"
)

// life is the life of one message: all that were started are kept, also those that are over.
type life struct {
	id    int
	stage string
	m     api.Message
}

// table is a window as P14.6 describes it: the lives of all messages that were started.
type table struct {
	limit int
	lives []*life
	last  int
}

// current returns the lives that are not over, in order.
func (m *table) current() []*life {
	return slices.DeleteFunc(slices.Clone(m.lives), func(l *life) bool { return l.stage == over })
}

func (m *table) find(id int) *life {
	for _, l := range m.current() {
		if l.id == id {
			return l
		}
	}
	return &life{id: id, stage: over}
}

func (m *table) start(x api.Message) (*life, api.Errno) {
	if x.Level == 0 {
		return nil, api.ErrLevel
	}
	if len(m.current()) >= m.limit {
		return nil, api.ErrFull
	}
	if code := message.Check(x); code != api.OK {
		return nil, code
	}
	m.last = m.last%api.MaxIdent + 1
	for m.find(m.last).stage != over {
		m.last = m.last%api.MaxIdent + 1
	}
	l := &life{m.last, published, x}
	m.lives = append(m.lives, l)
	return l, api.OK
}

func (m *table) handle(p api.Packet) ([]api.Packet, api.Errno) {
	l := m.find(p.ID)
	gone, once := l.stage == over, l.m.Level == 2
	switch p.Kind {
	case api.Puback:
		if !gone && once {
			return nil, api.ErrProtocol
		}
		l.stage = over
		return nil, api.OK
	case api.Pubrec:
		if !gone && !once {
			return nil, api.ErrProtocol
		}
		if !gone {
			l.stage = released
		}
		return []api.Packet{ack(api.Pubrel, p.ID)}, api.OK
	case api.Pubcomp:
		if !gone && (!once || l.stage == published) {
			return nil, api.ErrProtocol
		}
		l.stage = over
		return nil, api.OK
	}
	return nil, api.ErrKind
}

func (m *table) resend() []api.Packet {
	var l []api.Packet
	for _, x := range m.current() {
		if x.stage == released {
			l = append(l, ack(api.Pubrel, x.id))
		} else {
			l = append(l, api.Packet{Kind: api.Publish, ID: x.id, Dup: true, Message: x.m})
		}
	}
	return l
}

func (m *table) window() api.Window {
	w := api.Window{Limit: m.limit, Pool: api.Pool{Last: m.last}}
	for _, l := range m.current() {
		state := map[string]int{published: api.FlightSent, released: api.FlightReleased}[l.stage]
		w.Items = append(w.Items, api.Flight{ID: l.id, State: state, Message: l.m})
		w.Pool.Used = append(w.Pool.Used, l.id)
	}
	slices.Sort(w.Pool.Used)
	return w
}

// pair is a window and the table with which it is compared after every call.
type pair struct {
	t *testing.T
	w api.Window
	m *table
}

func newPair(t *testing.T, limit int) *pair {
	return &pair{t, inflight.New(limit), &table{limit: limit}}
}

// start starts a message and checks its error, and the identifier if there is none.
func (p *pair) start(m api.Message, id int, want api.Errno) {
	p.t.Helper()
	var packets []api.Packet
	l, code := p.m.start(m)
	if code != want || code == api.OK && l.id != id {
		p.t.Fatalf("the table's Start of %+v = %+v, %d, want %d, %d", m, l, code, id, want)
	}
	if code == api.OK {
		packets = []api.Packet{{Kind: api.Publish, ID: id, Message: m}}
	} else {
		packets = make([]api.Packet, 1)
	}
	w, got, code := inflight.Start(p.w, m)
	if code != want || describe([]api.Packet{got}) != describe(packets) {
		p.t.Errorf("Start of %+v = %+v, %d, want %+v, %d", m, got, code, packets, want)
	}
	p.next(w, code)
}

// handle handles an acknowledgement and checks its error, and whether Pubrel is returned.
func (p *pair) handle(kind, id int, rel bool, want api.Errno) {
	p.t.Helper()
	packets, code := p.m.handle(ack(kind, id))
	if code != want || len(packets) == 1 != rel {
		p.t.Fatalf("the table's Handle of %d %d = %+v, %d, want %v, %d", kind, id, packets, code, rel, want)
	}
	w, got, code := inflight.Handle(p.w, ack(kind, id))
	if code != want || describe(got) != describe(packets) {
		p.t.Errorf("Handle of %d %d = %+v, %d, want %+v, %d", kind, id, got, code, packets, want)
	}
	p.next(w, code)
}

// next goes on with the window that a call returned, which is the zero value together with an error (R3).
func (p *pair) next(w api.Window, code api.Errno) {
	p.t.Helper()
	if code == api.OK {
		p.w = w
	} else if !same(w, api.Window{}) {
		p.t.Errorf("with the error %d the window %+v is returned", code, w)
	}
	p.check()
}

// check compares everything that can be seen. P14.6: the window stays valid.
func (p *pair) check() {
	p.t.Helper()
	if code := inflight.Check(p.w); code != api.OK || !same(p.w, p.m.window()) {
		p.t.Fatalf("the window is %+v, Check = %d, want %+v", p.w, code, p.m.window())
	}
	if got, want := inflight.Resend(p.w), p.m.resend(); describe(got) != describe(want) {
		p.t.Fatalf("Resend of %+v = %+v, want %+v", p.w, got, want)
	}
	var messages []api.Message
	for _, l := range p.m.current() {
		messages = append(messages, l.m)
	}
	if got := inflight.Messages(p.w); !slices.EqualFunc(got, messages, message.Same) {
		p.t.Fatalf("Messages of %+v = %+v, want %+v", p.w, got, messages)
	}
	if got := inflight.Left(p.w); got != max(0, p.m.limit-len(messages)) {
		p.t.Fatalf("Left of %+v = %d", p.w, got)
	}
}

// P14.1 to P14.5, the examples
func TestExamples(t *testing.T) {
	p := newPair(t, 2)
	p.start(msg("a", 1), 1, api.OK)
	p.start(msg("b", 2), 2, api.OK)
	p.start(msg("c", 1), 0, api.ErrFull)
	want := []api.Packet{{Kind: api.Publish, ID: 1, Dup: true, Message: msg("a", 1)}, {Kind: api.Publish, ID: 2, Dup: true, Message: msg("b", 2)}}
	if got := inflight.Resend(p.w); describe(got) != describe(want) {
		t.Errorf("Resend = %+v", got)
	}

	p.handle(api.Pubrec, 2, true, api.OK)
	want[1] = api.Packet{Kind: api.Pubrel, ID: 2}
	if got := inflight.Resend(p.w); describe(got) != describe(want) {
		t.Errorf("Resend = %+v", got)
	}
	p.handle(api.Pubrec, 2, true, api.OK)
	p.handle(api.Puback, 1, false, api.OK)
	p.start(msg("d", 1), 3, api.OK)

	p.handle(api.Pubcomp, 2, false, api.OK)
	p.handle(api.Pubcomp, 2, false, api.OK)
	p.handle(api.Pubrec, 2, true, api.OK)
	p.handle(api.Puback, 2, false, api.OK)

	p.start(msg("e", 2), 4, api.OK)
	p.handle(api.Puback, 4, false, api.ErrProtocol)
	p.handle(api.Pubcomp, 4, false, api.ErrProtocol)
	p.handle(api.Pubrec, 3, false, api.ErrProtocol)
	p.handle(api.Pubcomp, 3, false, api.ErrProtocol)
	p.handle(api.Pubrel, 3, false, api.ErrKind)

	p.start(msg("a", 0), 0, api.ErrLevel)
	p.start(msg("a+", 0), 0, api.ErrLevel)
	p.start(msg("a+", 1), 0, api.ErrFull)
	p.handle(api.Puback, 3, false, api.OK)
	p.start(msg("a+", 0), 0, api.ErrLevel)
	p.start(msg("a+", 1), 0, api.ErrTopic)
}

// P14.1: a limit is at least 0 and at most MaxWindow.
func TestNew(t *testing.T) {
	for _, x := range [][2]int{{0, 0}, {1, 1}, {2, 2}, {31, 31}, {32, 32}, {33, 32}, {5000, 32}, {math.MaxInt, 32}, {-1, 0}, {-32, 0}, {math.MinInt, 0}} {
		w := inflight.New(x[0])
		if !same(w, api.Window{Limit: x[1]}) || inflight.Left(w) != x[1] || inflight.Check(w) != api.OK || len(inflight.Resend(w)) != 0 || len(inflight.Messages(w)) != 0 {
			t.Errorf("New(%d) = %+v, Left = %d", x[0], w, inflight.Left(w))
		}
	}
}

// P14.1, P14.3: a window whose limit is smaller than the number of its items has no room.
func TestSmallerLimit(t *testing.T) {
	p := newPair(t, 4)
	for i := range 4 {
		p.start(msg("t/"+strconv.Itoa(i), i%2+1), i+1, api.OK)
	}
	p.w.Limit, p.m.limit = 2, 2
	p.check()
	p.start(msg("a", 1), 0, api.ErrFull)
	p.handle(api.Puback, 3, false, api.OK)
	p.start(msg("a", 1), 0, api.ErrFull)
	p.handle(api.Pubrec, 2, true, api.OK)
	p.handle(api.Pubcomp, 2, false, api.OK)
	p.start(msg("a", 1), 0, api.ErrFull)
	p.handle(api.Puback, 1, false, api.OK)
	p.start(msg("a", 1), 5, api.OK)
	p.start(msg("a", 1), 0, api.ErrFull)
	p.w.Limit, p.m.limit = 0, 0
	p.check()
	p.start(msg("a", 1), 0, api.ErrFull)
	p.w.Limit, p.m.limit = api.MaxWindow, api.MaxWindow
	p.check()
	p.start(msg("a", 1), 6, api.OK)
}

// window returns a window with the limit 3 whose pool has the identifiers of its items.
func window(l ...api.Flight) api.Window {
	w := api.Window{Limit: 3, Items: l}
	for _, x := range l {
		w.Pool.Used = append(w.Pool.Used, x.ID)
	}
	slices.Sort(w.Pool.Used)
	return w
}

// item returns an item.
func item(id, state int, m api.Message) api.Flight {
	return api.Flight{ID: id, State: state, Message: m}
}

// sent returns a number of items with the identifiers from first on.
func sent(first, n int) []api.Flight {
	var l []api.Flight
	for i := range n {
		l = append(l, item(first+i, api.FlightSent, msg("t", 1)))
	}
	return l
}

// P14.2: windows that are valid
func TestCheckValid(t *testing.T) {
	long := api.Window{Limit: api.MaxWindow, Items: sent(1, api.MaxWindow), Pool: window(sent(1, api.MaxWindow)...).Pool}
	last := window(sent(api.MaxIdent, 1)...)
	last.Pool.Last = api.MaxIdent
	for i, w := range []api.Window{
		{}, {Limit: api.MaxWindow}, {Limit: 1, Items: []api.Flight{}, Pool: api.Pool{Used: []int{}, Last: 700}}, long, last,
		window(item(5, api.FlightSent, msg("a", 1))), window(item(5, api.FlightSent, full("a"))), window(item(5, api.FlightReleased, full("a"))),
		window(item(7, api.FlightSent, msg("a", 1)), item(5, api.FlightReleased, msg("a", 2)), item(6, api.FlightSent, msg("a", 2)), item(1, api.FlightSent, msg("a", 1))),
	} {
		if code := inflight.Check(w); code != api.OK {
			t.Errorf("Check of window %d = %d", i, code)
		}
		w.Limit = 0
		if code := inflight.Check(w); code != api.OK {
			t.Errorf("Check of window %d with the limit 0 = %d", i, code)
		}
	}
}

// P14.2: the errors of limit, pool and the number of items, and their order
func TestCheckErrors(t *testing.T) {
	ones := func(n int) []int { return make([]int, n) }
	pool := func(last int, used ...int) api.Pool { return api.Pool{Used: used, Last: last} }
	for _, x := range []struct {
		w    api.Window
		code api.Errno
	}{
		{api.Window{Limit: -1}, api.ErrRange}, {api.Window{Limit: api.MaxWindow + 1}, api.ErrRange}, {api.Window{Limit: math.MinInt}, api.ErrRange}, {api.Window{Limit: math.MaxInt}, api.ErrRange},
		{api.Window{Pool: pool(0, ones(33)...)}, api.ErrTooLong}, {api.Window{Pool: pool(0, 0)}, api.ErrIdent}, {api.Window{Pool: pool(0, 2, 1)}, api.ErrIdent}, {api.Window{Pool: pool(-1)}, api.ErrRange}, {api.Window{Pool: pool(api.MaxIdent + 1)}, api.ErrRange},
		{api.Window{Items: make([]api.Flight, 33)}, api.ErrTooLong}, {api.Window{Items: sent(1, 33), Pool: window(sent(1, 32)...).Pool}, api.ErrTooLong},
		{api.Window{Items: make([]api.Flight, 32)}, api.ErrIdent}, {api.Window{Items: sent(1, 32), Pool: window(sent(1, 31)...).Pool}, api.ErrIdent},
		{api.Window{Pool: pool(0, 1)}, api.ErrIdent}, {api.Window{Items: sent(1, 1), Pool: pool(0, 1, 2)}, api.ErrIdent}, {api.Window{Items: sent(2, 1), Pool: pool(0, 1, 2, 3)}, api.ErrIdent}, {api.Window{Items: sent(2, 31), Pool: window(sent(1, 32)...).Pool}, api.ErrIdent},
		// several
		{api.Window{Limit: -1, Pool: pool(0, ones(33)...)}, api.ErrRange}, {api.Window{Limit: 33, Pool: pool(0, 2, 1), Items: make([]api.Flight, 33)}, api.ErrRange},
		{api.Window{Pool: pool(0, 2, 1), Items: make([]api.Flight, 33)}, api.ErrIdent}, {api.Window{Pool: pool(-1), Items: make([]api.Flight, 33)}, api.ErrRange}, {api.Window{Pool: pool(0, ones(33)...), Items: make([]api.Flight, 1)}, api.ErrTooLong},
		{api.Window{Items: []api.Flight{item(1, api.FlightSent, msg("", 1))}, Pool: pool(0, 1, 2)}, api.ErrTopic},
	} {
		if code := inflight.Check(x.w); code != x.code {
			t.Errorf("Check of %+v = %d, want %d", x.w, code, x.code)
		}
	}
}

// P14.2: the errors of items, and their order; the items are checked one after the other.
func TestCheckItems(t *testing.T) {
	good := item(9, api.FlightSent, msg("a", 1))
	invalid := msg("a", 1)
	invalid.Payload = strings.Repeat("x", api.MaxPayload+1)
	for _, x := range []struct {
		item api.Flight
		code api.Errno
	}{
		{item(0, api.FlightSent, msg("a", 1)), api.ErrIdent}, {item(8, api.FlightSent, msg("a", 1)), api.ErrIdent}, {item(-7, api.FlightSent, msg("a", 1)), api.ErrIdent}, {item(math.MaxInt, api.FlightSent, msg("a", 1)), api.ErrIdent}, {item(9, api.FlightSent, msg("a", 1)), api.ErrIdent},
		{item(7, api.FlightSent, msg("", 1)), api.ErrTopic}, {item(7, api.FlightSent, msg("a/+", 2)), api.ErrTopic}, {item(7, api.FlightSent, invalid), api.ErrTooLong}, {item(7, api.FlightSent, msg("a", 3)), api.ErrLevel}, {item(7, api.FlightSent, msg("a", -1)), api.ErrLevel}, {item(7, api.FlightSent, api.Message{Topic: "a", Level: 1, Priority: 10}), api.ErrRange},
		{item(7, api.FlightSent, msg("a", 0)), api.ErrLevel}, {item(7, api.FlightReleased, msg("a", 0)), api.ErrLevel},
		{item(7, 0, msg("a", 1)), api.ErrState}, {item(7, 3, msg("a", 1)), api.ErrState}, {item(7, -1, msg("a", 2)), api.ErrState}, {item(7, 0, msg("a", 2)), api.ErrState}, {item(7, 3, msg("a", 2)), api.ErrState}, {item(7, math.MinInt, msg("a", 2)), api.ErrState}, {item(7, api.FlightReleased, msg("a", 1)), api.ErrState},
		// several
		{item(8, 0, msg("", 0)), api.ErrIdent}, {item(9, 0, msg("", 0)), api.ErrIdent}, {item(8, 0, msg("a", 0)), api.ErrIdent}, {item(9, 0, msg("a", 1)), api.ErrIdent},
		{item(7, 0, msg("", 0)), api.ErrTopic}, {item(7, 3, msg("", 1)), api.ErrTopic}, {item(7, 0, msg("a", 0)), api.ErrLevel}, {item(7, api.FlightReleased, msg("a", 3)), api.ErrLevel},
	} {
		w := api.Window{Limit: 5, Items: []api.Flight{good, x.item}, Pool: api.Pool{Used: []int{1, 2, 7, 9}}}
		if code := inflight.Check(w); code != x.code {
			t.Errorf("Check with the item %.200v = %d, want %d", x.item, code, x.code)
		}
		w.Items = append(w.Items, item(1, 0, msg("", 0)), item(1, 0, msg("", 0))) // items behind it do not count
		if code := inflight.Check(w); code != x.code {
			t.Errorf("Check with the item %.200v and others behind it = %d, want %d", x.item, code, x.code)
		}
	}
	for _, before := range []struct {
		item api.Flight
		code api.Errno
	}{{item(2, 0, msg("a", 1)), api.ErrState}, {item(2, api.FlightSent, msg("a", 0)), api.ErrLevel}, {item(2, api.FlightSent, msg("a#", 2)), api.ErrTopic}} {
		w := api.Window{Items: []api.Flight{good, before.item, item(3, 0, msg("", 0))}, Pool: api.Pool{Used: []int{1, 2, 9}}}
		if code := inflight.Check(w); code != before.code {
			t.Errorf("Check with the item %+v before another one = %d, want %d", before.item, code, before.code)
		}
	}
}

// P14.3: the packet and the item have every field of the message.
func TestStart(t *testing.T) {
	p := newPair(t, api.MaxWindow)
	for i := range api.MaxWindow {
		m := msg("a/"+strconv.Itoa(i), i%2+1)
		if i%3 == 0 {
			m = full("a/" + strconv.Itoa(i))
		}
		p.start(m, i+1, api.OK)
	}
	p.start(full("b"), 0, api.ErrFull)
	p.handle(api.Puback, 3, false, api.OK)
	p.start(full("b"), api.MaxWindow+1, api.OK)
	p.start(full("b"), 0, api.ErrFull)
}

// P14.3: identifiers go round, and those in use are left out.
func TestIdentifiers(t *testing.T) {
	p := newPair(t, 4)
	p.w.Pool.Last, p.m.last = api.MaxIdent-1, api.MaxIdent-1
	p.start(msg("a", 1), api.MaxIdent, api.OK)
	p.start(msg("b", 2), 1, api.OK)
	p.start(msg("c", 1), 2, api.OK)
	p.handle(api.Puback, 2, false, api.OK)
	p.w.Pool.Last, p.m.last = api.MaxIdent-1, api.MaxIdent-1
	p.start(msg("d", 1), 2, api.OK)
}

// P14.3: the errors, their order, and that they change nothing
func TestStartErrors(t *testing.T) {
	long := msg("a", 2)
	long.Payload = strings.Repeat("x", api.MaxPayload+1)
	named := msg("a", 1)
	named.From = "A"
	doubled := msg("a", 1)
	doubled.Props = []api.Prop{{Key: "b"}, {Key: "b"}}
	for _, x := range []struct {
		m          api.Message
		room, full api.Errno
	}{
		{msg("a", 0), api.ErrLevel, api.ErrLevel}, {msg("", 0), api.ErrLevel, api.ErrLevel}, {msg("a/#", 0), api.ErrLevel, api.ErrLevel},
		{msg("a", 3), api.ErrLevel, api.ErrFull}, {msg("a", -1), api.ErrLevel, api.ErrFull}, {msg("a", math.MinInt), api.ErrLevel, api.ErrFull},
		{msg("", 1), api.ErrTopic, api.ErrFull}, {msg("a/#", 2), api.ErrTopic, api.ErrFull}, {msg("#", 3), api.ErrTopic, api.ErrFull},
		{long, api.ErrTooLong, api.ErrFull}, {named, api.ErrName, api.ErrFull}, {doubled, api.ErrProps, api.ErrFull},
	} {
		p := newPair(t, 2)
		p.start(full("b"), 1, api.OK)
		p.start(x.m, 0, x.room)
		p.start(msg("c", 1), 2, api.OK)
		p.start(x.m, 0, x.full)
		newPair(t, 0).start(x.m, 0, x.full)
	}
}

// P14.4: every kind for every state of a message, twice
func TestHandle(t *testing.T) {
	type step struct {
		kind int
		rel  bool
		code api.Errno
	}
	for _, x := range []struct {
		level int
		steps []step
	}{
		{1, []step{{api.Puback, false, api.OK}, {api.Puback, false, api.OK}, {api.Pubrec, true, api.OK}, {api.Pubrec, true, api.OK}, {api.Pubcomp, false, api.OK}, {api.Pubcomp, false, api.OK}}},
		{1, []step{{api.Pubrec, false, api.ErrProtocol}, {api.Pubrec, false, api.ErrProtocol}, {api.Pubcomp, false, api.ErrProtocol}, {api.Pubcomp, false, api.ErrProtocol}, {api.Puback, false, api.OK}}},
		{2, []step{{api.Puback, false, api.ErrProtocol}, {api.Pubcomp, false, api.ErrProtocol}, {api.Pubrec, true, api.OK}, {api.Pubrec, true, api.OK}, {api.Puback, false, api.ErrProtocol}, {api.Pubcomp, false, api.OK}, {api.Pubcomp, false, api.OK}, {api.Pubrec, true, api.OK}, {api.Puback, false, api.OK}}},
	} {
		p := newPair(t, 5)
		p.start(msg("a", 2), 1, api.OK)
		p.start(msg("b", 1), 2, api.OK)
		p.start(msg("t", x.level), 3, api.OK)
		p.start(full("c"), 4, api.OK)
		p.start(msg("d", 1), 5, api.OK)
		p.handle(api.Pubrec, 4, true, api.OK)
		for _, s := range x.steps {
			p.handle(s.kind, 3, s.rel, s.code)
		}
		if got := len(inflight.Messages(p.w)); got != 4 {
			t.Errorf("%d messages are left", got)
		}
	}
}

// P14.4: identifiers that no item has, also those that no packet may have
func TestHandleUnknown(t *testing.T) {
	p := newPair(t, 3)
	p.start(msg("a", 1), 1, api.OK)
	p.start(msg("b", 2), 2, api.OK)
	p.start(msg("c", 2), 3, api.OK)
	p.handle(api.Pubrec, 3, true, api.OK)
	for _, id := range []int{0, 4, api.MaxIdent, api.MaxIdent + 1, -1, math.MinInt, math.MaxInt} {
		p.handle(api.Puback, id, false, api.OK)
		p.handle(api.Pubrec, id, true, api.OK)
		p.handle(api.Pubcomp, id, false, api.OK)
	}
}

// P14.4: other kinds are no acknowledgements that a sender handles, also for identifiers that no item has.
func TestHandleKinds(t *testing.T) {
	p := newPair(t, 3)
	p.start(msg("a", 1), 1, api.OK)
	p.start(msg("b", 2), 2, api.OK)
	for kind := -1; kind <= 30; kind++ {
		if kind == api.Puback || kind == api.Pubrec || kind == api.Pubcomp {
			continue
		}
		for _, id := range []int{1, 2, 3, 0} {
			p.handle(kind, id, false, api.ErrKind)
		}
	}
	p.handle(math.MinInt, 1, false, api.ErrKind)
	p.handle(math.MaxInt, 1, false, api.ErrKind)
}

// P14.4: the other fields of a packet are ignored.
func TestHandleOtherFields(t *testing.T) {
	p := newPair(t, 2)
	p.start(full("a"), 1, api.OK)
	noisy := api.Packet{Kind: api.Pubrec, ID: 1, Dup: true, Message: msg("x", 1), Client: "c", User: "U", Clean: true, Keep: -1, Expiry: 7, Window: 99, Will: api.Will{Set: true, Delay: 3}, Present: true, Code: 8, Subs: []api.Sub{{}}, Filters: []string{"#"}, Codes: []int{1}}
	for _, id := range []int{1, 1, 2} {
		noisy.ID = id
		w, got, code := inflight.Handle(p.w, noisy)
		want, _ := p.m.handle(ack(api.Pubrec, id))
		if code != api.OK || describe(got) != describe(want) {
			t.Errorf("Handle of %+v = %+v, %d", noisy, got, code)
		}
		p.next(w, code)
	}
	noisy.Kind, noisy.ID = api.Pubcomp, 1
	w, got, code := inflight.Handle(p.w, noisy)
	p.m.handle(ack(api.Pubcomp, 1))
	if code != api.OK || len(got) != 0 {
		t.Errorf("Handle of %+v = %+v, %d", noisy, got, code)
	}
	p.next(w, code)
}

// P14.3 to P14.5: the packets are valid, and Answer of them is what Handle accepts next.
func TestPackets(t *testing.T) {
	w := inflight.New(4)
	for i := range 4 {
		m := full("a/" + strconv.Itoa(i))
		m.Level = i%2 + 1
		next, p, code := inflight.Start(w, m)
		if code != api.OK || packet.Check(p) != api.OK {
			t.Fatalf("Start = %+v, %d, Check = %d", p, code, packet.Check(p))
		}
		w = next
	}
	for round := 0; len(w.Items) > 0; round++ {
		if round == 2 {
			t.Fatalf("in flight after two rounds: %+v", w)
		}
		for _, p := range inflight.Resend(w) {
			answer, there := packet.Answer(p)
			if packet.Check(p) != api.OK || !there {
				t.Fatalf("Check of %+v = %d, Answer = %v", p, packet.Check(p), there)
			}
			next, _, code := inflight.Handle(w, answer)
			if code != api.OK {
				t.Fatalf("Handle of %+v = %d", answer, code)
			}
			w = next
		}
	}
}

// P14.6: calls in no particular order
func TestCalls(t *testing.T) {
	r := rand.New(rand.NewSource(14))
	kinds := []int{api.Puback, api.Pubrec, api.Pubcomp, api.Puback, api.Pubrec, api.Pubcomp, api.Pubrel, api.Publish}
	for range 100 {
		p := newPair(t, r.Intn(6)+r.Intn(2)*26)
		for i := range 120 {
			if r.Intn(5) < 2 {
				m := msg([]string{"a", "b/" + strconv.Itoa(i), "c", "+"}[r.Intn(4)], r.Intn(12)%3)
				id := 0
				l, code := probe(p.m).start(m)
				if code == api.OK {
					id = l.id
				}
				p.start(m, id, code)
				continue
			}
			id := r.Intn(8)
			if l := p.m.current(); len(l) > 0 && r.Intn(4) > 0 {
				id = l[r.Intn(len(l))].id
			}
			kind := kinds[r.Intn(len(kinds))]
			packets, code := probe(p.m).handle(ack(kind, id))
			p.handle(kind, id, len(packets) == 1, code)
		}
	}
}

// probe returns a table whose lives are copies.
func probe(m *table) *table {
	c := &table{limit: m.limit, last: m.last}
	for _, l := range m.lives {
		copied := *l
		c.lives = append(c.lives, &copied)
	}
	return c
}

// spoil overwrites all memory of a window, including what lies behind the ends of its slices.
func spoil(w api.Window) {
	for i, l := 0, w.Items[:cap(w.Items)]; i < len(l); i++ {
		spoilMessage(l[i].Message)
		l[i] = item(-1, -1, msg("spoiled", -1))
	}
	for i, l := 0, w.Pool.Used[:cap(w.Pool.Used)]; i < len(l); i++ {
		l[i] = -1
	}
}

func spoilMessage(m api.Message) {
	for i, l := 0, m.Props[:cap(m.Props)]; i < len(l); i++ {
		l[i] = api.Prop{Key: "spoiled", Value: "spoiled"}
	}
}

func spoilPackets(l []api.Packet) {
	l = l[:cap(l)]
	for i := range l {
		spoilMessage(l[i].Message)
		l[i] = api.Packet{Kind: -1}
	}
}

// roomy returns a window of three items whose slices have room behind their ends.
func roomy() api.Window {
	items, used := make([]api.Flight, 0, 20), make([]int, 0, 20)
	for i := range 5 {
		m := full("a/" + strconv.Itoa(i))
		m.Level, m.Props = i%2+1, slices.Grow(m.Props, 7)
		items, used = append(items, item(i+1, api.FlightSent, m)), append(used, i+1)
	}
	return api.Window{Limit: 9, Items: items[:3], Pool: api.Pool{Used: used[:3], Last: 3}}
}

// R5: arguments and results share no memory, nor do results among each other.
func TestMemory(t *testing.T) {
	w := roomy()
	intact := func(what string) {
		t.Helper()
		if !same(w, roomy()) || !slices.EqualFunc(w.Items[:5], roomy().Items[:5], sameItem) || !slices.Equal(w.Pool.Used[:5], []int{1, 2, 3, 4, 5}) {
			t.Fatalf("%s: the window has become %+v", what, w)
		}
	}
	m := full("b")
	m.Props = slices.Grow(m.Props, 7)
	next, p, _ := inflight.Start(w, m)
	spoilPackets([]api.Packet{p})
	intact("Start's packet")
	if !message.Same(next.Items[3].Message, full("b")) || !message.Same(m, full("b")) {
		t.Error("the packet shares memory with the window or the message")
	}
	spoil(next)
	intact("Start's window")
	if !message.Same(m, full("b")) {
		t.Error("the window shares memory with the message")
	}
	next, _, _ = inflight.Start(w, m)
	spoilMessage(m)
	if !message.Same(next.Items[3].Message, full("b")) {
		t.Error("the message is kept")
	}

	for _, a := range []api.Packet{ack(api.Puback, 1), ack(api.Puback, 9), ack(api.Pubrec, 2), ack(api.Pubrec, 9), ack(api.Pubcomp, 9)} {
		next, l, code := inflight.Handle(w, a)
		if code != api.OK {
			t.Fatalf("Handle of %+v = %d", a, code)
		}
		spoilPackets(l)
		if inflight.Check(next) != api.OK {
			t.Errorf("Handle's packets share memory with its window %+v", next)
		}
		spoil(next)
		intact("Handle")
	}
	next, _, _ = inflight.Handle(w, ack(api.Pubrec, 2))
	last, _, _ := inflight.Handle(next, ack(api.Pubcomp, 2))
	spoil(last)
	if next.Items[1].State != api.FlightReleased || !slices.Equal(next.Pool.Used, []int{1, 2, 3}) || inflight.Check(next) != api.OK {
		t.Errorf("Handle of Pubcomp: the window has become %+v", next)
	}
	spoilPackets(inflight.Resend(w))
	intact("Resend")
	messages := inflight.Messages(w)
	for i := range messages {
		spoilMessage(messages[i])
	}
	intact("Messages")
}

// R1: nothing is promised for invalid windows but an end.
func TestInvalidWindows(t *testing.T) {
	crowded := window(sent(1, api.MaxWindow)...)
	crowded.Items, crowded.Limit = nil, 5 // no identifier is left, though there is room
	bare := window(sent(1, 3)...)
	bare.Pool = api.Pool{Last: -5}
	for _, w := range []api.Window{
		crowded, bare, {Limit: math.MaxInt, Items: make([]api.Flight, 100)}, {Limit: math.MinInt}, {Limit: -1, Items: sent(-3, 7)}, {Limit: 9, Items: append(sent(1, 3), sent(1, 3)...), Pool: api.Pool{Used: []int{3, 2, 1}}},
		{Limit: 9, Items: []api.Flight{item(1, 0, msg("", 0)), item(2, 9, msg("#", 9)), item(0, 2, msg("a", 1))}, Pool: api.Pool{Used: make([]int, 100), Last: math.MaxInt}},
	} {
		inflight.Left(w)
		inflight.Resend(w)
		inflight.Messages(w)
		inflight.Start(w, full("a"))
		for _, kind := range []int{api.Puback, api.Pubrec, api.Pubcomp} {
			for id := -3; id < 5; id++ {
				inflight.Handle(w, ack(kind, id))
			}
		}
	}
	if next, p, code := inflight.Start(crowded, full("a")); code != api.ErrFull || !same(next, api.Window{}) || p.Kind != 0 {
		t.Errorf("Start without an identifier = %+v, %+v, %d", next, p, code)
	}
}
