package desk_test

import (
	"fmt"
	"math"
	"slices"
	"strings"
	"testing"

	"broker/api"
	"broker/desk"
	"broker/line"
)

// text shows a value; nil and empty lists look the same.
func text(v any) string { return fmt.Sprintf("%+v", v) }

// bench is a desk that is told what to do, at an instant.
type bench struct {
	t   *testing.T
	d   *desk.Desk
	now int
}

// open returns a bench at the instant 0, after some calls without errors.
func open(t *testing.T, calls ...string) *bench {
	t.Helper()
	b := &bench{t: t, d: desk.New()}
	for _, call := range calls {
		if got := b.call(call); !strings.HasPrefix(got[0], "done 0 ") {
			t.Fatalf("%s = %q", call, got)
		}
	}
	return b
}

// put returns a request by the connection 1 that publishes a message with a payload to an exchange.
func put(exchange, key, payload string, priority, expires int) api.Request {
	m := api.Message{Topic: "t", Payload: payload, Priority: priority, Expires: expires}
	return api.Request{Kind: api.ReqPublish, Conn: 1, Serial: 9, Name: exchange, Key: key, Message: m}
}

// parse returns the request whose line is given. The line of publishing to a queue by the connection 1 may be written as put, the queue and the payload; a priority and an instant of expiry may follow.
func (b *bench) parse(call string) api.Request {
	b.t.Helper()
	if !strings.HasPrefix(call, "put ") {
		r, code := line.Parse(call)
		if code != api.OK {
			b.t.Fatalf("Parse of %s = %d", call, code)
		}
		return r
	}
	var name, payload string
	var priority, expires int
	fmt.Sscan(call[4:], &name, &payload, &priority, &expires)
	return put("", name, payload, priority, expires)
}

// do executes a request; it returns the replies in short, that to the request as its error and its number.
func (b *bench) do(r api.Request) []string {
	b.t.Helper()
	l := b.d.Do(r, b.now)
	first := api.Reply{Kind: api.RepDone, Conn: r.Conn, Serial: r.Serial}
	if len(l) > 0 {
		first.Code, first.Count = l[0].Code, l[0].Count
	}
	if len(l) == 0 || text(l[0]) != text(first) {
		b.t.Fatalf("the first reply to %+v is not of this request: %+v", r, l)
	}
	return append([]string{fmt.Sprintf("done %d %d", first.Code, first.Count)}, b.deliveries(l[1:])...)
}

// deliveries returns the replies of deliveries in short: the connection and the tag of the consumer, the delivery tag, the queue, the number of the entry and the payload.
func (b *bench) deliveries(l []api.Reply) []string {
	b.t.Helper()
	var out []string
	for _, x := range l {
		want := api.Reply{Kind: api.RepDeliver, Conn: x.Conn, Owner: x.Owner, Tag: x.Tag, Again: x.Entry.Attempts > 1, Name: x.Name, Entry: x.Entry}
		if text(x) != text(want) || x.Entry.Attempts < 1 {
			b.t.Fatalf("not the reply of a delivery: %+v", x)
		}
		s := fmt.Sprintf("%d/%d gets %d: %s#%d %s", x.Conn, x.Owner, x.Tag, x.Name, x.Entry.Number, x.Entry.Message.Payload)
		if x.Again {
			s += " again"
		}
		out = append(out, s)
	}
	return out
}

// call executes a request that is given as in parse, or drop with the number of a connection, or tick.
func (b *bench) call(call string) []string {
	b.t.Helper()
	var conn int
	if n, _ := fmt.Sscanf(call, "drop %d", &conn); n == 1 {
		return b.deliveries(b.d.Drop(conn, b.now))
	}
	if call == "tick" {
		return b.deliveries(b.d.Tick(b.now))
	}
	return b.do(b.parse(call))
}

// say checks the replies to a call.
func (b *bench) say(call string, want ...string) {
	b.t.Helper()
	if got := b.call(call); !slices.Equal(got, want) {
		b.t.Errorf("at %d, %s = %q, want %q", b.now, call, got, want)
	}
}

// refuse checks that a call returns an error, after which everything is as before.
func (b *bench) refuse(call string, want api.Errno) {
	b.t.Helper()
	b.refuseRequest(b.parse(call), want)
}

func (b *bench) refuseRequest(r api.Request, want api.Errno) {
	b.t.Helper()
	before := b.state()
	if got := b.do(r); !slices.Equal(got, []string{fmt.Sprintf("done %d 0", want)}) {
		b.t.Errorf("at %d, %+v = %q, want the error %d", b.now, r, got, want)
	}
	if after := b.state(); after != before {
		b.t.Errorf("at %d, %+v with the error %d changed %s to %s", b.now, r, want, before, after)
	}
}

// state shows all that a desk shows.
func (b *bench) state() string {
	out := text(b.d.Leases()) + text(b.d.Routes()) + text(b.d.Totals())
	for c := 'a'; c <= 'z'; c++ {
		for _, name := range []string{string(c), string(c) + "1", string(c) + "31"} {
			if q, found := b.d.Queue(name); found {
				out += text(q)
			}
		}
	}
	return out
}

// holds checks the entries of a queue, each as its number and its payload.
func (b *bench) holds(name string, want ...string) {
	b.t.Helper()
	q, found := b.d.Queue(name)
	var got []string
	for _, e := range q.Ready {
		got = append(got, fmt.Sprintf("%d %s", e.Number, e.Message.Payload))
	}
	if !found || !slices.Equal(got, want) {
		b.t.Errorf("at %d, the queue %s holds %q, %v, want %q", b.now, name, got, found, want)
	}
}

// notes checks what the properties of the entries of a queue say, each entry as its payload, its deaths and how it died.
func (b *bench) notes(name string, want ...string) {
	b.t.Helper()
	q, _ := b.d.Queue(name)
	var got []string
	for _, e := range q.Ready {
		s := e.Message.Payload
		for _, p := range e.Message.Props {
			if p.Key == "deaths" || p.Key == "died" {
				s += " " + p.Value
			}
		}
		got = append(got, s)
	}
	if !slices.Equal(got, want) {
		b.t.Errorf("at %d, the queue %s holds %q, want %q", b.now, name, got, want)
	}
}

// count checks the counters, whose sum is right.
func (b *bench) count(published, acked, dead, purged, ready, leased int) {
	b.t.Helper()
	want := api.Totals{Published: published, Acked: acked, Dead: dead, Purged: purged, Ready: ready, Leased: leased}
	if got := b.d.Totals(); got != want || got.Published != got.Acked+got.Dead+got.Purged+got.Ready+got.Leased {
		b.t.Errorf("at %d, Totals = %+v, want %+v", b.now, got, want)
	}
}

// owners checks the deliveries, each as its delivery tag, the number of the consumer, the queue and the number of the entry.
func (b *bench) owners(want ...string) {
	b.t.Helper()
	var got []string
	for _, x := range b.d.Leases() {
		got = append(got, fmt.Sprintf("%d: %d has %s#%d", x.Tag, x.Owner, x.Queue, x.Entry.Number))
	}
	if !slices.Equal(got, want) {
		b.t.Errorf("at %d, Leases = %q, want %q", b.now, got, want)
	}
}

// Examples 1 and 2 of the chapter.
func TestExamples(t *testing.T) {
	b := open(t)
	b.say("queue 1 1 q 2 0 0 -", "done 0 0")
	b.say("put q a", "done 0 1")
	b.say("put q b", "done 0 1")
	b.say("put q c", "done 0 1")
	b.count(3, 0, 1, 0, 2, 0)
	b.say("consume 2 1 5 q 1", "done 0 0", "2/5 gets 1: q#2 b")
	b.say("ack 2 2 1 no", "done 0 1", "2/5 gets 2: q#3 c")
	b.say("nack 2 3 2 yes", "done 0 1", "2/5 gets 3: q#3 c again")
	b.count(3, 1, 1, 0, 0, 1)
}

// Example 3 of the chapter.
func TestExampleOfTransaction(t *testing.T) {
	b := open(t, "queue 1 1 q 2 0 0 -", "begin 1 1")
	b.say("put q a", "done 0 0")
	b.say("ack 1 1 1 no", "done 0 0")
	b.refuse("commit 1 1", api.ErrNotFound)
	b.holds("q")
	b.count(0, 0, 0, 0, 0, 0)
}

// New: nothing is there.
func TestNew(t *testing.T) {
	b := open(t)
	b.count(0, 0, 0, 0, 0, 0)
	if r := b.d.Routes(); len(r.Exchanges)+len(r.Bindings)+len(b.d.Leases()) != 0 {
		t.Errorf("a new desk has %v, %v", r, b.d.Leases())
	}
	if q, found := b.d.Queue("q"); found || text(q) != text(api.Queue{}) {
		t.Errorf("a new desk has %v", q)
	}
	b.say("tick")
	b.say("drop 1")
}

// P30.1: the error of line.Check is that of the request; what is expired is removed, and deliveries are made all the same.
func TestInvalidRequests(t *testing.T) {
	b := open(t, "queue 1 1 q 2 5 0 x", "queue 1 1 d 2 0 0 -", "exchange 1 1 x fanout -", `bind 1 1 x d "" no`, "put q a", "consume 2 1 1 d 0")
	for _, c := range []struct {
		r    api.Request
		want api.Errno
	}{
		{api.Request{}, api.ErrKind}, {api.Request{Kind: 16, Conn: -1}, api.ErrKind}, {api.Request{Kind: api.ReqBegin, Conn: -1}, api.ErrRange}, {api.Request{Kind: api.ReqBegin, Serial: api.MaxNumber + 1}, api.ErrRange},
		{api.Request{Kind: api.ReqBegin, Tag: 1}, api.ErrField}, {api.Request{Kind: api.ReqDescribe, Name: "Q"}, api.ErrName}, {api.Request{Kind: api.ReqQueue, Spec: api.Spec{Name: "q"}}, api.ErrRange},
		{api.Request{Kind: api.ReqPublish, Key: "\x00", Message: api.Message{Topic: "t"}}, api.ErrTopic}, {api.Request{Kind: api.ReqPublish, Message: api.Message{Topic: "#"}}, api.ErrTopic},
		{api.Request{Kind: api.ReqPublish, Key: strings.Repeat("k", api.MaxTopic+1), Message: api.Message{Topic: "t"}}, api.ErrTooLong}, {api.Request{Kind: api.ReqExchange, Exchange: api.Exchange{Name: "x", Kind: 5}}, api.ErrKind},
		{api.Request{Kind: api.ReqBind, Binding: api.Binding{Exchange: "x", Queue: "none", Key: "\x00"}}, api.ErrTopic}, {api.Request{Kind: api.ReqAck, Tag: -1}, api.ErrRange},
	} {
		b.refuseRequest(c.r, c.want)
	}
	b.now = 5
	if got := b.do(api.Request{Kind: api.ReqBegin, Conn: 7, Serial: -3}); !slices.Equal(got, []string{"done 1 0", "2/1 gets 1: d#1 a"}) {
		t.Errorf("at 5, an invalid request = %q", got)
	}
}

// P30.1: what is expired is removed before the request is executed, and the dead letters for it are sent before.
func TestOrderOfDo(t *testing.T) {
	l := []string{"queue 1 1 q 2 5 0 x", "queue 1 1 d 2 0 0 -", "exchange 1 1 x fanout -", `bind 1 1 x d "" no`, "put q a"}
	b := open(t, l...)
	b.now = 4
	b.say("describe 1 1 q", "done 0 1")
	b.now = 5
	b.say("describe 1 1 q", "done 0 0")
	b.notes("d", "a 1 q 2")
	b = open(t, l...)
	b.now = 5
	b.say("purge 1 1 d", "done 0 1")
	b.count(2, 0, 1, 1, 0, 0)
	b = open(t, l...)
	b.now = 5
	// The queue without its consumers: the dead letter is sent while it is bound.
	b.say(`unbind 1 1 x d "" no`, "done 0 0")
	b.holds("d", "1 a")
}

// P30.1: dead letters for the request are sent behind it, and deliveries are made behind these; the reply to the request is the first one.
func TestOrderOfReplies(t *testing.T) {
	b := open(t, "queue 1 1 q 2 0 0 x", "queue 1 1 d 2 0 0 -", "exchange 1 1 x fanout -", `bind 1 1 x d "" no`, "consume 2 1 1 q 1", "consume 3 1 2 d 0", "put q a", "put q b")
	b.say("nack 2 8 1 no", "done 0 1", "3/2 gets 2: d#1 a", "2/1 gets 3: q#2 b")
	b.say("describe 3 1 d", "done 0 0")
	b.say("describe 3 1 q", "done 0 0")
	b.say("put q c", "done 0 1")
	b.say("put q d", "done 0 1")
	b.say("put q e", "done 0 1", "3/2 gets 4: d#2 c")
}

// P30.2: exchanges.
func TestExchanges(t *testing.T) {
	b := open(t)
	b.say("exchange 1 1 y topic -", "done 0 0")
	b.say("exchange 1 1 x direct y", "done 0 0")
	b.say("exchange 2 1 x direct y", "done 0 0")
	b.refuse("exchange 1 1 x direct -", api.ErrExists)
	b.refuse("exchange 1 1 x fanout y", api.ErrExists)
	if got := text(b.d.Routes().Exchanges); got != text([]api.Exchange{{Name: "x", Kind: api.Direct, Alternate: "y"}, {Name: "y", Kind: api.Topical}}) {
		t.Errorf("Routes = %s", got)
	}
	for i := range api.MaxList - 2 {
		b.say(fmt.Sprintf("exchange 1 1 x%d fanout -", i), "done 0 0")
	}
	b.refuse("exchange 1 1 z fanout -", api.ErrFull)
	b.say("exchange 1 1 x1 fanout -", "done 0 0")
}

// P30.2: queues; a queue that is there must be equal, and its entries are counted.
func TestQueues(t *testing.T) {
	b := open(t)
	b.say("queue 1 1 q 2 5 3 x", "done 0 0")
	b.say("put q a", "done 0 1")
	b.say("put q b", "done 0 1")
	b.say("queue 2 1 q 2 5 3 x", "done 0 2")
	for _, other := range []string{"3 5 3 x", "2 6 3 x", "2 5 4 x", "2 5 3 y", "2 5 3 -"} {
		b.refuse("queue 1 1 q "+other, api.ErrExists)
	}
	b.holds("q", "1 a", "2 b")
	q, found := b.d.Queue("q")
	if !found || q.Spec != (api.Spec{Name: "q", Max: 2, TTL: 5, Attempts: 3, Dead: "x"}) || q.Next != 3 {
		t.Errorf("Queue = %+v, %v", q, found)
	}
	for i := range api.MaxList - 1 {
		b.say(fmt.Sprintf("queue 1 1 q%d 1 0 0 -", i), "done 0 0")
	}
	b.refuse("queue 1 1 z 1 0 0 -", api.ErrFull)
	b.refuse("queue 1 1 q 1 0 0 -", api.ErrExists)
	b.say("queue 1 1 q0 1 0 0 -", "done 0 0")
	b.say("delete 1 1 q0", "done 0 0")
	b.say("queue 1 1 z 1 0 0 -", "done 0 0")
	b.now = 5
	b.say("queue 2 1 q 2 5 3 x", "done 0 0")
}

// P30.2: bindings are of queues that exist.
func TestBindings(t *testing.T) {
	b := open(t, "queue 1 1 q 2 0 0 -", "exchange 1 1 x direct -", "exchange 1 1 h headers -")
	b.refuse(`bind 1 1 x p "k" no`, api.ErrNotFound)
	b.refuse(`bind 1 1 y p "k" no`, api.ErrNotFound)
	b.refuse(`bind 1 1 y q "k" no`, api.ErrNotFound)
	b.refuse(`bind 1 1 x q "k" yes`, api.ErrField)
	b.refuse(`bind 1 1 x q "k" no a="1"`, api.ErrField)
	b.refuse(`bind 1 1 x p "k" yes`, api.ErrNotFound)
	b.say(`bind 1 1 x q "k" no`, "done 0 0")
	b.say(`bind 1 1 x q "k" no`, "done 0 0")
	b.say(`bind 1 1 h q "" yes a="1"`, "done 0 0")
	if l := b.d.Routes().Bindings; text(l) != text([]api.Binding{{Exchange: "x", Queue: "q", Key: "k"}, {Exchange: "h", Queue: "q", All: true, Match: []api.Prop{{Key: "a", Value: "1"}}}}) {
		t.Errorf("Routes = %v", l)
	}
	b.refuse(`unbind 1 1 x q "l" no`, api.ErrNotFound)
	b.refuse(`unbind 1 1 x p "k" no`, api.ErrNotFound)
	b.say(`unbind 1 1 x q "k" no`, "done 0 0")
	b.refuse(`unbind 1 1 x q "k" no`, api.ErrNotFound)
	for i := range api.MaxQueue - 1 {
		b.say(fmt.Sprintf(`bind 1 1 x q "%d" no`, i), "done 0 0")
	}
	b.refuse(`bind 1 1 x q "k" no`, api.ErrFull)
}

// P30.3: a message goes into all queues that it reaches and that exist.
func TestPublish(t *testing.T) {
	b := open(t, "queue 1 1 p 2 0 0 -", "queue 1 1 q 2 0 0 -", "exchange 1 1 x fanout -", "exchange 1 1 h headers -", `bind 1 1 x q "" no`, `bind 1 1 x p "" no`, `bind 1 1 x p "k" no`, `bind 1 1 h q "" no a="1"`)
	b.say("put q a", "done 0 1")
	b.say("put none a", "done 0 0")
	b.say("put a.b a", "done 0 0")
	b.say(`publish 1 1 x "k" "t" "b" 0 no 0 0 - 0`, "done 0 2")
	b.say(`publish 1 1 h "k" "t" "c" 0 no 0 0 - 0 a="1"`, "done 0 1")
	b.say(`publish 1 1 h "k" "t" "d" 0 no 0 0 - 0 a="2"`, "done 0 0")
	b.refuse(`publish 1 1 none "k" "t" "b" 0 no 0 0 - 0`, api.ErrNotFound)
	b.holds("p", "1 b")
	b.holds("q", "2 b", "3 c")
	b.count(4, 0, 1, 0, 3, 0)
}

// P30.3, P30.9: the entry has all of the message.
func TestPublishedEntry(t *testing.T) {
	b := open(t, "queue 1 1 q 2 0 0 -")
	b.now = 7
	b.say(`publish 1 1 - "q" "a/b" "p" 2 yes 9 70000 x-1 12 k="v" l=""`, "done 0 1")
	m := api.Message{Topic: "a/b", Payload: "p", Level: 2, Retain: true, Priority: 9, Expires: 70000, From: "x-1", Seq: 12, Props: []api.Prop{{Key: "k", Value: "v"}, {Key: "l"}}}
	e := api.Entry{Number: 1, Arrived: 7, Message: m}
	if q, _ := b.d.Queue("q"); text(q) != text(api.Queue{Spec: api.Spec{Name: "q", Max: 2}, Next: 2, Ready: []api.Entry{e}}) {
		t.Errorf("Queue = %+v", q)
	}
	b.now = 8
	e.Attempts = 1
	got := b.d.Do(api.Request{Kind: api.ReqConsume, Conn: 4, Serial: 6, Tag: 5, Name: "q"}, 8)
	if text(got) != text([]api.Reply{{Kind: api.RepDone, Conn: 4, Serial: 6}, {Kind: api.RepDeliver, Conn: 4, Owner: 5, Tag: 1, Name: "q", Entry: e}}) {
		t.Errorf("Do = %+v", got)
	}
	if l := b.d.Leases(); text(l) != text([]api.Lease{{Tag: 1, Owner: 1, Queue: "q", Entry: e}}) {
		t.Errorf("Leases = %+v", l)
	}
}

// P30.3: a message that is expired at this instant goes into no queue, and displaces nothing.
func TestPublishExpired(t *testing.T) {
	b := open(t, "queue 1 1 q 1 1 1 -", "put q a 0 0")
	b.now = 0
	b.say("put q b 0 1", "done 0 1")
	b.now = 9
	b.say("queue 1 1 p 1 0 0 -", "done 0 0")
	b.say("put p a 0 9", "done 0 0")
	b.say("put p b 0 10", "done 0 1")
	b.say("put p c 0 9", "done 0 0")
	b.say("put p c 0 8", "done 0 0")
	b.holds("p", "1 b")
	b.refuseRequest(put("none", "p", "d", 0, 9), api.ErrNotFound)
	b.say("put q c", "done 0 1")
	b.count(4, 0, 2, 0, 2, 0)
}

// P30.3: what is displaced is the first entry of the lowest priority in the queue, whatever the new message has.
func TestOverflow(t *testing.T) {
	b := open(t, "queue 1 1 q 3 0 0 x", "queue 1 1 d 9 0 0 -", "exchange 1 1 x fanout -", `bind 1 1 x d "" no`)
	b.say("put q a 2", "done 0 1")
	b.say("put q b 1", "done 0 1")
	b.say("put q c 1", "done 0 1")
	b.say("put q d 0", "done 0 1")
	b.holds("q", "1 a", "3 c", "4 d")
	b.say("put q e 3", "done 0 1")
	b.holds("q", "5 e", "1 a", "3 c")
	b.say("put q f 9", "done 0 1")
	b.say("put q g 0", "done 0 1")
	b.say("put q h 0", "done 0 1")
	b.holds("q", "6 f", "5 e", "8 h")
	b.notes("d", "a 1 q 3", "b 1 q 3", "c 1 q 3", "d 1 q 3", "g 1 q 3")
	b.count(13, 0, 5, 0, 8, 0)
}

// P30.3: entries that came back may be more than Max; a message displaces as many as are too many.
func TestOverflowOfSeveral(t *testing.T) {
	b := open(t, "queue 1 1 q 2 0 0 x", "queue 1 1 d 9 0 0 -", "exchange 1 1 x fanout -", `bind 1 1 x d "" no`, "consume 2 1 1 q 0")
	for _, payload := range []string{"a 1", "b 0", "c 2", "d 0", "e 1"} {
		b.call("put q " + payload)
	}
	b.say("cancel 2 1 1", "done 0 5")
	b.holds("q", "3 c", "1 a", "5 e", "2 b", "4 d")
	b.count(5, 0, 0, 0, 5, 0)
	b.say("put q f 0", "done 0 1")
	b.holds("q", "3 c", "6 f")
	q, _ := b.d.Queue("d")
	var order string
	for number := 1; number <= len(q.Ready); number++ {
		for _, e := range q.Ready {
			if e.Number == number {
				order += e.Message.Payload
			}
		}
	}
	if order != "bdae" {
		t.Errorf("the dead letters came in the order %s", order)
	}
}

// P30.4: consumers; the connection's tags are its own, and consumers are served in turn.
func TestConsume(t *testing.T) {
	b := open(t, "queue 1 1 q 9 0 0 -", "queue 1 1 p 9 0 0 -")
	b.refuse("consume 1 1 5 none 0", api.ErrNotFound)
	b.say("consume 1 1 5 q 2", "done 0 0")
	b.refuse("consume 1 1 5 none 0", api.ErrNotFound)
	b.refuse("consume 1 1 5 q 2", api.ErrExists)
	b.refuse("consume 1 1 5 p 0", api.ErrExists)
	b.say("consume 1 1 0 p 1", "done 0 0")
	b.say("consume 2 1 5 q 0", "done 0 0")
	b.say("put q a", "done 0 1", "1/5 gets 1: q#1 a")
	b.say("put q b", "done 0 1", "2/5 gets 2: q#2 b")
	b.say("put p c", "done 0 1", "1/0 gets 3: p#1 c")
	b.say("put p d", "done 0 1")
	b.say("put q e", "done 0 1", "1/5 gets 4: q#3 e")
	b.say("put q f", "done 0 1", "2/5 gets 5: q#4 f")
	b.say("put q g", "done 0 1", "2/5 gets 6: q#5 g")
	b.owners("1: 1 has q#1", "2: 3 has q#2", "3: 2 has p#1", "4: 1 has q#3", "5: 3 has q#4", "6: 3 has q#5")
	b.count(7, 0, 0, 0, 1, 6)
}

// P30.4: there are at most MaxClients consumers; numbers are not used again.
func TestMostConsumers(t *testing.T) {
	b := open(t, "queue 1 1 q 9 0 0 -", "queue 1 1 p 9 0 0 -")
	for i := range api.MaxClients {
		b.say(fmt.Sprintf("consume %d 1 7 q 1", i), "done 0 0")
	}
	b.refuse("consume 99 1 7 q 1", api.ErrFull)
	b.refuse("consume 31 1 7 q 1", api.ErrExists)
	b.refuse("consume 99 1 7 none 1", api.ErrNotFound)
	b.say("cancel 31 1 7", "done 0 0")
	b.say("consume 99 1 7 p 1", "done 0 0")
	b.say("put p a", "done 0 1", "99/7 gets 1: p#1 a")
	b.owners("1: 33 has p#1")
	b.say("put q b", "done 0 1", "0/7 gets 2: q#1 b")
	b.owners("1: 33 has p#1", "2: 1 has q#1")
}

// P30.4: the deliveries of a consumer that is cancelled come back, or die.
func TestCancel(t *testing.T) {
	b := open(t, "queue 1 1 q 9 0 2 x", "queue 1 1 d 9 0 0 -", "exchange 1 1 x fanout -", `bind 1 1 x d "" no`, "put q a 1", "put q b", "put q c 2", "consume 1 1 5 q 0")
	b.refuse("cancel 1 1 4", api.ErrNotFound)
	b.refuse("cancel 2 1 5", api.ErrNotFound)
	b.say("cancel 1 1 5", "done 0 3")
	b.holds("q", "3 c", "1 a", "2 b")
	b.refuse("cancel 1 1 5", api.ErrNotFound)
	b.say("consume 1 1 5 q 2", "done 0 0", "1/5 gets 4: q#3 c again", "1/5 gets 5: q#1 a again")
	b.owners("4: 2 has q#3", "5: 2 has q#1")
	b.refuse("ack 1 1 1 yes", api.ErrNotFound)
	b.say("cancel 1 1 5", "done 0 2")
	b.holds("q", "2 b")
	b.notes("d", "c 1 q 4", "a 1 q 4")
	b.count(5, 0, 2, 0, 3, 0)
}

// P30.4: what comes back is delivered to the other consumers in the same call.
func TestCancelServesOthers(t *testing.T) {
	b := open(t, "queue 1 1 q 9 0 0 -", "put q a", "put q b", "consume 1 1 5 q 0", "consume 1 1 6 q 1")
	b.say("cancel 1 1 5", "done 0 2", "1/6 gets 3: q#1 a again")
	b.holds("q", "2 b")
	b.say("cancel 1 1 6", "done 0 1")
	b.holds("q", "1 a", "2 b")
}

// The consumer after the one that was served last is next; if that one is gone, it is the first one of the list.
func TestTurns(t *testing.T) {
	b := open(t, "queue 1 1 q 9 0 0 -", "queue 1 1 p 9 0 0 -", "consume 1 1 1 q 0", "consume 1 1 2 q 0", "consume 1 1 3 q 0", "consume 1 1 4 p 0")
	b.say("put q a", "done 0 1", "1/1 gets 1: q#1 a")
	b.say("put p a", "done 0 1", "1/4 gets 2: p#1 a")
	b.say("put q b", "done 0 1", "1/2 gets 3: q#2 b")
	b.say("cancel 1 1 2", "done 0 1", "1/1 gets 4: q#2 b again")
	b.say("put q c", "done 0 1", "1/3 gets 5: q#3 c")
	b.say("consume 1 1 2 q 0", "done 0 0")
	b.say("put q d", "done 0 1", "1/2 gets 6: q#4 d")
	b.say("put q e", "done 0 1", "1/1 gets 7: q#5 e")
	b.say("delete 1 1 q", "done 0 5")
	b.say("queue 1 1 q 9 0 0 -", "done 0 0")
	b.say("consume 1 1 1 q 0", "done 0 0")
	b.say("consume 1 1 2 q 0", "done 0 0")
	b.say("put q f", "done 0 1", "1/1 gets 8: q#1 f")
}

// Queues are served in ascending order, and each one as far as possible.
func TestOrderOfDeliveries(t *testing.T) {
	b := open(t, "queue 1 1 q 9 0 0 -", "queue 1 1 p 9 0 0 -", "queue 1 1 p0 9 0 0 -", "exchange 1 1 x fanout -", `bind 1 1 x q "" no`, `bind 1 1 x p "" no`, `bind 1 1 x p0 "" no`)
	for _, call := range []string{"consume 1 1 1 q 0", "consume 1 1 2 p 1", "consume 1 1 3 p0 0", "consume 1 1 4 p 0"} {
		b.say(call, "done 0 0")
	}
	b.say(`publish 1 1 x "k" "t" "a" 0 no 0 0 - 0`, "done 0 3", "1/2 gets 1: p#1 a", "1/3 gets 2: p0#1 a", "1/1 gets 3: q#1 a")
	b.say("begin 1 1", "done 0 0")
	b.say(`publish 1 1 x "k" "t" "b" 0 no 0 0 - 0`, "done 0 0")
	b.say(`publish 1 1 - "p" "t" "c" 0 no 9 0 - 0`, "done 0 0")
	b.say("commit 1 1", "done 0 2", "1/4 gets 4: p#3 c", "1/4 gets 5: p#2 b", "1/3 gets 6: p0#2 b", "1/1 gets 7: q#2 b")
}

// P30.5: acknowledging one delivery, or all of its consumer up to it.
func TestAck(t *testing.T) {
	b := open(t, "queue 1 1 q 9 0 0 -", "consume 1 1 1 q 0", "consume 1 1 2 q 0", "consume 2 1 1 q 0")
	for range 3 {
		b.call("put q a")
		b.call("put q b")
		b.call("put q c")
	}
	b.owners("1: 1 has q#1", "2: 2 has q#2", "3: 3 has q#3", "4: 1 has q#4", "5: 2 has q#5", "6: 3 has q#6", "7: 1 has q#7", "8: 2 has q#8", "9: 3 has q#9")
	b.refuse("ack 2 1 4 no", api.ErrNotFound)
	b.refuse("ack 2 1 4 yes", api.ErrNotFound)
	b.refuse("ack 1 1 3 yes", api.ErrNotFound)
	b.refuse("ack 1 1 0 yes", api.ErrNotFound)
	b.refuse("ack 1 1 10 yes", api.ErrNotFound)
	b.refuse("ack 9 1 1 yes", api.ErrNotFound)
	b.say("ack 1 1 4 no", "done 0 1")
	b.refuse("ack 1 1 4 yes", api.ErrNotFound)
	b.say("ack 1 1 7 yes", "done 0 2")
	b.say("ack 2 1 6 yes", "done 0 2")
	b.owners("2: 2 has q#2", "5: 2 has q#5", "8: 2 has q#8", "9: 3 has q#9")
	b.say("ack 1 1 8 no", "done 0 1")
	b.say("ack 1 1 5 yes", "done 0 2")
	b.count(9, 8, 0, 0, 0, 1)
}

// P30.5, P30.12: after an ack, as many entries are delivered as deliveries were settled.
func TestAckServes(t *testing.T) {
	b := open(t, "queue 1 1 q 9 0 0 -", "consume 1 1 1 q 3")
	for _, payload := range []string{"a", "b", "c", "d", "e", "f"} {
		b.call("put q " + payload)
	}
	b.say("ack 1 1 2 yes", "done 0 2", "1/1 gets 4: q#4 d", "1/1 gets 5: q#5 e")
	b.say("ack 1 1 4 no", "done 0 1", "1/1 gets 6: q#6 f")
	b.say("ack 1 1 6 yes", "done 0 3")
	b.say("put q g", "done 0 1", "1/1 gets 7: q#7 g")
	b.count(7, 6, 0, 0, 0, 1)
}

// P30.5: a delivery that is refused comes back to its place, or dies.
func TestNack(t *testing.T) {
	b := open(t, "queue 1 1 q 9 10 2 x", "queue 1 1 d 9 0 0 -", "exchange 1 1 x fanout -", `bind 1 1 x d "" no`, "put q a 1", "put q b", "put q c", "consume 1 1 1 q 1")
	b.refuse("nack 2 1 1 yes", api.ErrNotFound)
	b.refuse("nack 1 1 2 no", api.ErrNotFound)
	b.say("nack 1 1 1 yes", "done 0 1", "1/1 gets 2: q#1 a again")
	b.refuse("nack 1 1 1 yes", api.ErrNotFound)
	b.say("nack 1 1 2 yes", "done 0 1", "1/1 gets 3: q#2 b")
	b.notes("d", "a 1 q 4")
	b.say("nack 1 1 3 no", "done 0 1", "1/1 gets 4: q#3 c")
	b.now = 10
	b.say("nack 1 1 4 yes", "done 0 1")
	b.notes("d", "a 1 q 4", "b 1 q 1", "c 1 q 2")
	b.count(6, 0, 3, 0, 3, 0)
}

// P30.5: of several deliveries of a consumer, one is refused.
func TestNackOfOne(t *testing.T) {
	b := open(t, "queue 1 1 q 9 0 0 -", "consume 1 1 1 q 0", "put q a", "put q b", "put q c")
	b.say("nack 1 1 2 yes", "done 0 1", "1/1 gets 4: q#2 b again")
	b.say("nack 1 1 3 no", "done 0 1")
	b.owners("1: 1 has q#1", "4: 1 has q#2")
	b.count(3, 0, 1, 0, 0, 2)
}

// An entry that comes back dies for its attempts before it dies for its age; what is delivered does not expire.
func TestComingBack(t *testing.T) {
	l := []string{"queue 1 1 q 9 10 1 x", "queue 1 1 p 9 10 2 x", "queue 1 1 d 9 0 0 -", "exchange 1 1 x fanout -", `bind 1 1 x d "" no`, "consume 1 1 1 q 0", "consume 1 1 2 p 0", "put q a", "put p b", "put p c 0 5"}
	b := open(t, l...)
	b.now = 10
	b.say("tick")
	b.count(3, 0, 0, 0, 0, 3)
	b.say("nack 1 1 2 yes", "done 0 1")
	b.say("nack 1 1 1 yes", "done 0 1")
	b.notes("d", "b 1 p 2", "a 1 q 4")
	b = open(t, l...)
	b.now = 4
	b.say("nack 1 1 3 yes", "done 0 1", "1/2 gets 4: p#2 c again")
	b.now = 5
	b.say("nack 1 1 2 yes", "done 0 1", "1/2 gets 5: p#1 b again")
	b.say("nack 1 1 4 yes", "done 0 1")
	b.notes("d", "c 1 p 4")
}

// What is expired is removed queue by queue, in their order, with its dead letters behind all of them.
func TestExpire(t *testing.T) {
	b := open(t, "queue 1 1 q 9 10 0 x", "queue 1 1 p 9 0 0 x", "queue 1 1 a 2 3 0 x", "exchange 1 1 x fanout -", `bind 1 1 x a "" no`, "put q b", "put q c 1", "put p d 0 4", "put p e 0 2", "put p f 0 5")
	b.now = 2
	b.say("tick")
	b.holds("p", "1 d", "3 f")
	b.notes("a", "e 1 p 2")
	b.now = 4
	b.say("tick")
	b.notes("a", "e 1 p 2", "d 1 p 2")
	b.now = 5
	// When the dead letters are sent, the queue a has room again for e, which died in it, and then none for f.
	b.say("tick")
	b.notes("a", "d 1 p 2", "e 2 a 2")
	b.count(8, 0, 4, 0, 4, 0)
	b.now = 9
	b.say("describe 1 1 q", "done 0 2")
	b.now = 10
	b.say("describe 1 1 q", "done 0 0")
}

// The dead letters for what is expired in a queue are sent when all queues are without what is expired.
func TestExpireBeforeLetters(t *testing.T) {
	b := open(t, "queue 1 1 a 9 5 0 x", "queue 1 1 b 1 5 0 -", "exchange 1 1 x fanout -", `bind 1 1 x b "" no`, "put a c", "put b d")
	b.now = 5
	b.say("tick")
	b.notes("b", "c 1 a 2")
	b.count(3, 0, 2, 0, 1, 0)
}

// P30.8: Tick removes what is expired, and deliveries are made of the dead letters.
func TestTick(t *testing.T) {
	b := open(t, "queue 1 1 q 9 10 0 x", "queue 1 1 d 9 0 0 -", "exchange 1 1 x fanout -", `bind 1 1 x d "" no`, "consume 1 1 1 d 0", "put q a", "put q b 1")
	b.now = 9
	b.say("tick")
	b.now = 10
	b.say("tick", "1/1 gets 1: d#1 b", "1/1 gets 2: d#2 a")
	b.say("tick")
	b.count(4, 0, 2, 0, 0, 2)
}

// P30.8: a connection that is dropped loses its transaction and its consumers, whose deliveries come back.
func TestDrop(t *testing.T) {
	b := open(t, "queue 1 1 q 9 0 0 -", "consume 1 1 1 q 1", "consume 2 1 1 q 1", "consume 1 1 2 q 0", "begin 1 1", "begin 2 1", "put q a")
	b.call(`publish 3 1 - "q" "t" "b" 0 no 0 0 - 0`)
	b.call(`publish 3 1 - "q" "t" "c" 0 no 0 0 - 0`)
	b.call(`publish 3 1 - "q" "t" "d" 0 no 0 0 - 0`)
	b.owners("1: 1 has q#1", "2: 2 has q#2", "3: 3 has q#3")
	b.say("drop 9")
	b.say("drop 1")
	b.holds("q", "1 b", "3 d")
	b.refuse("commit 1 1", api.ErrState)
	b.refuse("cancel 1 1 1", api.ErrNotFound)
	b.refuse("cancel 1 1 2", api.ErrNotFound)
	b.say("ack 2 1 2 no", "done 0 0")
	b.say("commit 2 1", "done 0 1", "2/1 gets 4: q#1 b again")
	b.say("consume 1 1 1 q 0", "done 0 0", "1/1 gets 5: q#3 d again")
	b.count(3, 1, 0, 0, 0, 2)
}

// P30.8: the consumers are removed in their order, also if their deliveries were made in another one; dead letters are sent, and delivered.
func TestOrderOfDrop(t *testing.T) {
	b := open(t, "queue 1 1 q 9 0 1 x", "queue 1 1 a 9 0 1 x", "queue 1 1 d 9 7 0 x", "queue 1 1 e 9 0 0 -", "exchange 1 1 x direct -", `bind 1 1 x d "q" no`, `bind 1 1 x d "a" no`, `bind 1 1 x e "d" no`)
	for _, call := range []string{"put q b", "put a c", "put q d", "put d z", "consume 1 1 1 q 0", "consume 1 1 2 a 0"} {
		b.call(call)
	}
	b.owners("1: 1 has q#1", "2: 1 has q#2", "3: 2 has a#1")
	b.say("put a e", "done 0 1", "1/2 gets 4: a#2 e")
	b.say("consume 2 1 1 e 1", "done 0 0")
	b.now = 7
	b.say("drop 1", "2/1 gets 5: e#1 z")
	b.notes("d", "b 1 q 4", "d 1 q 4", "c 1 a 4", "e 1 a 4")
	b.count(10, 0, 5, 0, 4, 1)
}

// P30.7: purging leaves deliveries; deleting removes everything of the queue.
func TestPurgeDelete(t *testing.T) {
	b := open(t, "queue 1 1 q 9 0 0 x", "queue 1 1 p 9 0 0 -", "exchange 1 1 x fanout -", `bind 1 1 x q "k" no`, `bind 1 1 x p "" no`, `bind 1 1 x q "l" no`, "put q a", "put q b", "put q c", "consume 1 1 1 q 1", "consume 2 1 1 p 1", "put p d", "put p e")
	b.refuse("purge 1 1 none", api.ErrNotFound)
	b.refuse("delete 1 1 none", api.ErrNotFound)
	b.refuse("describe 1 1 none", api.ErrNotFound)
	b.say("describe 1 1 q", "done 0 2")
	b.say("purge 9 1 q", "done 0 2")
	b.say("purge 9 1 q", "done 0 0")
	b.count(5, 0, 0, 2, 1, 2)
	b.say("put q f", "done 0 1")
	b.say("delete 9 1 q", "done 0 2")
	b.count(6, 0, 0, 4, 1, 1)
	b.owners("2: 2 has p#1")
	if _, found := b.d.Queue("q"); found {
		t.Error("the queue is there")
	}
	if l := b.d.Routes().Bindings; text(l) != text([]api.Binding{{Exchange: "x", Queue: "p"}}) {
		t.Errorf("Routes = %v", l)
	}
	b.refuse("cancel 1 1 1", api.ErrNotFound)
	b.refuse("ack 1 1 1 no", api.ErrNotFound)
	b.refuse("describe 1 1 q", api.ErrNotFound)
	b.say("put q g", "done 0 0")
	b.say("queue 1 1 q 1 0 0 -", "done 0 0")
	b.say("put q h", "done 0 1")
	b.holds("q", "1 h")
	b.say("consume 1 1 1 q 1", "done 0 0", "1/1 gets 3: q#1 h")
	b.owners("2: 2 has p#1", "3: 3 has q#1")
}

// Dead letters go to the exchange of the queue, with its name as the routing key and the properties that note the death.
func TestDeadLetters(t *testing.T) {
	b := open(t, "queue 1 1 q 1 0 0 h", "queue 1 1 a 9 0 0 -", "queue 1 1 b 1 0 0 -", "exchange 1 1 h headers y", "exchange 1 1 y topic -", `bind 1 1 h a "" no deaths="2"`, `bind 1 1 h b "" no deaths="2"`, `bind 1 1 y a "#.q" no`, `bind 1 1 y b "k.#" no`)
	b.say("put q c", "done 0 1")
	b.say("put q d", "done 0 1")
	b.notes("a", "c 1 q 3")
	b.notes("b")
	b.say(`publish 1 1 - "q" "t" "e" 0 no 0 77 - 0 a="" deaths="1"`, "done 0 1")
	b.say("put q f", "done 0 1")
	b.notes("a", "c 1 q 3", "d 1 q 3", "e 2 q 3")
	b.notes("b", "e 2 q 3")
	q, _ := b.d.Queue("b")
	if e := q.Ready[0]; e.Message.Expires != 0 || text(e.Message.Props) != "[{Key:a Value:} {Key:deaths Value:2} {Key:died Value:q 3}]" {
		t.Errorf("the dead letter is %+v", e)
	}
	b.count(8, 0, 3, 0, 5, 0)
}

// Dead letters are sent neither without an exchange, nor to one that is not declared, nor for messages that died too often, nor to full queues.
func TestDroppedLetters(t *testing.T) {
	b := open(t, "queue 1 1 q 1 0 0 x", "queue 1 1 p 1 0 0 -", "queue 1 1 d 2 0 0 -", "exchange 1 1 y fanout -", `bind 1 1 y d "" no`)
	b.say("put p a", "done 0 1")
	b.say("put p b", "done 0 1")
	b.say("put q a", "done 0 1")
	b.say("put q b", "done 0 1")
	b.count(4, 0, 2, 0, 2, 0)
	b.call("exchange 1 1 x fanout -")
	b.call(`bind 1 1 x d "" no`)
	b.say(`publish 1 1 - "q" "t" "c" 0 no 0 0 - 0 deaths="8"`, "done 0 1")
	b.notes("d", "b 1 q 3")
	b.say(`publish 1 1 - "q" "t" "d" 0 no 0 0 - 0 deaths="7"`, "done 0 1")
	b.notes("d", "b 1 q 3")
	b.say("put q e", "done 0 1")
	b.notes("d", "b 1 q 3", "d 8 q 3")
	b.say("put q f", "done 0 1")
	b.notes("d", "b 1 q 3", "d 8 q 3")
	b.count(10, 0, 6, 0, 4, 0)
}

// A dead letter may come into the queue in which the entry died, where it is a new entry; it does not die there at once.
func TestLetterToTheSameQueue(t *testing.T) {
	b := open(t, "queue 1 1 q 1 5 1 x", "exchange 1 1 x fanout -", `bind 1 1 x q "" no`, "put q a", "consume 1 1 1 q 1")
	for deaths := 1; deaths < api.MaxHops; deaths++ {
		b.now += 9
		b.say(fmt.Sprintf("nack 1 1 %d yes", deaths), "done 0 1", fmt.Sprintf("1/1 gets %d: q#%d a", deaths+1, deaths+1))
	}
	b.say("cancel 1 1 1", "done 0 1")
	b.notes("q", "a 8 q 4")
	b.now += 5
	b.say("tick")
	b.count(9, 0, 9, 0, 0, 0)
}

// P30.6: in a transaction, requests to publish and to acknowledge wait; all others are executed.
func TestTransaction(t *testing.T) {
	b := open(t, "queue 1 1 q 9 0 0 -", "put q a", "put q b", "consume 1 1 1 q 2")
	b.say("begin 1 1", "done 0 0")
	b.refuse("begin 1 1", api.ErrState)
	before := b.state()
	b.say("put q c", "done 0 0")
	b.say("ack 1 1 1 no", "done 0 0")
	b.say("nack 1 1 2 yes", "done 0 0")
	if b.state() != before {
		t.Error("requests of an open transaction have an effect")
	}
	b.refuseRequest(api.Request{Kind: api.ReqPublish, Conn: 1}, api.ErrTopic)
	b.refuseRequest(api.Request{Kind: api.ReqAck, Conn: 1, Serial: -1}, api.ErrRange)
	b.say("describe 1 1 q", "done 0 0")
	b.say(`publish 2 1 - "q" "t" "d" 0 no 0 0 - 0`, "done 0 1")
	b.say("consume 1 1 2 q 1", "done 0 0", "1/2 gets 3: q#3 d")
	b.refuse("commit 2 1", api.ErrState)
	b.say("commit 1 1", "done 0 3", "1/1 gets 4: q#2 b again", "1/1 gets 5: q#4 c")
	b.refuse("commit 1 1", api.ErrState)
	b.refuse("rollback 1 1", api.ErrState)
	b.count(4, 1, 0, 0, 0, 3)
	b.say("begin 1 1", "done 0 0")
	b.say("commit 1 1", "done 0 0")
}

// P30.6: what is forgotten has no effect.
func TestRollback(t *testing.T) {
	b := open(t, "queue 1 1 q 9 0 0 -", "begin 1 1", "put q a", "put q b")
	b.say("rollback 1 1", "done 0 2")
	b.refuse("commit 1 1", api.ErrState)
	b.say("put q c", "done 0 1")
	b.holds("q", "1 c")
	b.say("begin 1 1", "done 0 0")
	b.say("rollback 1 1", "done 0 0")
	b.count(1, 0, 0, 0, 1, 0)
}

// P30.6: a transaction has at most MaxList requests; there are at most MaxClients open ones.
func TestMostTransactions(t *testing.T) {
	b := open(t, "queue 1 1 q 256 0 0 -")
	for i := range api.MaxClients {
		b.say(fmt.Sprintf("begin %d 1", i), "done 0 0")
	}
	b.refuse("begin 99 1", api.ErrFull)
	b.refuse("begin 31 1", api.ErrState)
	for range api.MaxList {
		b.say("put q a", "done 0 0")
	}
	b.refuse("put q a", api.ErrFull)
	b.refuse("ack 1 1 1 no", api.ErrFull)
	b.say("commit 1 1", "done 0 32")
	b.say("begin 99 1", "done 0 0")
	b.refuse("begin 1 1", api.ErrFull)
	b.say("rollback 5 1", "done 0 0")
	b.say("begin 1 1", "done 0 0")
	b.say("drop 99")
	b.say("begin 98 1", "done 0 0")
	b.refuse("begin 97 1", api.ErrFull)
	b.count(32, 0, 0, 0, 32, 0)
}

// P30.6, P30.11: if one request returns an error, none has an effect; the transaction is closed.
func TestFailedCommit(t *testing.T) {
	b := open(t, "queue 1 1 q 1 0 2 x", "queue 1 1 d 1 0 0 -", "exchange 1 1 x fanout -", `bind 1 1 x d "" no`, "consume 1 1 1 q 1", "put q a", "put q b", "begin 1 1")
	for _, call := range []string{"put q c", "put d d", "put d e", "nack 1 1 1 no", `publish 1 1 none "k" "t" "f" 0 no 0 0 - 0`, "ack 1 1 1 no"} {
		b.say(call, "done 0 0")
	}
	b.refuse("commit 1 1", api.ErrNotFound)
	b.refuse("commit 1 1", api.ErrState)
	b.count(2, 0, 0, 0, 1, 1)
	b.say("put q c", "done 0 1")
	b.holds("q", "3 c")
	b.notes("d", "b 1 q 3")
	b.say("nack 1 1 1 yes", "done 0 1", "1/1 gets 2: q#1 a again")
}

// P30.11: what had expired is removed also with an error, and the dead letters for it are delivered.
func TestFailedCommitExpires(t *testing.T) {
	b := open(t, "queue 1 1 q 9 5 0 x", "queue 1 1 d 9 0 0 -", "exchange 1 1 x fanout -", `bind 1 1 x d "" no`, "consume 1 1 1 d 0", "put q a", "begin 1 1", "put q b", "ack 1 1 7 no")
	b.now = 5
	b.say("commit 1 1", "done 8 0", "1/1 gets 1: d#1 a")
	b.holds("q")
	b.count(2, 0, 1, 0, 0, 1)
}

// P30.6: dead letters are sent after each request of a transaction.
func TestLettersOfCommit(t *testing.T) {
	b := open(t, "queue 1 1 q 9 0 0 x", "queue 1 1 d 1 0 0 -", "exchange 1 1 x fanout -", `bind 1 1 x d "" no`, "put q a", "consume 1 1 1 q 1", "begin 1 1", "nack 1 1 1 no", "put d b")
	b.say("commit 1 1", "done 0 2")
	b.holds("d", "2 b")
	b.count(3, 0, 2, 0, 1, 0)
}

// P30.6: a delivery is settled once; what a transaction publishes and what comes back is delivered behind it.
func TestCommitTwice(t *testing.T) {
	b := open(t, "queue 1 1 q 9 0 0 -", "put q a", "consume 1 1 1 q 1", "begin 1 1", "ack 1 1 1 no", "ack 1 1 1 no")
	b.refuse("commit 1 1", api.ErrNotFound)
	b.owners("1: 1 has q#1")
	for _, call := range []string{"begin 1 1", "nack 1 1 1 yes", "put q b", "ack 1 1 2 no"} {
		b.call(call)
	}
	b.refuse("commit 1 1", api.ErrNotFound)
	for _, call := range []string{"begin 1 1", "nack 1 1 1 yes", "put q b 9"} {
		b.call(call)
	}
	b.say("commit 1 1", "done 0 2", "1/1 gets 2: q#2 b")
	b.holds("q", "1 a")
}

// P30.12: at MaxRecords deliveries none is made; when they come back, a queue has more than Max entries.
func TestMostDeliveries(t *testing.T) {
	b := open(t, "queue 1 1 q 256 0 0 -", "queue 1 1 a 1 0 0 -", "consume 1 1 1 q 0", "consume 1 1 2 a 0")
	for range api.MaxRecords - 1 {
		b.d.Do(put("", "q", "m", 0, 0), 0)
	}
	b.say("put q y", "done 0 1", "1/1 gets 4096: q#4096 y")
	b.say("put q z", "done 0 1")
	b.say("put a z", "done 0 1")
	b.say("tick")
	b.count(api.MaxRecords+2, 0, 0, 0, 2, api.MaxRecords)
	b.say("ack 1 1 7 no", "done 0 1", "1/2 gets 4097: a#1 z")
	b.say("ack 1 1 9 yes", "done 0 8", "1/1 gets 4098: q#4097 z")
	for range api.MaxQueue {
		b.d.Do(put("", "q", "m", 0, 0), 0)
	}
	b.count(api.MaxRecords+2+api.MaxQueue, 9, 0, 0, api.MaxQueue-7, api.MaxRecords)
	if got := b.call("cancel 1 1 1"); got[0] != "done 0 4095" || len(got) != 1 {
		t.Errorf("cancel = %.300q", got)
	}
	b.count(api.MaxRecords+2+api.MaxQueue, 9, 0, 0, api.MaxQueue-7+api.MaxRecords-1, 1)
	b.say("put q x", "done 0 1")
	b.count(api.MaxRecords+3+api.MaxQueue, 9, api.MaxRecords-7, 0, api.MaxQueue, 1)
}

// R5: what is given to a desk is not changed, nor kept.
func TestArguments(t *testing.T) {
	props := func() []api.Prop { return append(make([]api.Prop, 0, 5), api.Prop{Key: "k", Value: "v"}) }
	b := open(t, "queue 1 1 q 9 0 0 -", "exchange 1 1 h headers -", "begin 2 1")
	l := []api.Request{
		{Kind: api.ReqBind, Conn: 1, Binding: api.Binding{Exchange: "h", Queue: "q", Match: props()}},
		{Kind: api.ReqPublish, Conn: 1, Key: "q", Message: api.Message{Topic: "t", Props: props()}},
		{Kind: api.ReqPublish, Conn: 2, Key: "q", Message: api.Message{Topic: "t", Props: props()}},
		{Kind: api.ReqUnbind, Conn: 1, Binding: api.Binding{Exchange: "h", Queue: "none", Match: props()}},
	}
	for _, r := range l {
		before := text(r)
		b.d.Do(r, 0)
		list := slices.Concat(r.Binding.Match[:cap(r.Binding.Match)], r.Message.Props[:cap(r.Message.Props)])
		if text(r) != before || list[1] != (api.Prop{}) {
			t.Errorf("Do changed %s to %+v", before, r)
		}
		clear(r.Binding.Match)
		clear(r.Message.Props)
	}
	b.say("commit 2 1", "done 0 1")
	q, _ := b.d.Queue("q")
	if got := text(q.Ready[0].Message.Props) + text(q.Ready[1].Message.Props) + text(b.d.Routes().Bindings[0].Match); got != strings.Repeat("[{Key:k Value:v}]", 3) {
		t.Errorf("what was given is kept: %s", got)
	}
}

// spoil overwrites entries, also behind the ends of their lists.
func spoil(l []api.Entry) {
	for _, e := range l[:cap(l)] {
		clear(e.Message.Props[:cap(e.Message.Props)])
	}
	clear(l[:cap(l)])
}

// R5: results share no memory with the desk, nor with each other.
func TestResults(t *testing.T) {
	b := open(t, "queue 1 1 q 9 0 0 x", "exchange 1 1 x headers -", `bind 1 1 x q "" no k="v"`)
	for range 4 {
		b.call(`publish 1 1 x "" "t" "a" 0 no 0 0 - 0 k="v" l="w"`)
	}
	l := b.d.Do(api.Request{Kind: api.ReqConsume, Conn: 2, Tag: 1, Name: "q", Limit: 2}, 0)
	before := b.state()
	q, _ := b.d.Queue("q")
	other, _ := b.d.Queue("q")
	shown := text(other)
	spoil(q.Ready)
	for _, x := range l {
		spoil([]api.Entry{x.Entry})
	}
	leases := b.d.Leases()
	for i := range leases {
		spoil([]api.Entry{leases[i].Entry})
	}
	clear(leases[:cap(leases)])
	routes := b.d.Routes()
	clear(routes.Bindings[0].Match[:cap(routes.Bindings[0].Match)])
	clear(routes.Bindings[:cap(routes.Bindings)])
	clear(routes.Exchanges[:cap(routes.Exchanges)])
	if after := b.state(); after != before || text(other) != shown {
		t.Errorf("after results were overwritten, %s is %s", before, after)
	}
	b.say("nack 2 1 1 yes", "done 0 1", "2/1 gets 3: q#1 a again")
}

// R9: two desks do not influence each other.
func TestTwoDesks(t *testing.T) {
	a, b := open(t, "queue 1 1 q 9 0 0 -", "put q a"), open(t, "queue 1 1 q 9 0 0 -", "begin 1 1")
	a.say("consume 1 1 1 q 0", "done 0 0", "1/1 gets 1: q#1 a")
	b.say("put q b", "done 0 0")
	b.refuse("cancel 1 1 1", api.ErrNotFound)
	a.refuse("commit 1 1", api.ErrState)
	b.say("commit 1 1", "done 0 1")
	b.count(1, 0, 0, 0, 1, 0)
	a.count(1, 0, 0, 0, 0, 1)
}

// R1: every call returns, whatever it is given.
func TestOddArguments(t *testing.T) {
	odd := []int{math.MinInt, -1, 0, 1, 2, 7, api.MaxTick, api.MaxTick + 1, math.MaxInt}
	b := open(t, "queue 1 1 q 1 5 1 x", "exchange 1 1 x fanout -", `bind 1 1 x q "" no`, "put q a", "put q b", "consume 1 1 1 q 2")
	for _, now := range odd {
		for _, x := range odd {
			for kind := -1; kind <= 16; kind++ {
				b.d.Do(api.Request{Kind: kind, Conn: 1, Tag: x, Flag: x > 0, Name: "q"}, now)
				b.d.Do(api.Request{Kind: kind, Conn: x, Serial: x, Key: "q", Message: api.Message{Topic: "t", Priority: x, Expires: x}}, now)
			}
			b.d.Do(api.Request{Kind: api.ReqQueue, Spec: api.Spec{Name: "q", Max: x, TTL: x, Attempts: x}}, now)
			b.d.Drop(x, now)
			b.d.Tick(now)
		}
		b.d.Queue("")
		b.d.Leases()
		b.d.Routes()
		b.d.Totals()
	}
}
