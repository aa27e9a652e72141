package session_test

import (
	"fmt"
	"math"
	"math/rand"
	"slices"
	"strconv"
	"strings"
	"testing"

	"broker/api"
	"broker/inbound"
	"broker/inflight"
	"broker/message"
	"broker/packet"
	"broker/session"
	"broker/slow"
	"broker/will"
)

// msg returns a message with a number and a level, and the instant from which it is expired.
func msg(number, level, expires int) api.Message {
	return api.Message{Topic: "t/" + strconv.Itoa(number), Payload: "p" + strconv.Itoa(number), Level: level, Expires: expires, Seq: number}
}

// full returns a message with a number and a level in which no other field is zero; its list of properties has room behind its end.
func full(number, level int) api.Message {
	props := make([]api.Prop, 0, 9)
	props = append(props, api.Prop{Key: "k", Value: strconv.Itoa(number)}, api.Prop{Key: "n", Value: "v"})
	return api.Message{Topic: "a/b", Payload: "p\x00\xff", Level: level, Retain: true, Priority: 9, Expires: 70000, From: "x-1", Seq: number, Props: props}
}

// connect returns a Connect packet.
func connect(window, expiry int) api.Packet {
	return api.Packet{Kind: api.Connect, Client: "c", Window: window, Expiry: expiry}
}

// fullConnect returns a Connect packet in which no field that it may have is zero.
func fullConnect() api.Packet {
	return api.Packet{Kind: api.Connect, Client: "c-2", User: "u-2", Clean: true, Keep: 6, Expiry: 7, Window: 9, Will: api.Will{Set: true, Delay: 8, Message: full(90, 1)}}
}

// online returns a session that was not used, with a window and an expiry interval.
func online(window, expiry int) api.Session { return session.New(connect(window, expiry), 7) }

// with returns s with waiting messages.
func with(s api.Session, q ...api.Message) api.Session {
	s.Queue = q
	return s
}

// offline returns s as a session that is not online up to an instant.
func offline(s api.Session, until int) api.Session {
	s.Online, s.Conn, s.Until = false, 0, until
	return s
}

// flying returns a window of a limit in which these messages were started; those with a negative number are released.
func flying(t *testing.T, limit int, l ...api.Message) api.Window {
	t.Helper()
	w := inflight.New(max(limit, len(l)))
	for _, m := range l {
		released := m.Seq < 0
		m.Seq = max(m.Seq, -m.Seq)
		next, p, code := inflight.Start(w, m)
		if released && code == api.OK {
			next, _, code = inflight.Handle(next, api.Packet{Kind: api.Pubrec, ID: p.ID})
		}
		if code != api.OK {
			t.Fatalf("%+v cannot be in flight: %d", m, code)
		}
		w = next
	}
	w.Limit = limit
	return w
}

// rich returns a session that is online in which no field but Until is zero; behind the ends of its lists there is room.
func rich(t *testing.T) api.Session {
	t.Helper()
	s := api.Session{Client: "c", User: "u", Online: true, Conn: 5, Expiry: 20, Dropped: 3, Will: api.Will{Set: true, Delay: 4, Message: full(80, 2)}}
	s.Subs = append(make([]api.Sub, 0, 9), api.Sub{Filter: "$share/g/a/+", Level: 2}, api.Sub{Filter: "a/#", Level: 1, NoLocal: true}, api.Sub{Filter: "b"})
	s.Queue = append(make([]api.Message, 0, 9), full(1, 1), full(2, 0), full(3, 2), full(4, 1), full(5, 0))
	s.Out = flying(t, 4, full(-10, 2), full(11, 1), full(12, 2))
	s.In.IDs = append(make([]int, 0, 9), 4, 9, 65535)
	if code := session.Check(s); code != api.OK {
		t.Fatalf("the session is not valid: %d", code)
	}
	return s
}

// alike reports whether two values are printed alike: a list without elements may be nil or empty.
func alike(a, b any) bool { return fmt.Sprintf("%+v", a) == fmt.Sprintf("%+v", b) }

// checkSession says whether a session is the one that is expected. P19.8: it is valid.
func checkSession(t *testing.T, what string, got, want api.Session) {
	t.Helper()
	if !alike(got, want) {
		t.Fatalf("%s: the session is %+v, want %+v", what, got, want)
	}
	if code := session.Check(got); code != api.OK {
		t.Fatalf("%s: Check of %+v = %d", what, got, code)
	}
}

// checkPackets says whether the packets are those that are expected. All of them are valid.
func checkPackets(t *testing.T, what string, got []api.Packet, want ...api.Packet) {
	t.Helper()
	if !slices.EqualFunc(got, want, packet.Same) {
		t.Fatalf("%s: the packets are %+v, want %+v", what, got, want)
	}
	for _, p := range got {
		if code := packet.Check(p); code != api.OK || !packet.Broker(p.Kind) {
			t.Fatalf("%s: the packet %+v is not valid: %d", what, p, code)
		}
	}
}

// publish returns the Publish packet of a message; a message of level 0 has the identifier 0.
func publish(id int, m api.Message) api.Packet {
	return api.Packet{Kind: api.Publish, ID: id, Message: m}
}

// again returns the packet p with Dup.
func again(p api.Packet) api.Packet {
	p.Dup = true
	return p
}

// ack returns a packet that has a kind and an identifier only.
func ack(kind, id int) api.Packet { return api.Packet{Kind: kind, ID: id} }

// dropped is s after n messages were dropped, as the chapter counts them.
func dropped(s api.Session, n int) api.Session {
	for range n {
		if s.Dropped < api.MaxNumber {
			s.Dropped++
		}
	}
	return s
}

// sendAll sends as far as possible, as the chapter defines it: the first waiting message is considered, again and again.
func sendAll(s api.Session, now int) (api.Session, []api.Packet) {
	var l []api.Packet
	for len(s.Queue) > 0 {
		m := s.Queue[0]
		switch {
		case m.Expires != 0 && now >= m.Expires:
			s = dropped(s, 1)
		case m.Level == 0:
			l = append(l, publish(0, m))
		case inflight.Left(s.Out) != 0:
			w, p, _ := inflight.Start(s.Out, m)
			s.Out, l = w, append(l, p)
		default:
			return s, l
		}
		s.Queue = s.Queue[1:]
	}
	return s, l
}

// pull is Pull as the chapter defines it.
func pull(s api.Session, now int) (api.Session, []api.Packet) {
	if !s.Online {
		return s, nil
	}
	return sendAll(s, now)
}

// checkPull compares Pull with its definition.
func checkPull(t *testing.T, s api.Session, now int) (api.Session, []api.Packet) {
	t.Helper()
	got, packets := session.Pull(s, now)
	want, wantPackets := pull(s, now)
	checkSession(t, "Pull", got, want)
	checkPackets(t, "Pull", packets, wantPackets...)
	return got, packets
}

// checkOffer compares Offer with its definition.
func checkOffer(t *testing.T, s api.Session, m api.Message, limit, policy int) (api.Session, bool) {
	t.Helper()
	want, wantEvicted := s, false
	if !s.Online && m.Level == 0 {
		want = dropped(want, 1)
	} else {
		q, gone, evicted := slow.Push(s.Queue, m, min(limit, api.MaxQueue), policy)
		want.Queue = q
		want, wantEvicted = dropped(want, len(gone)), evicted && s.Online
	}
	got, evicted := session.Offer(s, m, limit, policy)
	checkSession(t, "Offer", got, want)
	if evicted != wantEvicted {
		t.Fatalf("Offer with max %d and policy %d to %+v evicts: %v", limit, policy, s, evicted)
	}
	return got, evicted
}

// checkHandle compares Handle with its definition.
func checkHandle(t *testing.T, s api.Session, p api.Packet, now int) (api.Session, []api.Packet, api.Errno) {
	t.Helper()
	want, wantPackets := api.Session{}, []api.Packet(nil)
	w, answers, wantCode := inflight.Handle(s.Out, p)
	if wantCode == api.OK {
		want = s
		want.Out = w
		want, wantPackets = pull(want, now)
		wantPackets = slices.Concat(answers, wantPackets)
	}
	got, packets, code := session.Handle(s, p, now)
	if code != wantCode || !alike(got, want) || !slices.EqualFunc(packets, wantPackets, packet.Same) {
		t.Fatalf("Handle of %+v by %+v = %+v, %+v, %d, want %+v, %+v, %d", p, s, got, packets, code, want, wantPackets, wantCode)
	}
	if code == api.OK {
		checkSession(t, "Handle", got, want)
	}
	return got, packets, code
}

// checkResume compares Resume with its definition.
func checkResume(t *testing.T, s api.Session, p api.Packet, conn, now int) (api.Session, []api.Packet) {
	t.Helper()
	want := s
	want.User, want.Expiry, want.Will = p.User, p.Expiry, p.Will
	want.Online, want.Conn, want.Until, want.Out.Limit = true, conn, 0, p.Window
	resent := inflight.Resend(s.Out)
	want, sent := sendAll(want, now)
	got, packets := session.Resume(s, p, conn, now)
	checkSession(t, "Resume", got, want)
	checkPackets(t, "Resume", packets, slices.Concat(resent, sent)...)
	return got, packets
}

// checkSuspend compares Suspend with its definition.
func checkSuspend(t *testing.T, s api.Session, now int) api.Session {
	t.Helper()
	want := offline(s, now+s.Expiry)
	if want.Until > api.MaxTick {
		want.Until = api.MaxTick
	}
	want.Queue = nil
	for _, m := range s.Queue {
		if m.Level == 0 {
			want = dropped(want, 1)
		} else {
			want.Queue = append(want.Queue, m)
		}
	}
	got := session.Suspend(s, now)
	checkSession(t, "Suspend", got, want)
	return got
}

// checkExpired compares Expired with its definition.
func checkExpired(t *testing.T, s api.Session, now int) {
	t.Helper()
	if got, want := session.Expired(s, now), !s.Online && now >= s.Until; got != want {
		t.Errorf("Expired of a session (online: %v, until %d) at %d = %v", s.Online, s.Until, now, got)
	}
}

// P19.4 to P19.7, the examples 1 to 3
func TestExamplesOfSending(t *testing.T) {
	a, b, c, d := msg(1, 1, 0), msg(2, 1, 0), msg(3, 0, 0), msg(4, 2, 0)
	s := online(1, 5)
	for _, m := range []api.Message{a, b, c} {
		s, _ = checkOffer(t, s, m, 9, api.DropNewest)
	}
	s, packets := checkPull(t, s, 0)
	checkPackets(t, "Pull", packets, publish(1, a))
	if len(s.Queue) != 2 {
		t.Fatalf("after Pull there wait %v", s.Queue)
	}
	s, packets, _ = checkHandle(t, s, ack(api.Puback, 1), 0)
	checkPackets(t, "Handle", packets, publish(2, b), publish(0, c))

	s = checkSuspend(t, s, 10)
	if s.Until != 15 || session.Expired(s, 14) || !session.Expired(s, 15) {
		t.Errorf("suspended until %d, expired at 14: %v, at 15: %v", s.Until, session.Expired(s, 14), session.Expired(s, 15))
	}
	for _, m := range []api.Message{c, d, a} {
		s, _ = checkOffer(t, s, m, 9, api.DropNewest)
	}
	if !alike(s.Queue, []api.Message{d, a}) || s.Dropped != 1 {
		t.Errorf("offline there wait %v, and %d are dropped", s.Queue, s.Dropped)
	}
	_, packets = checkResume(t, s, connect(1, 5), 8, 12)
	checkPackets(t, "Resume", packets, again(publish(2, b)))
	_, packets = checkResume(t, s, connect(2, 5), 8, 12)
	checkPackets(t, "Resume with the window 2", packets, again(publish(2, b)), publish(3, d))
	_, packets = checkResume(t, s, connect(9, 5), 8, 12)
	checkPackets(t, "Resume with the window 9", packets, again(publish(2, b)), publish(3, d), publish(4, a))
}

// P19.3 and P19.4, the examples 4 and 5
func TestOtherExamples(t *testing.T) {
	s := with(online(1, 5), msg(1, 1, 0), msg(2, 1, 0))
	for _, on := range []bool{true, false} {
		if !on {
			s = offline(s, 9)
		}
		got, evicted := checkOffer(t, s, msg(3, 1, 0), 2, api.Evict)
		if evicted != on || got.Dropped != 1 || !alike(got.Queue, s.Queue) {
			t.Errorf("a third message (online: %v): %+v, evicted: %v", on, got, evicted)
		}
	}
	for _, x := range []struct {
		sub  api.Sub
		code api.Errno
	}{
		{api.Sub{Filter: "a/#/b"}, api.ErrFilter}, {api.Sub{Filter: "$share/g/a", Level: 3, NoLocal: true}, api.ErrLevel}, {api.Sub{Filter: "$share/g/a", Level: 1, NoLocal: true}, api.ErrField},
	} {
		if got, was, code := session.Subscribe(s, x.sub); code != x.code || was || !alike(got, api.Session{}) {
			t.Errorf("Subscribe of %+v = %+v, %v, %d, want %d", x.sub, got, was, code, x.code)
		}
	}
	if got, code := session.Unsubscribe(s, "a"); code != api.ErrNotFound || !alike(got, api.Session{}) {
		t.Errorf("Unsubscribe = %+v, %d", got, code)
	}
}

// P19.1
func TestNew(t *testing.T) {
	for _, conn := range []int{math.MinInt, -1, 0, 1, 7, api.MaxNumber + 1, math.MaxInt} {
		for window := 1; window <= api.MaxWindow; window++ {
			for _, p := range []api.Packet{connect(window, 0), connect(window, 5), connect(window, api.MaxTick), fullConnect()} {
				p.Window = window
				if code := packet.Check(p); code != api.OK {
					t.Fatalf("%+v is not valid: %d", p, code)
				}
				want := api.Session{Client: p.Client, User: p.User, Online: true, Conn: conn, Expiry: p.Expiry, Out: api.Window{Limit: window}, Will: p.Will}
				checkSession(t, "New", session.New(p, conn), want)
			}
		}
	}
}

// subs returns n subscriptions in ascending order.
func subs(n int) []api.Sub {
	var l []api.Sub
	for i := range n {
		l = append(l, api.Sub{Filter: fmt.Sprintf("f/%03d", i), Level: i % 3, NoLocal: i%2 == 0})
	}
	return l
}

// messages returns n messages of all levels.
func messages(n int) []api.Message {
	var l []api.Message
	for i := range n {
		l = append(l, msg(i, i%3, 0))
	}
	return l
}

// change is a change of a valid session, and what Check returns after it.
type change struct {
	code api.Errno
	make func(s *api.Session)
}

// defects are changes that make a session invalid, in the order of Check's errors, each with fields of its own apart from those that other ones restrict further.
func defects() []change {
	return []change{
		{api.ErrName, func(s *api.Session) { s.Client = "C" }},
		{api.ErrName, func(s *api.Session) { s.User = "9" }},
		{api.ErrState, func(s *api.Session) { s.Until = 1 }},
		{api.ErrRange, func(s *api.Session) { s.Expiry = -1 }},
		{api.ErrRange, func(s *api.Session) { s.Dropped = api.MaxNumber + 1 }},
		{api.ErrTooLong, func(s *api.Session) { s.Subs = append(s.Subs, subs(api.MaxList)...) }},
		{api.ErrFilter, func(s *api.Session) { s.Subs[0].Filter = "$share/g/" }},
		{api.ErrLevel, func(s *api.Session) { s.Subs[0].Level = 3 }},
		{api.ErrField, func(s *api.Session) { s.Subs[0].NoLocal = true }},
		{api.ErrOrder, func(s *api.Session) { s.Subs[1].Filter = "$s" }},
		{api.ErrLevel, func(s *api.Session) { s.Subs[2].Level = -1 }},
		{api.ErrTooLong, func(s *api.Session) { s.Queue = append(s.Queue, messages(api.MaxQueue)...) }},
		{api.ErrTopic, func(s *api.Session) { s.Queue[1].Topic = "#" }},
		{api.ErrRange, func(s *api.Session) { s.Queue[1].Seq = -1 }},
		{api.ErrName, func(s *api.Session) { s.Queue[2].From = "-" }},
		{api.ErrRange, func(s *api.Session) { s.Out.Limit = api.MaxWindow + 1 }},
		{api.ErrState, func(s *api.Session) { s.Out.Items[1].State = api.FlightReleased }},
		{api.ErrIdent, func(s *api.Session) { s.In.IDs[1] = 4 }},
		{api.ErrRange, func(s *api.Session) { s.Will.Delay = -1 }},
		{api.ErrLevel, func(s *api.Session) { s.Will.Message.Level = 3 }},
	}
}

// P19.2: each error, and of two of them the first one
func TestCheckOrder(t *testing.T) {
	l := defects()
	for i, first := range l {
		s := rich(t)
		first.make(&s)
		if code := session.Check(s); code != first.code {
			t.Errorf("defect %d: Check = %d, want %d", i, code, first.code)
		}
		for j, second := range l[i+1:] {
			s := rich(t)
			first.make(&s)
			second.make(&s)
			if code := session.Check(s); code != first.code {
				t.Errorf("defects %d and %d: Check = %d, want %d", i, i+1+j, code, first.code)
			}
		}
	}
}

// P19.2: the bounds of the plain fields
func TestCheckFields(t *testing.T) {
	long := strings.Repeat("x", api.MaxName)
	for i, x := range []change{
		{api.OK, func(s *api.Session) { s.Client = long }}, {api.ErrName, func(s *api.Session) { s.Client = long + "x" }}, {api.ErrName, func(s *api.Session) { s.Client = "" }},
		{api.OK, func(s *api.Session) { s.User = "" }}, {api.OK, func(s *api.Session) { s.User = long }}, {api.ErrName, func(s *api.Session) { s.User = long + "x" }}, {api.ErrName, func(s *api.Session) { s.User = "*" }},
		{api.OK, func(s *api.Session) { s.Conn = 0 }}, {api.OK, func(s *api.Session) { s.Conn = math.MinInt }}, {api.OK, func(s *api.Session) { s.Conn = math.MaxInt }},
		{api.ErrState, func(s *api.Session) { s.Until = -1 }}, {api.ErrState, func(s *api.Session) { s.Online = false }}, {api.ErrState, func(s *api.Session) { s.Online, s.Conn = false, -1 }},
		{api.OK, func(s *api.Session) { *s = offline(*s, 0) }}, {api.OK, func(s *api.Session) { *s = offline(*s, api.MaxTick) }}, {api.ErrRange, func(s *api.Session) { *s = offline(*s, -1) }}, {api.ErrRange, func(s *api.Session) { *s = offline(*s, api.MaxTick+1) }},
		{api.OK, func(s *api.Session) { s.Expiry = 0 }}, {api.OK, func(s *api.Session) { s.Expiry = api.MaxTick }}, {api.ErrRange, func(s *api.Session) { s.Expiry = api.MaxTick + 1 }}, {api.ErrRange, func(s *api.Session) { s.Expiry = math.MinInt }},
		{api.OK, func(s *api.Session) { s.Dropped = 0 }}, {api.OK, func(s *api.Session) { s.Dropped = api.MaxNumber }}, {api.ErrRange, func(s *api.Session) { s.Dropped = -1 }}, {api.ErrRange, func(s *api.Session) { s.Dropped = math.MaxInt }},
	} {
		s := rich(t)
		x.make(&s)
		if code := session.Check(s); code != x.code {
			t.Errorf("change %d: Check of %+v = %d, want %d", i, s, code, x.code)
		}
	}
	if code := session.Check(api.Session{}); code != api.ErrName {
		t.Errorf("Check of the zero session = %d", code)
	}
	if code := session.Check(api.Session{Client: "c"}); code != api.OK {
		t.Errorf("Check of a session with a client only = %d", code)
	}
}

// P19.2: the bounds of the lists
func TestCheckLists(t *testing.T) {
	for i, x := range []change{
		{api.OK, func(s *api.Session) { s.Subs = nil }}, {api.OK, func(s *api.Session) { s.Subs = subs(api.MaxList) }}, {api.ErrTooLong, func(s *api.Session) { s.Subs = subs(api.MaxList + 1) }}, {api.ErrTooLong, func(s *api.Session) { s.Subs = make([]api.Sub, api.MaxList+1) }},
		{api.ErrOrder, func(s *api.Session) { s.Subs = []api.Sub{{Filter: "a"}, {Filter: "a", Level: 1}} }}, {api.ErrOrder, func(s *api.Session) { s.Subs = []api.Sub{{Filter: "a/b"}, {Filter: "a"}} }}, {api.OK, func(s *api.Session) { s.Subs = []api.Sub{{Filter: "a"}, {Filter: "a/b"}} }},
		{api.OK, func(s *api.Session) {
			s.Subs = []api.Sub{{Filter: "#"}, {Filter: "$share"}, {Filter: "$share/g/#"}, {Filter: "+"}, {Filter: "a"}}
		}},
		{api.ErrLevel, func(s *api.Session) { s.Subs = []api.Sub{{Filter: "b"}, {Filter: "a", Level: 3}, {Filter: ""}} }}, {api.ErrOrder, func(s *api.Session) { s.Subs = []api.Sub{{Filter: "b"}, {Filter: "a"}, {Filter: ""}} }},
		{api.OK, func(s *api.Session) { s.Queue = nil }}, {api.OK, func(s *api.Session) { s.Queue = messages(api.MaxQueue) }}, {api.ErrTooLong, func(s *api.Session) { s.Queue = messages(api.MaxQueue + 1) }}, {api.ErrTooLong, func(s *api.Session) { s.Queue = make([]api.Message, api.MaxQueue+1) }},
		{api.ErrTopic, func(s *api.Session) { s.Queue[4].Topic = "" }}, {api.ErrProps, func(s *api.Session) { s.Queue[0].Props = []api.Prop{{Key: "b"}, {Key: "a"}} }},
		{api.OK, func(s *api.Session) { s.Out = api.Window{} }}, {api.ErrIdent, func(s *api.Session) { s.Out.Pool.Used = []int{1, 2} }}, {api.ErrRange, func(s *api.Session) { s.Out.Pool.Last = -1 }}, {api.ErrLevel, func(s *api.Session) { s.Out.Items[2].Message.Level = 0 }},
		{api.OK, func(s *api.Session) { s.In = api.Inbox{} }}, {api.ErrTooLong, func(s *api.Session) { s.In.IDs = make([]int, api.MaxWindow+1) }}, {api.ErrIdent, func(s *api.Session) { s.In.IDs = []int{0} }},
		{api.OK, func(s *api.Session) { s.Will = api.Will{} }}, {api.ErrField, func(s *api.Session) { s.Will.Set = false }}, {api.ErrTopic, func(s *api.Session) { s.Will.Message = api.Message{} }},
	} {
		s := rich(t)
		x.make(&s)
		if code := session.Check(s); code != x.code {
			t.Errorf("change %d: Check of %+v = %d, want %d", i, s, code, x.code)
		}
	}
}

// P19.2: the errors of Out, In and Will are those of the layers' own functions.
func TestCheckParts(t *testing.T) {
	for _, w := range []api.Window{{}, {Limit: -1}, {Limit: 32}, {Limit: 33}, {Pool: api.Pool{Used: []int{0}}}, {Pool: api.Pool{Used: []int{1}}}, {Items: make([]api.Flight, 33)}, {Pool: api.Pool{Last: 1 << 16}}, flying(t, 0, full(1, 1), full(-2, 2))} {
		s := api.Session{Client: "c", Out: w}
		if code := session.Check(s); code != inflight.Check(w) {
			t.Errorf("Check with the window %+v = %d", w, code)
		}
	}
	for _, in := range []api.Inbox{{}, {IDs: []int{1, 65535}}, {IDs: []int{65536}}, {IDs: []int{2, 1}}, {IDs: make([]int, 33)}} {
		s := api.Session{Client: "c", In: in}
		if code := session.Check(s); code != inbound.Check(in) {
			t.Errorf("Check with the inbox %+v = %d", in, code)
		}
	}
	for _, w := range []api.Will{{}, {Delay: 1}, {Set: true}, {Set: true, Delay: -1}, {Set: true, Message: full(1, 2)}, {Message: full(1, 2)}} {
		s := api.Session{Client: "c", Will: w}
		if code := session.Check(s); code != will.Check(w) {
			t.Errorf("Check with the will %+v = %d", w, code)
		}
	}
}

// plainFilters, sharedFilters and noFilters are strings that are filters of subscriptions of two kinds, and others.
func plainFilters() []string {
	return []string{"a", "#", "+", "/", "a/+/#", "$sys/#", "$share", "$shared/g/a", "share/g/a", "$Share/g/a", "a/$share/g", strings.Repeat("x", api.MaxTopic), "a/b/c/d/e/f/g/h", "\xff"}
}

func sharedFilters() []string {
	return []string{"$share/g/a", "$share/g/#", "$share/g/+/#", "$share/g//", "$share/g/$share", "$share/g/$sys/a", "$share/" + strings.Repeat("x", api.MaxName) + "/" + strings.Repeat("y", api.MaxTopic), "$share/g/a/b/c/d/e/f/g/h"}
}

func noFilters() []string {
	return []string{"", "a+", "a/#/b", "#/", "\x00", strings.Repeat("x", api.MaxTopic+1), "a/b/c/d/e/f/g/h/i", "$share/", "$share/g", "$share/g/", "$share//a", "$share/G/a", "$share/+/a", "$share/g/a+", "$share/g/#/a", "$share/g/$share/h/a", "$share/g/" + strings.Repeat("x", api.MaxTopic+1), "$share/g/a/b/c/d/e/f/g/h/i", "$share/#"}
}

// wantSub is the error of a subscription to a filter that is one, and one of the shared ones, or not.
func wantSub(filter, shared bool, sub api.Sub) api.Errno {
	switch {
	case !filter:
		return api.ErrFilter
	case sub.Level != 0 && sub.Level != 1 && sub.Level != 2:
		return api.ErrLevel
	case sub.NoLocal && shared:
		return api.ErrField
	}
	return api.OK
}

// P19.2 and P19.3: each kind of filters, with all levels and both values of NoLocal; in Check, and in sessions that have room or not, and the filter or not
func TestSubscribeErrors(t *testing.T) {
	for i, filters := range [][]string{plainFilters(), sharedFilters(), noFilters()} {
		for _, filter := range filters {
			for _, level := range []int{math.MinInt, -1, 0, 1, 2, 3, math.MaxInt} {
				for _, noLocal := range []bool{false, true} {
					sub := api.Sub{Filter: filter, Level: level, NoLocal: noLocal}
					code := wantSub(i < 2, i == 1, sub)
					checkSubscribe(t, rich(t), sub, code)
					s := rich(t)
					s.Subs = []api.Sub{sub}
					if got := session.Check(s); got != code {
						t.Errorf("Check with %+v = %d, want %d", sub, got, code)
					}
					s.Subs = subs(api.MaxList)
					if code == api.OK {
						code = api.ErrFull
					}
					checkSubscribe(t, s, sub, code)
					if i < 2 {
						checkSubscribe(t, holding(t, filter), sub, wantSub(true, i == 1, sub))
					}
				}
			}
		}
	}
}

// holding returns a session with MaxList subscriptions, one of them to filter.
func holding(t *testing.T, filter string) api.Session {
	t.Helper()
	s := rich(t)
	s.Subs = append(subs(api.MaxList-1), api.Sub{Filter: filter})
	slices.SortFunc(s.Subs, func(a, b api.Sub) int { return strings.Compare(a.Filter, b.Filter) })
	if code := session.Check(s); code != api.OK {
		t.Fatalf("the session with %q is not valid: %d", filter, code)
	}
	return s
}

// table has subscriptions by their filters.
func table(s api.Session) map[string]api.Sub {
	m := map[string]api.Sub{}
	for _, sub := range s.Subs {
		m[sub.Filter] = sub
	}
	return m
}

// from returns s with the subscriptions of a table.
func from(s api.Session, m map[string]api.Sub) api.Session {
	s.Subs = nil
	for _, sub := range m {
		s.Subs = append(s.Subs, sub)
	}
	slices.SortFunc(s.Subs, func(a, b api.Sub) int { return strings.Compare(a.Filter, b.Filter) })
	return s
}

// checkSubscribe compares Subscribe with its definition.
func checkSubscribe(t *testing.T, s api.Session, sub api.Sub, code api.Errno) api.Session {
	t.Helper()
	m := table(s)
	_, was := m[sub.Filter]
	m[sub.Filter] = sub
	got, replaced, gotCode := session.Subscribe(s, sub)
	if gotCode != code {
		t.Fatalf("Subscribe of %+v to %+v = %d, want %d", sub, s.Subs, gotCode, code)
	}
	if code != api.OK {
		if !alike(got, api.Session{}) || replaced {
			t.Fatalf("Subscribe of %+v with the error %d = %+v, %v", sub, code, got, replaced)
		}
		return s
	}
	checkSession(t, "Subscribe", got, from(s, m))
	if replaced != was {
		t.Fatalf("Subscribe of %+v to %+v replaces: %v", sub, s.Subs, replaced)
	}
	return got
}

// checkUnsubscribe compares Unsubscribe with its definition.
func checkUnsubscribe(t *testing.T, s api.Session, filter string) api.Session {
	t.Helper()
	m := table(s)
	_, was := m[filter]
	delete(m, filter)
	got, code := session.Unsubscribe(s, filter)
	if !was {
		if code != api.ErrNotFound || !alike(got, api.Session{}) {
			t.Fatalf("Unsubscribe of %q from %+v = %+v, %d", filter, s.Subs, got, code)
		}
		return s
	}
	checkSession(t, "Unsubscribe", got, from(s, m))
	if code != api.OK {
		t.Fatalf("Unsubscribe of %q from %+v = %d", filter, s.Subs, code)
	}
	return got
}

// P19.3: the places of subscriptions in ascending order of bytes, the first and the last one among them
func TestSubscribePlaces(t *testing.T) {
	all := append(plainFilters(), sharedFilters()...)
	for i := range all {
		s := rich(t)
		s.Subs = nil
		for j := range all {
			filter := all[(i+j*5)%len(all)]
			s = checkSubscribe(t, s, api.Sub{Filter: filter, Level: j % 3}, api.OK)
			s = checkSubscribe(t, s, api.Sub{Filter: filter, Level: (j + 1) % 3}, api.OK)
			checkUnsubscribe(t, s, all[(i+j)%len(all)])
			checkUnsubscribe(t, s, "x"+filter)
		}
		for j := range all {
			s = checkUnsubscribe(t, s, all[(i+j*7)%len(all)])
		}
		if len(s.Subs) > 0 {
			t.Fatalf("subscriptions remain: %+v", s.Subs)
		}
	}
	for _, filter := range noFilters() {
		checkUnsubscribe(t, rich(t), filter)
		checkUnsubscribe(t, online(1, 0), filter)
	}
}

// P19.3: as many subscriptions as there may be, and one more
func TestSubscribeFull(t *testing.T) {
	s := offline(online(1, 0), 0)
	for _, sub := range subs(api.MaxList) {
		s = checkSubscribe(t, s, sub, api.OK)
	}
	for _, filter := range []string{"a", "f/005x", "z", "$share/g/a"} {
		checkSubscribe(t, s, api.Sub{Filter: filter}, api.ErrFull)
	}
	for _, sub := range subs(api.MaxList) {
		checkSubscribe(t, s, api.Sub{Filter: sub.Filter, Level: 2}, api.OK)
		checkSubscribe(t, checkUnsubscribe(t, s, sub.Filter), api.Sub{Filter: "z"}, api.OK)
	}
}

// P19.4: every level, queues below, at and above each maximum, and every policy, online and offline
func TestOffer(t *testing.T) {
	for _, on := range []bool{true, false} {
		for n := range 4 {
			for _, limit := range []int{math.MinInt, -1, 0, 1, 2, 3, 4, api.MaxQueue, math.MaxInt} {
				for _, policy := range []int{-1, 0, api.DropOldest, api.DropNewest, api.Evict, 4} {
					for level := range 3 {
						s := rich(t)
						s.Queue = s.Queue[:n]
						if !on {
							s = offline(s, 30)
						}
						got, evicted := checkOffer(t, s, full(50, level), limit, policy)
						lost := !on && level == 0 || n >= limit
						if got.Dropped-s.Dropped != map[bool]int{false: 0, true: 1}[lost] || evicted != (on && n >= limit && policy == api.Evict) {
							t.Fatalf("Offer of level %d to %d messages with max %d and policy %d (online: %v): %d dropped, evicted: %v", level, n, limit, policy, on, got.Dropped, evicted)
						}
					}
				}
			}
		}
	}
}

// P19.4: at most MaxQueue messages wait, whatever the maximum is.
func TestOfferFull(t *testing.T) {
	for _, limit := range []int{api.MaxQueue - 1, api.MaxQueue, api.MaxQueue + 1, math.MaxInt} {
		for _, policy := range []int{api.DropOldest, api.DropNewest, api.Evict} {
			s := with(online(1, 0), messages(api.MaxQueue-1)...)
			for i := range 3 {
				got, evicted := checkOffer(t, s, msg(900+i, i, 0), limit, policy)
				most := min(limit, api.MaxQueue)
				if len(got.Queue) != most || evicted != (policy == api.Evict && len(s.Queue) == most) {
					t.Fatalf("max %d, policy %d: %d messages wait after %d, evicted: %v", limit, policy, len(got.Queue), len(s.Queue), evicted)
				}
				s = got
			}
		}
	}
}

// P19.4: Offer is of the levels of messages, not of instants: one that expires waits.
func TestOfferExpiring(t *testing.T) {
	s := online(1, 0)
	s, _ = checkOffer(t, s, msg(1, 1, 1), 5, api.DropOldest)
	s, _ = checkOffer(t, s, msg(2, 0, 1), 5, api.DropOldest)
	if len(s.Queue) != 2 || s.Dropped != 0 {
		t.Errorf("there wait %v, and %d are dropped", s.Queue, s.Dropped)
	}
}

// Dropped is at most MaxNumber: more messages are not counted.
func TestDroppedMost(t *testing.T) {
	for _, before := range []int{api.MaxNumber - 3, api.MaxNumber - 2, api.MaxNumber - 1, api.MaxNumber} {
		s := with(online(1, 0), msg(1, 0, 5), msg(2, 0, 5), msg(3, 1, 5), msg(4, 0, 0))
		s.Dropped = before
		want := min(before+3, api.MaxNumber)
		pulled, _ := checkPull(t, s, 5)
		handled, _, _ := checkHandle(t, s, ack(api.Puback, 1), 5)
		resumed, _ := checkResume(t, s, connect(1, 0), 1, 5)
		suspended := checkSuspend(t, s, 5)
		offered, _ := checkOffer(t, offline(s, 9), msg(5, 0, 0), 9, api.DropOldest)
		pushed, _ := checkOffer(t, s, msg(5, 1, 0), 4, api.DropOldest)
		if pulled.Dropped != want || handled.Dropped != want || resumed.Dropped != want || suspended.Dropped != want {
			t.Errorf("after %d: %d, %d, %d, %d, want %d", before, pulled.Dropped, handled.Dropped, resumed.Dropped, suspended.Dropped, want)
		}
		if one := min(before+1, api.MaxNumber); offered.Dropped != one || pushed.Dropped != one {
			t.Errorf("after %d: %d, %d, want %d", before, offered.Dropped, pushed.Dropped, one)
		}
	}
}

// queues calls f for all queues of up to n messages of all levels, some of which are expired at the instant 5.
func queues(n int, f func(q []api.Message)) {
	kinds := []api.Message{msg(0, 0, 0), msg(0, 1, 6), msg(0, 2, 0), msg(0, 0, 5), msg(0, 1, 4)}
	var more func(q []api.Message)
	more = func(q []api.Message) {
		f(q)
		if len(q) == n {
			return
		}
		for _, m := range kinds {
			m.Seq = len(q) + 1
			more(append(slices.Clone(q), m))
		}
	}
	more(nil)
}

// P19.5: all short queues, with windows of every room, online and offline
func TestPull(t *testing.T) {
	for limit := range 4 {
		for flights := range 3 {
			out := flying(t, limit, []api.Message{full(-20, 2), full(21, 1)}[:flights]...)
			queues(4, func(q []api.Message) {
				s := with(online(1, 9), q...)
				s.Out = out
				checkPull(t, s, 5)
				got, packets := checkPull(t, offline(s, 7), 5)
				checkSession(t, "Pull offline", got, offline(s, 7))
				checkPackets(t, "Pull offline", packets)
			})
		}
	}
}

// P19.5: what Pull sends and where it stops
func TestPullStops(t *testing.T) {
	for _, x := range []struct {
		q       []api.Message
		limit   int
		sent    []int // numbers of messages
		left    int
		dropped int
	}{
		{nil, 1, nil, 0, 0},
		{[]api.Message{msg(1, 0, 0), msg(2, 1, 0), msg(3, 0, 0)}, 0, []int{1}, 2, 0},
		{[]api.Message{msg(1, 1, 0), msg(2, 0, 0), msg(3, 2, 0), msg(4, 0, 0)}, 1, []int{1, 2}, 2, 0},
		{[]api.Message{msg(1, 1, 5), msg(2, 0, 5), msg(3, 2, 5), msg(4, 2, 6), msg(5, 0, 5)}, 0, nil, 2, 3},
		{[]api.Message{msg(1, 2, 0), msg(2, 1, 5), msg(3, 0, 0), msg(4, 1, 5), msg(5, 1, 0), msg(6, 1, 5)}, 1, []int{1, 3}, 2, 2},
		{[]api.Message{msg(1, 1, 5), msg(2, 1, 1)}, 1, nil, 0, 2},
		{[]api.Message{msg(1, 2, 0), msg(2, 1, 0), msg(3, 2, 0)}, 2, []int{1, 2}, 1, 0},
	} {
		s := with(online(1, 0), x.q...)
		s.Out.Limit = x.limit
		got, packets := checkPull(t, s, 5)
		var sent []int
		for _, p := range packets {
			sent = append(sent, p.Message.Seq)
		}
		if !slices.Equal(sent, x.sent) || len(got.Queue) != x.left || got.Dropped != x.dropped {
			t.Errorf("Pull of %v sends %v, leaves %v, drops %d", x.q, sent, got.Queue, got.Dropped)
		}
	}
}

// P19.5: the edges of instants
func TestPullInstants(t *testing.T) {
	for _, x := range []struct {
		expires, now int
		expired      bool
	}{
		{0, 0, false}, {0, api.MaxTick, false}, {1, 0, false}, {1, 1, true}, {5, 4, false}, {5, 5, true}, {5, 6, true}, {api.MaxTick, api.MaxTick - 1, false}, {api.MaxTick, api.MaxTick, true},
	} {
		for level := range 3 {
			got, packets := checkPull(t, with(online(1, 0), msg(1, level, x.expires)), x.now)
			if (len(packets) == 0) != x.expired || (got.Dropped == 1) != x.expired || len(got.Queue) > 0 {
				t.Errorf("a message that expires at %d is at %d: %+v, %+v", x.expires, x.now, packets, got)
			}
		}
	}
}

// P19.5: a full queue into a full window; identifiers go on behind the last one.
func TestPullFull(t *testing.T) {
	s := with(online(api.MaxWindow, 0), messages(api.MaxQueue)...)
	s.Out.Pool.Last = api.MaxIdent - 3
	got, packets := checkPull(t, s, 0)
	if len(got.Out.Items) != api.MaxWindow || got.Out.Items[3].ID != 1 || len(packets)+len(got.Queue) != api.MaxQueue || got.Queue[0].Level == 0 {
		t.Errorf("%d are in flight, %d were sent, %d wait", len(got.Out.Items), len(packets), len(got.Queue))
	}
	got, packets = checkPull(t, got, 0)
	if len(packets) > 0 {
		t.Errorf("Pull again sends %+v", packets)
	}
}

// P19.6: acknowledgements of every kind for every item and for none, with a queue, online and offline
func TestHandle(t *testing.T) {
	states := []api.Window{flying(t, 3, full(-20, 2), full(21, 1), full(22, 2)), flying(t, 1, full(21, 1), full(-22, 2)), flying(t, 0), flying(t, 5, full(21, 2), full(22, 1))}
	for _, out := range states {
		for kind := 0; kind <= api.Disconnect+1; kind++ {
			for _, id := range []int{-1, 0, 1, 2, 3, 4, api.MaxIdent, api.MaxIdent + 1} {
				queues(2, func(q []api.Message) {
					s := with(online(1, 9), q...)
					s.Out = out
					for _, p := range []api.Packet{ack(kind, id), {Kind: kind, ID: id, Dup: true, Client: "X", Code: -9, Message: full(1, 9)}} {
						checkHandle(t, s, p, 5)
						checkHandle(t, offline(s, 30), p, 5)
					}
				})
			}
		}
	}
}

// P19.6: the packets of the window come before those of the queue; with an error nothing is returned.
func TestHandleOrder(t *testing.T) {
	s := with(online(1, 9), msg(2, 0, 0), msg(3, 1, 0), msg(4, 0, 0))
	s.Out = flying(t, 1, msg(1, 2, 0))
	s, packets, _ := checkHandle(t, s, ack(api.Pubrec, 1), 5)
	checkPackets(t, "Pubrec", packets, ack(api.Pubrel, 1), publish(0, msg(2, 0, 0)))
	if _, _, code := checkHandle(t, s, ack(api.Puback, 1), 5); code != api.ErrProtocol {
		t.Errorf("Puback of level 2 = %d", code)
	}
	if _, _, code := checkHandle(t, s, ack(api.Pubrel, 1), 5); code != api.ErrKind {
		t.Errorf("Pubrel = %d", code)
	}
	s, packets, _ = checkHandle(t, s, ack(api.Pubcomp, 1), 5)
	checkPackets(t, "Pubcomp", packets, publish(2, msg(3, 1, 0)), publish(0, msg(4, 0, 0)))
	s, packets, _ = checkHandle(t, s, ack(api.Pubrec, 77), 5)
	checkPackets(t, "Pubrec of none", packets, ack(api.Pubrel, 77))
	_, packets, _ = checkHandle(t, s, ack(api.Puback, 77), 5)
	checkPackets(t, "Puback of none", packets)
}

// P19.6: while the session is offline, acknowledgements count, and nothing is sent beyond the window's own packet.
func TestHandleOffline(t *testing.T) {
	s := offline(with(online(1, 9), msg(2, 1, 0), msg(3, 0, 0)), 30)
	s.Out = flying(t, 2, msg(1, 2, 0))
	got, packets, _ := checkHandle(t, s, ack(api.Pubrec, 1), 5)
	checkPackets(t, "Pubrec", packets, ack(api.Pubrel, 1))
	if got.Out.Items[0].State != api.FlightReleased || len(got.Queue) != 2 {
		t.Errorf("after Pubrec: %+v", got)
	}
}

// P19.7: Resume with every window, also a smaller one than there are messages in flight, from online and offline sessions
func TestResume(t *testing.T) {
	outs := []api.Window{{Limit: 3}, flying(t, 3, full(-20, 2), full(21, 1), full(22, 2)), flying(t, 0, full(20, 1))}
	for _, out := range outs {
		queues(3, func(q []api.Message) {
			s := with(online(1, 9), q...)
			s.Out = out
			for window := 1; window <= 5; window++ {
				p := fullConnect()
				p.Window = window
				checkResume(t, s, p, 8, 5)
				checkResume(t, offline(s, 30), p, 8, 5)
			}
		})
	}
	for _, conn := range []int{math.MinInt, -1, 0, math.MaxInt} {
		checkResume(t, offline(rich(t), 30), fullConnect(), conn, api.MaxTick)
		checkResume(t, rich(t), connect(api.MaxWindow, api.MaxTick), conn, 0)
	}
}

// P19.7: of the packet only User, Expiry, Will and Window count; the client, the subscriptions and the inbox stay.
func TestResumeFields(t *testing.T) {
	s := offline(rich(t), 30)
	got, _ := checkResume(t, s, connect(1, 0), 6, 70000)
	want := api.Session{Client: "c", Online: true, Conn: 6, Dropped: 8, Subs: s.Subs, Out: s.Out, In: s.In}
	want.Out.Limit = 1
	checkSession(t, "Resume", got, want)
	got, _ = checkResume(t, s, fullConnect(), 6, 70000)
	want.User, want.Expiry, want.Will, want.Out.Limit = "u-2", 7, fullConnect().Will, 9
	checkSession(t, "Resume with all fields", got, want)
}

// P19.7: what is sent again comes first, Pubrel for what was released, then what waits.
func TestResumeOrder(t *testing.T) {
	s := offline(with(online(1, 9), msg(4, 0, 0), msg(5, 1, 5), msg(6, 2, 0), msg(7, 1, 0)), 30)
	s.Out = flying(t, 1, msg(-1, 2, 0), msg(2, 1, 1), msg(3, 2, 0))
	_, packets := checkResume(t, s, connect(4, 0), 8, 5)
	checkPackets(t, "Resume", packets, ack(api.Pubrel, 1), again(publish(2, msg(2, 1, 1))), again(publish(3, msg(3, 2, 0))), publish(0, msg(4, 0, 0)), publish(4, msg(6, 2, 0)))
	_, packets = checkResume(t, s, connect(2, 0), 8, 5)
	checkPackets(t, "Resume with a smaller window", packets, ack(api.Pubrel, 1), again(publish(2, msg(2, 1, 1))), again(publish(3, msg(3, 2, 0))), publish(0, msg(4, 0, 0)))
}

// P19.7: the instants of Suspend, and the messages of level 0, online and offline
func TestSuspend(t *testing.T) {
	for _, x := range []struct{ now, expiry, until int }{
		{0, 0, 0}, {10, 5, 15}, {0, 5, 5}, {5, 0, 5}, {0, api.MaxTick, api.MaxTick}, {1, api.MaxTick, api.MaxTick}, {api.MaxTick, 0, api.MaxTick}, {api.MaxTick, api.MaxTick, api.MaxTick}, {api.MaxTick - 1, 1, api.MaxTick}, {api.MaxTick - 2, 1, api.MaxTick - 1}, {api.MaxTick, 1, api.MaxTick},
	} {
		s := rich(t)
		s.Expiry = x.expiry
		for _, s := range []api.Session{s, offline(s, 3)} {
			got := checkSuspend(t, s, x.now)
			if got.Until != x.until || got.Dropped != s.Dropped+2 || len(got.Queue) != 3 {
				t.Errorf("Suspend at %d with the expiry %d: %+v", x.now, x.expiry, got)
			}
			checkSuspend(t, got, x.now)
		}
	}
	queues(5, func(q []api.Message) { checkSuspend(t, with(online(1, 9), q...), 5) })
}

// P19.7
func TestExpired(t *testing.T) {
	for _, until := range []int{0, 1, 15, api.MaxTick} {
		for _, now := range []int{0, 1, 2, 14, 15, 16, api.MaxTick - 1, api.MaxTick} {
			checkExpired(t, offline(rich(t), until), now)
			checkExpired(t, rich(t), now)
		}
	}
	for _, x := range []struct {
		until, now int
		want       bool
	}{{15, 14, false}, {15, 15, true}, {0, 0, true}, {api.MaxTick, api.MaxTick, true}, {api.MaxTick, api.MaxTick - 1, false}} {
		if session.Expired(offline(rich(t), x.until), x.now) != x.want {
			t.Errorf("a session until %d is expired at %d: %v", x.until, x.now, !x.want)
		}
	}
	if s := online(1, 0); session.Expired(s, 0) || session.Expired(s, api.MaxTick) {
		t.Error("a session that is online is expired")
	}
}

// ledger counts what becomes of the messages that are offered to a session.
type ledger struct {
	t                        *testing.T
	offered, sent0, complete int
	last                     int // the number of the last message that was sent for the first time
	flights                  map[int]int
}

// note follows packets: messages are sent in the order of their numbers, and for the first time once.
func (l *ledger) note(packets []api.Packet) {
	l.t.Helper()
	for _, p := range packets {
		if p.Kind != api.Publish {
			continue
		}
		m := p.Message
		if p.Dup {
			if l.flights[p.ID] != m.Seq {
				l.t.Fatalf("the message %d is sent again with the identifier %d of %d", m.Seq, p.ID, l.flights[p.ID])
			}
			continue
		}
		if m.Seq <= l.last {
			l.t.Fatalf("the message %d is sent after %d", m.Seq, l.last)
		}
		l.last = m.Seq
		if m.Level == 0 {
			l.sent0++
		} else {
			l.flights[p.ID] = m.Seq
		}
	}
}

// check says whether each message is in one place.
func (l *ledger) check(s api.Session) {
	l.t.Helper()
	if code := session.Check(s); code != api.OK {
		l.t.Fatalf("Check of %+v = %d", s, code)
	}
	if l.offered != len(s.Queue)+len(s.Out.Items)+l.sent0+l.complete+s.Dropped {
		l.t.Fatalf("of %d messages %d wait, %d are in flight, %d were sent with level 0, %d are completed, %d dropped", l.offered, len(s.Queue), len(s.Out.Items), l.sent0, l.complete, s.Dropped)
	}
	var places []int
	for _, m := range append(slices.Clone(s.Queue), inflight.Messages(s.Out)...) {
		places = append(places, m.Seq)
	}
	slices.Sort(places)
	if len(slices.Compact(places)) != len(s.Queue)+len(s.Out.Items) {
		l.t.Fatalf("a message is in two places: %+v", s)
	}
}

// P19.8: calls in no particular order; each message is in one place, messages are sent in their order, and sessions are valid.
func TestCalls(t *testing.T) {
	r := rand.New(rand.NewSource(19))
	for range 150 {
		l := &ledger{t: t, flights: map[int]int{}}
		s := online(1+r.Intn(4), r.Intn(9))
		for now := 0; now < 150; now += r.Intn(2) {
			var packets []api.Packet
			switch r.Intn(10) {
			case 0:
				s = checkSuspend(t, s, now)
			case 1:
				s, packets = checkResume(t, s, connect(1+r.Intn(5), r.Intn(9)), r.Intn(9), now)
			case 2, 3:
				s, packets = checkPull(t, s, now)
			case 4, 5, 6:
				p := ack([]int{api.Puback, api.Pubrec, api.Pubcomp}[r.Intn(3)], l.last%7+r.Intn(9))
				if n := len(s.Out.Items); n > 0 && r.Intn(4) > 0 {
					p.ID = s.Out.Items[r.Intn(n)].ID
				}
				before := len(s.Out.Items)
				next, answers, code := checkHandle(t, s, p, now)
				if code == api.OK {
					if slices.ContainsFunc(s.Out.Items, func(f api.Flight) bool { return f.ID == p.ID }) && p.Kind != api.Pubrec {
						l.complete++
						before--
					}
					s, packets = next, answers
				}
				if code == api.OK && len(s.Out.Items) < before {
					t.Fatalf("%+v removes more than its message", p)
				}
			default:
				l.offered++
				expires := r.Intn(2) * (now + 1 + r.Intn(9))
				s, _ = checkOffer(t, s, msg(l.offered, r.Intn(3), expires), 1+r.Intn(9), 1+r.Intn(3))
			}
			l.note(packets)
			l.check(s)
			checkExpired(t, s, now)
		}
	}
}

// input has the arguments that functions of this layer have.
type input struct {
	s api.Session
	m api.Message
	p api.Packet
}

// inputs returns the arguments anew; one of them has a list of properties that all messages share.
func inputs(t *testing.T, shared bool) input {
	in := input{s: rich(t), m: full(50, 1), p: fullConnect()}
	if shared {
		props := full(7, 0).Props
		for i := range in.s.Queue {
			in.s.Queue[i].Props = props
		}
		for i := range in.s.Out.Items {
			in.s.Out.Items[i].Message.Props = props
		}
		in.s.Will.Message.Props, in.m.Props, in.p.Will.Message.Props = props, props, props
	}
	return in
}

// calls has a call of each function that returns a session, and of each way that it goes.
func calls() map[string]func(in input) (api.Session, []api.Packet) {
	alone := func(s api.Session) (api.Session, []api.Packet) { return s, nil }
	offer := func(s api.Session, m api.Message, limit, policy int) (api.Session, []api.Packet) {
		s, _ = session.Offer(s, m, limit, policy)
		return s, nil
	}
	subscribe := func(s api.Session, filter string) (api.Session, []api.Packet) {
		s, _, _ = session.Subscribe(s, api.Sub{Filter: filter})
		return s, nil
	}
	handle := func(s api.Session, kind, id int) (api.Session, []api.Packet) {
		s, packets, _ := session.Handle(s, ack(kind, id), 5)
		return s, packets
	}
	return map[string]func(in input) (api.Session, []api.Packet){
		"New":               func(in input) (api.Session, []api.Packet) { return alone(session.New(in.p, 4)) },
		"Subscribe":         func(in input) (api.Session, []api.Packet) { return subscribe(in.s, "aa") },
		"Subscribe again":   func(in input) (api.Session, []api.Packet) { return subscribe(in.s, "a/#") },
		"Subscribe last":    func(in input) (api.Session, []api.Packet) { return subscribe(in.s, "z") },
		"Unsubscribe":       func(in input) (api.Session, []api.Packet) { s, _ := session.Unsubscribe(in.s, "a/#"); return s, nil },
		"Offer":             func(in input) (api.Session, []api.Packet) { return offer(in.s, in.m, 9, api.DropOldest) },
		"Offer, oldest":     func(in input) (api.Session, []api.Packet) { return offer(in.s, in.m, 5, api.DropOldest) },
		"Offer, newest":     func(in input) (api.Session, []api.Packet) { return offer(in.s, in.m, 5, api.Evict) },
		"Offer offline":     func(in input) (api.Session, []api.Packet) { return offer(offline(in.s, 9), full(1, 0), 9, api.Evict) },
		"Pull":              func(in input) (api.Session, []api.Packet) { return session.Pull(in.s, 5) },
		"Pull, all expired": func(in input) (api.Session, []api.Packet) { return session.Pull(in.s, 70000) },
		"Pull offline":      func(in input) (api.Session, []api.Packet) { return session.Pull(offline(in.s, 9), 5) },
		"Puback":            func(in input) (api.Session, []api.Packet) { return handle(in.s, api.Puback, 2) },
		"Pubrec":            func(in input) (api.Session, []api.Packet) { return handle(in.s, api.Pubrec, 3) },
		"Pubcomp":           func(in input) (api.Session, []api.Packet) { return handle(offline(in.s, 9), api.Pubcomp, 1) },
		"Puback of none":    func(in input) (api.Session, []api.Packet) { return handle(offline(in.s, 9), api.Puback, 99) },
		"Resume":            func(in input) (api.Session, []api.Packet) { return session.Resume(in.s, in.p, 4, 5) },
		"Resume offline":    func(in input) (api.Session, []api.Packet) { return session.Resume(offline(in.s, 9), in.p, 4, 5) },
		"Suspend":           func(in input) (api.Session, []api.Packet) { return alone(session.Suspend(in.s, 5)) },
	}
}

// props returns the properties of all messages of a session and of packets, with what lies behind their ends.
func props(s api.Session, packets []api.Packet) [][]api.Prop {
	var l [][]api.Prop
	add := func(m api.Message) { l = append(l, m.Props[:cap(m.Props)]) }
	for _, m := range s.Queue[:cap(s.Queue)] {
		add(m)
	}
	for _, f := range s.Out.Items[:cap(s.Out.Items)] {
		add(f.Message)
	}
	add(s.Will.Message)
	for _, p := range packets[:cap(packets)] {
		add(p.Message)
		add(p.Will.Message)
	}
	return l
}

// spoil overwrites all memory of a session, including what lies behind the ends of slices.
func spoil(s api.Session) {
	for _, l := range props(s, nil) {
		spoilProps(l)
	}
	fill(s.Subs, api.Sub{Filter: "spoiled"})
	fill(s.Queue, msg(-1, -1, -1))
	fill(s.Out.Items, api.Flight{ID: -1})
	fill(s.Out.Pool.Used, -1)
	fill(s.In.IDs, -1)
}

// spoilPackets overwrites all memory of packets.
func spoilPackets(packets []api.Packet) {
	for _, l := range props(api.Session{}, packets) {
		spoilProps(l)
	}
	fill(packets, ack(-1, -1))
}

func spoilProps(l []api.Prop) { fill(l, api.Prop{Key: "spoiled", Value: "spoiled"}) }

// fill sets all elements of a list, and what lies behind its end, to x.
func fill[T any](l []T, x T) {
	l = l[:cap(l)]
	for i := range l {
		l[i] = x
	}
}

// behind returns what lies behind the ends of the lists of an input.
func behind(in input) string {
	l := props(in.s, nil)
	l = append(l, in.m.Props[:cap(in.m.Props)], in.p.Will.Message.Props[:cap(in.p.Will.Message.Props)])
	s := in.s
	return fmt.Sprintf("%+v %+v %+v %+v %+v %+v %+v", in.m, in.p, s.Subs[:cap(s.Subs)], s.Queue[:cap(s.Queue)], s.Out, s.In.IDs[:cap(s.In.IDs)], l)
}

// R5: nothing that a function is given is changed or kept, and its results share no memory.
func TestMemory(t *testing.T) {
	for name, call := range calls() {
		for _, shared := range []bool{false, true} {
			before := behind(inputs(t, shared))
			want, wantPackets := call(inputs(t, shared))

			in := inputs(t, shared)
			got, packets := call(in)
			spoil(got)
			if behind(in) != before || !alike(packets, wantPackets) {
				t.Errorf("%s: the session shares memory with an argument or with the packets", name)
			}
			in = inputs(t, shared)
			got, packets = call(in)
			spoilPackets(packets)
			if behind(in) != before || !alike(got, want) {
				t.Errorf("%s: the packets share memory with an argument or with the session", name)
			}
			in = inputs(t, shared)
			got, packets = call(in)
			spoil(in.s)
			spoilProps(in.m.Props)
			spoilProps(in.p.Will.Message.Props)
			if !alike(got, want) || !alike(packets, wantPackets) {
				t.Errorf("%s: an argument is kept", name)
			}
		}
	}
}

// R5: the messages of the results share no memory with each other, though those of the arguments do.
func TestApart(t *testing.T) {
	for name, call := range calls() {
		l := props(call(inputs(t, true)))
		for i, p := range l {
			fill(p, api.Prop{Key: strconv.Itoa(i)})
		}
		for i, p := range l {
			if slices.ContainsFunc(p, func(x api.Prop) bool { return x.Key != strconv.Itoa(i) }) {
				t.Errorf("%s: two messages share their properties", name)
			}
		}
	}
}

// R5: two sessions that were made of one do not overwrite each other's elements.
func TestTwice(t *testing.T) {
	s, _ := session.Offer(rich(t), full(60, 1), 20, api.DropOldest)
	a, _ := session.Offer(s, full(61, 1), 20, api.DropOldest)
	b, _ := session.Offer(s, full(62, 1), 20, api.DropOldest)
	x, _, _ := session.Subscribe(s, api.Sub{Filter: "x"})
	y, _, _ := session.Subscribe(s, api.Sub{Filter: "y"})
	if a.Queue[6].Seq != 61 || b.Queue[6].Seq != 62 || x.Subs[3].Filter != "x" || y.Subs[3].Filter != "y" || !message.Same(s.Queue[5], full(60, 1)) {
		t.Errorf("the sessions are %+v, %+v, %+v, %+v", a, b, x, y)
	}
}

// R1: nothing is promised for sessions, packets and instants that are not valid, but an end.
func TestInvalid(t *testing.T) {
	sessions := []api.Session{
		{}, {Online: true}, {Online: true, Queue: make([]api.Message, 300), Out: api.Window{Limit: 99}},
		{Online: true, Queue: []api.Message{{Level: -1}, {Level: 7}}, Out: api.Window{Limit: math.MaxInt, Items: make([]api.Flight, 40)}},
		{Online: true, Queue: []api.Message{msg(1, 1, 0)}, Out: api.Window{Limit: 50, Pool: api.Pool{Used: make([]int, 40), Last: -5}}},
		{Dropped: math.MaxInt, Expiry: math.MaxInt, Until: math.MinInt, Subs: []api.Sub{{Filter: "b"}, {Filter: "a"}, {Filter: "b"}}, Queue: []api.Message{{}}},
		{Dropped: math.MinInt, Expiry: math.MinInt, Subs: make([]api.Sub, 50), In: api.Inbox{IDs: []int{5, 3, -1}}},
	}
	for _, x := range defects() {
		s := rich(t)
		x.make(&s)
		sessions = append(sessions, s, offline(s, -7))
	}
	for _, s := range sessions {
		session.Check(s)
		for _, filter := range []string{"", "a", "b", "#", "$share/g/a"} {
			session.Subscribe(s, api.Sub{Filter: filter})
			session.Unsubscribe(s, filter)
		}
		for _, m := range []api.Message{{}, {Level: -1}, full(1, 3)} {
			session.Offer(s, m, math.MaxInt, 9)
			session.Offer(s, m, math.MinInt, api.DropOldest)
		}
		for _, now := range []int{math.MinInt, -1, 0, math.MaxInt} {
			session.Pull(s, now)
			session.Suspend(s, now)
			session.Expired(s, now)
			for kind := range 16 {
				session.Handle(s, ack(kind, 0), now)
			}
			for _, window := range []int{math.MinInt, -1, 0, 33, math.MaxInt} {
				session.New(connect(window, now), now)
				session.Resume(s, connect(window, now), 0, now)
			}
		}
	}
}
