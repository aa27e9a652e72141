package inbound_test

import (
	"maps"
	"math"
	"math/rand"
	"slices"
	"strings"
	"testing"

	"broker/api"
	"broker/inbound"
	"broker/packet"
)

// publish returns a Publish packet with a message of a level.
func publish(level, id int) api.Packet {
	return api.Packet{Kind: api.Publish, ID: id, Message: api.Message{Topic: "a/b", Payload: "21", Level: level}}
}

// repeat returns p with Dup.
func repeat(p api.Packet) api.Packet {
	p.Dup = true
	return p
}

// ack returns an acknowledgement.
func ack(kind, id int) api.Packet { return api.Packet{Kind: kind, ID: id} }

// numbers returns n numbers from first on, each one by step greater than the preceding one.
func numbers(first, n, step int) []int {
	var l []int
	for i := range n {
		l = append(l, first+i*step)
	}
	return l
}

// box returns an inbox with identifiers.
func box(l ...int) api.Inbox { return api.Inbox{IDs: l} }

// full returns an inbox with as many identifiers as it can hold: 10, 20, .., 320.
func full() api.Inbox { return api.Inbox{IDs: numbers(10, api.MaxWindow, 10)} }

// table is an inbox as the chapter defines it: the set of the identifiers that were received and not released.
type table map[int]bool

func newTable(in api.Inbox) table {
	m := table{}
	for _, id := range in.IDs {
		m[id] = true
	}
	return m
}

func (m table) inbox() api.Inbox { return api.Inbox{IDs: slices.Sorted(maps.Keys(m))} }

// accept returns whether the message of p is to be delivered, and the kind of the packet that is returned, or 0.
func (m table) accept(p api.Packet) (bool, int, api.Errno) {
	if p.Kind != api.Publish {
		return false, 0, api.ErrKind
	}
	if code := packet.Check(p); code != api.OK {
		return false, 0, code
	}
	switch {
	case p.Message.Level == 0:
		return true, 0, api.OK
	case p.Message.Level == 1:
		return true, api.Puback, api.OK
	case m[p.ID]:
		return false, api.Pubrec, api.OK
	case len(m) == api.MaxWindow:
		return false, 0, api.ErrFull
	}
	m[p.ID] = true
	return true, api.Pubrec, api.OK
}

// release returns the kind of the packet that is returned, or 0.
func (m table) release(p api.Packet) (int, api.Errno) {
	switch {
	case p.Kind != api.Pubrel:
		return 0, api.ErrKind
	case p.ID < 1 || p.ID > api.MaxIdent:
		return 0, api.ErrIdent
	}
	delete(m, p.ID)
	return api.Pubcomp, api.OK
}

// pair is an inbox and the table with which it is compared after every call.
type pair struct {
	t  *testing.T
	in api.Inbox
	m  table
}

func newPair(t *testing.T, in api.Inbox) *pair { return &pair{t, in, newTable(in)} }

// accept accepts a packet and checks what is returned: whether it is to be delivered, the kind of the packet (0 for none), and the error.
func (p *pair) accept(x api.Packet, deliver bool, kind int, want api.Errno) {
	p.t.Helper()
	if d, k, code := p.m.accept(x); d != deliver || k != kind || code != want {
		p.t.Fatalf("the table's Accept of %+v = %v, %d, %d, want %v, %d, %d", x, d, k, code, deliver, kind, want)
	}
	var packets []api.Packet
	if kind != 0 {
		packets = []api.Packet{ack(kind, x.ID)}
	}
	in, d, got, code := inbound.Accept(p.in, x)
	if d != deliver || !slices.EqualFunc(got, packets, packet.Same) || code != want {
		p.t.Errorf("Accept of %+v by %v = %v, %+v, %d, want %v, %+v, %d", x, p.in, d, got, code, deliver, packets, want)
	}
	p.next(in, code)
}

// release releases an identifier and checks what is returned: the kind of the packet (0 for none), and the error.
func (p *pair) release(x api.Packet, kind int, want api.Errno) {
	p.t.Helper()
	if k, code := p.m.release(x); k != kind || code != want {
		p.t.Fatalf("the table's Release of %+v = %d, %d, want %d, %d", x, k, code, kind, want)
	}
	answer := api.Packet{}
	if kind != 0 {
		answer = ack(kind, x.ID)
	}
	in, got, code := inbound.Release(p.in, x)
	if !packet.Same(got, answer) || code != want {
		p.t.Errorf("Release of %+v by %v = %+v, %d, want %+v, %d", x, p.in, got, code, answer, want)
	}
	p.next(in, code)
}

// next goes on with the inbox that a call returned, which is the zero value together with an error (R3).
func (p *pair) next(in api.Inbox, code api.Errno) {
	p.t.Helper()
	if code == api.OK {
		p.in = in
	} else if len(in.IDs) > 0 {
		p.t.Errorf("with the error %d the inbox %v is returned", code, in)
	}
	p.check()
}

// check compares the inbox with the table. P15.4: the inbox stays valid.
func (p *pair) check() {
	p.t.Helper()
	want := p.m.inbox()
	if code := inbound.Check(p.in); code != api.OK || !slices.Equal(p.in.IDs, want.IDs) {
		p.t.Fatalf("the inbox is %v, Check = %d, want %v", p.in, code, want)
	}
	for _, id := range want.IDs {
		for other := id - 1; other <= id+1; other++ {
			if inbound.Has(p.in, other) != p.m[other] {
				p.t.Fatalf("Has(%d) of %v = %v", other, p.in, !p.m[other])
			}
		}
	}
}

// P15.1 to P15.3, the examples
func TestExamples(t *testing.T) {
	p := newPair(t, api.Inbox{})
	p.accept(publish(2, 7), true, api.Pubrec, api.OK)
	p.accept(publish(2, 7), false, api.Pubrec, api.OK)
	p.release(ack(api.Pubrel, 7), api.Pubcomp, api.OK)
	p.accept(publish(2, 7), true, api.Pubrec, api.OK)

	for range 3 {
		p.accept(publish(1, 7), true, api.Puback, api.OK)
		p.accept(publish(0, 0), true, 0, api.OK)
	}

	p = newPair(t, full())
	p.accept(publish(2, 11), false, 0, api.ErrFull)
	p.accept(publish(2, 20), false, api.Pubrec, api.OK)
	p.accept(publish(1, 11), true, api.Puback, api.OK)
	p.accept(publish(0, 0), true, 0, api.OK)

	p = newPair(t, box(3))
	p.release(ack(api.Pubrel, 0), 0, api.ErrIdent)
	p.release(ack(api.Pubrel, 2), api.Pubcomp, api.OK)
	p.accept(publish(2, 0), false, 0, api.ErrIdent)
}

// P15.1: the errors in their order
func TestCheck(t *testing.T) {
	for _, x := range []struct {
		ids  []int
		code api.Errno
	}{
		{nil, api.OK}, {[]int{}, api.OK}, {[]int{1}, api.OK}, {[]int{api.MaxIdent}, api.OK}, {[]int{1, api.MaxIdent}, api.OK}, {[]int{6, 7, 9}, api.OK},
		{numbers(1, api.MaxWindow, 1), api.OK}, {numbers(api.MaxIdent-api.MaxWindow+1, api.MaxWindow, 1), api.OK},
		{numbers(1, api.MaxWindow+1, 1), api.ErrTooLong}, {numbers(1, 5000, 1), api.ErrTooLong},
		{[]int{0}, api.ErrIdent}, {[]int{-1}, api.ErrIdent}, {[]int{math.MinInt}, api.ErrIdent}, {[]int{api.MaxIdent + 1}, api.ErrIdent}, {[]int{math.MaxInt}, api.ErrIdent},
		{[]int{0, 1}, api.ErrIdent}, {[]int{-1, 1}, api.ErrIdent}, {[]int{5, api.MaxIdent + 1}, api.ErrIdent}, {[]int{api.MaxIdent, api.MaxIdent + 1}, api.ErrIdent},
		{[]int{1, 1}, api.ErrIdent}, {[]int{api.MaxIdent, api.MaxIdent}, api.ErrIdent}, {[]int{2, 1}, api.ErrIdent}, {[]int{1, 2, 2, 3}, api.ErrIdent}, {[]int{1, 3, 2, 4}, api.ErrIdent},
		{numbers(0, api.MaxWindow, 1), api.ErrIdent}, {numbers(api.MaxIdent-api.MaxWindow+2, api.MaxWindow, 1), api.ErrIdent},
		{make([]int, api.MaxWindow), api.ErrIdent}, {make([]int, api.MaxWindow+1), api.ErrTooLong}, {numbers(-50, api.MaxWindow+1, 1), api.ErrTooLong}, // several
	} {
		if code := inbound.Check(api.Inbox{IDs: x.ids}); code != x.code {
			t.Errorf("Check of %v = %d, want %d", x.ids, code, x.code)
		}
	}
}

// P15.1
func TestHas(t *testing.T) {
	for _, in := range []api.Inbox{{}, box(1), box(2, 3, 700, api.MaxIdent), full()} {
		for _, id := range []int{math.MinInt, -2, -1, 0, 1, 2, 3, 4, 9, 10, 11, 320, 321, 699, 700, 701, api.MaxIdent - 1, api.MaxIdent, api.MaxIdent + 1, math.MaxInt} {
			if got := inbound.Has(in, id); got != slices.Contains(in.IDs, id) {
				t.Errorf("Has(%d) of %v = %v", id, in, got)
			}
		}
	}
}

// P15.2: level 0 is delivered, and not acknowledged.
func TestAcceptLevel0(t *testing.T) {
	for _, in := range []api.Inbox{{}, box(1), full()} {
		p := newPair(t, in)
		p.accept(publish(0, 0), true, 0, api.OK)
		p.accept(publish(0, 0), true, 0, api.OK)
		p.accept(publish(0, 1), false, 0, api.ErrIdent)
		p.accept(repeat(publish(0, 0)), false, 0, api.ErrField)
	}
}

// P15.2: level 1 is delivered each time, also with an identifier that is in the inbox, and changes nothing.
func TestAcceptLevel1(t *testing.T) {
	for _, in := range []api.Inbox{{}, box(1), box(1, api.MaxIdent), full()} {
		p := newPair(t, in)
		for _, id := range []int{1, 2, 10, 11, 320, api.MaxIdent} {
			p.accept(publish(1, id), true, api.Puback, api.OK)
			p.accept(publish(1, id), true, api.Puback, api.OK)
			p.accept(repeat(publish(1, id)), true, api.Puback, api.OK)
		}
	}
}

// P15.2: level 2 is delivered once, whichever place its identifier has among the others.
func TestAcceptLevel2(t *testing.T) {
	p := newPair(t, api.Inbox{})
	ids := []int{500, 7, api.MaxIdent, 1, 8, 6, 2, 499, 501, api.MaxIdent - 1}
	for _, id := range ids {
		p.accept(publish(2, id), true, api.Pubrec, api.OK)
		p.accept(publish(2, id), false, api.Pubrec, api.OK)
	}
	for _, id := range ids {
		p.accept(publish(2, id), false, api.Pubrec, api.OK)
	}
}

// P15.2: Dup has no influence, neither on a new message nor on one that was received.
func TestAcceptDup(t *testing.T) {
	p := newPair(t, box(5))
	p.accept(repeat(publish(2, 4)), true, api.Pubrec, api.OK)
	p.accept(publish(2, 4), false, api.Pubrec, api.OK)
	p.accept(repeat(publish(2, 4)), false, api.Pubrec, api.OK)
	p.accept(repeat(publish(2, 5)), false, api.Pubrec, api.OK)
}

// P15.2: only the identifier tells whether a message of level 2 was received, not what is in it.
func TestAcceptOtherMessage(t *testing.T) {
	x := publish(2, 9)
	x.Message = api.Message{Topic: "c", Level: 2, Retain: true, Priority: 9, Expires: 1, From: "pub", Seq: 3, Props: []api.Prop{{Key: "k", Value: "v"}}}
	p := newPair(t, box(8))
	p.accept(x, true, api.Pubrec, api.OK)
	p.accept(publish(2, 9), false, api.Pubrec, api.OK)
	p.accept(x, false, api.Pubrec, api.OK)
	x.ID = 8
	p.accept(x, false, api.Pubrec, api.OK)
}

// P15.2: an inbox is full with MaxWindow identifiers, until one of them is released.
func TestAcceptFull(t *testing.T) {
	p := newPair(t, api.Inbox{})
	for i := range api.MaxWindow {
		p.accept(publish(2, 1000-i), true, api.Pubrec, api.OK)
	}
	for _, id := range []int{1, 1000 - api.MaxWindow, 1001, api.MaxIdent} {
		p.accept(publish(2, id), false, 0, api.ErrFull)
		p.accept(repeat(publish(2, id)), false, 0, api.ErrFull)
	}
	p.accept(publish(2, 1000), false, api.Pubrec, api.OK)
	p.accept(publish(2, 1001-api.MaxWindow), false, api.Pubrec, api.OK)
	p.release(ack(api.Pubrel, 990), api.Pubcomp, api.OK)
	p.accept(publish(2, 1), true, api.Pubrec, api.OK)
	p.accept(publish(2, 990), false, 0, api.ErrFull)
}

// P15.2: the errors in their order
func TestAcceptErrors(t *testing.T) {
	change := func(f func(p *api.Packet)) api.Packet {
		p := publish(2, 11)
		f(&p)
		return p
	}
	for _, x := range []struct {
		p    api.Packet
		code api.Errno
	}{
		{api.Packet{}, api.ErrKind}, {change(func(p *api.Packet) { p.Kind = api.Pubrel }), api.ErrKind}, {change(func(p *api.Packet) { p.Kind = math.MinInt }), api.ErrKind}, {change(func(p *api.Packet) { p.Kind = 15 }), api.ErrKind},
		{change(func(p *api.Packet) { p.Client = "c" }), api.ErrField}, {change(func(p *api.Packet) { p.Codes = []int{0} }), api.ErrField}, {change(func(p *api.Packet) { p.Will.Delay = 1 }), api.ErrField},
		{change(func(p *api.Packet) { p.Message.Topic = "a/+" }), api.ErrTopic}, {change(func(p *api.Packet) { p.Message.Topic = "" }), api.ErrTopic},
		{change(func(p *api.Packet) { p.Message.Payload = strings.Repeat("x", api.MaxPayload+1) }), api.ErrTooLong},
		{change(func(p *api.Packet) { p.Message.Level = 3 }), api.ErrLevel}, {change(func(p *api.Packet) { p.Message.Level = -1 }), api.ErrLevel},
		{change(func(p *api.Packet) { p.ID = 0 }), api.ErrIdent}, {change(func(p *api.Packet) { p.ID = api.MaxIdent + 1 }), api.ErrIdent}, {change(func(p *api.Packet) { p.ID = math.MaxInt }), api.ErrIdent}, {change(func(p *api.Packet) { p.ID = -11 }), api.ErrIdent},
		{change(func(p *api.Packet) { p.Message.Level = 0 }), api.ErrIdent}, {change(func(p *api.Packet) { p.Message.Level, p.ID, p.Dup = 0, 0, true }), api.ErrField}, {change(func(p *api.Packet) { p.Message.Level, p.ID = 1, 0 }), api.ErrIdent},
		{change(func(p *api.Packet) { p.Kind, p.Client, p.Message.Topic, p.ID = api.Connect, "c", "", 0 }), api.ErrKind}, // several
		{change(func(p *api.Packet) { p.Client, p.Message.Topic, p.ID = "c", "", 0 }), api.ErrField}, {change(func(p *api.Packet) { p.Message.Topic, p.ID = "", 0 }), api.ErrTopic},
	} {
		newPair(t, api.Inbox{}).accept(x.p, false, 0, x.code)
		newPair(t, box(1, 2)).accept(x.p, false, 0, x.code)
		newPair(t, full()).accept(x.p, false, 0, x.code) // ErrFull comes last
	}
	newPair(t, full()).accept(publish(2, 11), false, 0, api.ErrFull)
}

// P15.2, P15.3: no kind but Publish is accepted, and no kind but Pubrel releases.
func TestKinds(t *testing.T) {
	kinds := append(numbers(-2, 19, 1), math.MinInt, math.MaxInt)
	for _, kind := range kinds {
		p := newPair(t, box(3))
		if kind != api.Publish {
			p.accept(ack(kind, 3), false, 0, api.ErrKind)
			p.accept(ack(kind, 0), false, 0, api.ErrKind)
		}
		if kind != api.Pubrel {
			p.release(ack(kind, 3), 0, api.ErrKind)
			p.release(ack(kind, 0), 0, api.ErrKind)
		}
	}
	newPair(t, box(3)).release(publish(2, 3), 0, api.ErrKind)
}

// P15.3: an identifier is released, wherever it stands; one that is not there is answered as well.
func TestRelease(t *testing.T) {
	p := newPair(t, box(1, 2, 4, 600, api.MaxIdent))
	for _, id := range []int{3, 5, 599, 601, api.MaxIdent - 1} {
		p.release(ack(api.Pubrel, id), api.Pubcomp, api.OK)
	}
	for _, id := range []int{4, 1, api.MaxIdent, 600, 2} {
		p.release(ack(api.Pubrel, id), api.Pubcomp, api.OK)
		p.release(ack(api.Pubrel, id), api.Pubcomp, api.OK)
	}
	if len(p.in.IDs) > 0 {
		t.Errorf("the inbox is %v", p.in)
	}
	p.release(ack(api.Pubrel, 1), api.Pubcomp, api.OK)
	newPair(t, full()).release(ack(api.Pubrel, 11), api.Pubcomp, api.OK)
	newPair(t, full()).release(ack(api.Pubrel, 320), api.Pubcomp, api.OK)
}

// P15.3: an identifier out of range is an error.
func TestReleaseErrors(t *testing.T) {
	for _, id := range []int{0, -1, -3, api.MaxIdent + 1, api.MaxIdent + 3, math.MinInt, math.MaxInt} {
		newPair(t, api.Inbox{}).release(ack(api.Pubrel, id), 0, api.ErrIdent)
		newPair(t, box(1, 3, api.MaxIdent)).release(ack(api.Pubrel, id), 0, api.ErrIdent)
		newPair(t, full()).release(ack(api.Pubrel, id), 0, api.ErrIdent)
	}
}

// P15.3: the other fields of the packet are ignored, and none of them is returned.
func TestReleaseOtherFields(t *testing.T) {
	x := api.Packet{
		Kind: api.Pubrel, ID: 3, Dup: true, Message: publish(2, 3).Message, Client: "c", User: "u", Clean: true, Keep: 1, Expiry: 2, Window: 3,
		Will: api.Will{Set: true, Delay: 1}, Present: true, Code: 99, Subs: []api.Sub{{Filter: "a"}}, Filters: []string{"#"}, Codes: []int{7},
	}
	p := newPair(t, box(2, 3, 4))
	p.release(x, api.Pubcomp, api.OK)
	p.release(x, api.Pubcomp, api.OK)
	x.ID = 0
	p.release(x, 0, api.ErrIdent)
	x.Kind = api.Pubcomp
	p.release(x, 0, api.ErrKind)
}

// P15.4: a message of level 2 that is received any number of times before its Pubrel is delivered exactly once, and after it once more.
func TestExactlyOnce(t *testing.T) {
	for n := 1; n < 6; n++ {
		var in api.Inbox
		for range 3 {
			delivered := 0
			for range n {
				next, deliver, _, _ := inbound.Accept(in, publish(2, 5))
				if deliver {
					delivered++
				}
				in = next
			}
			if delivered != 1 {
				t.Errorf("received %d times: delivered %d times", n, delivered)
			}
			for range n {
				in, _, _ = inbound.Release(in, ack(api.Pubrel, 5))
				if inbound.Has(in, 5) {
					t.Errorf("Pubrel: the inbox is %v", in)
				}
			}
		}
	}
}

// P15.1 to P15.4: calls in no particular order
func TestCalls(t *testing.T) {
	r := rand.New(rand.NewSource(15))
	for range 100 {
		p, span := newPair(t, api.Inbox{}), 5+r.Intn(2)*50
		for range 150 {
			id := r.Intn(span)
			if r.Intn(3) == 0 {
				x := ack([]int{api.Pubrel, api.Pubrel, api.Pubrel, api.Pubrec}[r.Intn(4)], id)
				kind, code := newTable(p.in).release(x)
				p.release(x, kind, code)
				continue
			}
			x := publish([]int{0, 1, 2, 2, 2, 2}[r.Intn(6)], id)
			if x.Message.Level == 0 && r.Intn(4) > 0 {
				x.ID = 0
			}
			x.Dup = r.Intn(3) == 0
			deliver, kind, code := newTable(p.in).accept(x)
			p.accept(x, deliver, kind, code)
		}
	}
}

// R5: inboxes share no memory, including what lies behind the ends of slices.
func TestMemory(t *testing.T) {
	back := append(make([]int, 0, 40), 2, 4, 6, 90, 91, 92)
	in := api.Inbox{IDs: back[:3]}
	spoil := func(what string, got api.Inbox, packets []api.Packet) {
		t.Helper()
		for i, l := 0, packets[:cap(packets)]; i < len(l); i++ {
			l[i] = ack(-1, -1)
		}
		for i, l := 0, got.IDs[:cap(got.IDs)]; i < len(l); i++ {
			l[i] = -1
		}
		if !slices.Equal(back, []int{2, 4, 6, 90, 91, 92}) {
			t.Fatalf("%s: the inbox has become %v", what, back)
		}
	}
	for _, x := range []api.Packet{publish(0, 0), publish(1, 4), publish(2, 1), publish(2, 4), publish(2, 5), publish(2, 7)} {
		got, _, packets, code := inbound.Accept(in, x)
		if code != api.OK {
			t.Fatalf("Accept of %+v = %d", x, code)
		}
		spoil("Accept", got, packets)
	}
	for _, id := range []int{1, 2, 4, 6, 7} {
		got, _, _ := inbound.Release(in, ack(api.Pubrel, id))
		spoil("Release", got, nil)
	}
	first, _, _, _ := inbound.Accept(in, publish(2, 7))
	second, _, _, _ := inbound.Accept(first, publish(2, 8))
	third, _, _, _ := inbound.Accept(first, publish(2, 9))
	if !slices.Equal(first.IDs, []int{2, 4, 6, 7}) || !slices.Equal(second.IDs, []int{2, 4, 6, 7, 8}) || !slices.Equal(third.IDs, []int{2, 4, 6, 7, 9}) {
		t.Errorf("the inboxes are %v, %v, %v", first, second, third)
	}
}

// R1: nothing is promised for invalid inboxes but an end.
func TestInvalidInboxes(t *testing.T) {
	for _, l := range [][]int{{0}, {3, 2, 1}, {1, 1, 1}, {-5, math.MinInt, math.MaxInt}, make([]int, 5000), numbers(1, 100, 1), numbers(5000, 31, -1), {api.MaxIdent + 1}} {
		for _, id := range []int{0, 1, 2, 3, 100, -5, api.MaxIdent, math.MinInt, math.MaxInt} {
			inbound.Has(box(l...), id)
			inbound.Release(box(l...), ack(api.Pubrel, id))
			for level := range 3 {
				inbound.Accept(box(l...), publish(level, id))
			}
		}
	}
}
