package tunnel_test

import (
	"bytes"
	"math"
	"reflect"
	"slices"
	"strings"
	"testing"

	"broker/api"
	"broker/frame"
	"broker/pack"
	"broker/packet"
	"broker/tunnel"
	"broker/wire"
)

var (
	ping = api.Packet{Kind: api.Ping}
	ack  = api.Packet{Kind: api.Puback, ID: 1}
	note = api.Packet{Kind: api.Publish, ID: 7, Message: api.Message{Topic: "a/b", Payload: "p\x00\xff", Level: 2, Props: []api.Prop{{Key: "k", Value: "v"}}}}
	asks = api.Packet{Kind: api.Subscribe, ID: 9, Subs: []api.Sub{{Filter: "a/#", Level: 1, NoLocal: true}}}
	bad  = api.Packet{Kind: api.Puback} // no identifier
)

// numbered returns a packet that is told from others by its number, from 1 on.
func numbered(n int) api.Packet { return api.Packet{Kind: api.Puback, ID: n} }

// payload follows the chapter's definition of what is in a datagram. The numbers may be any.
func payload(conn, number int, forms []byte) []byte {
	return slices.Concat(pack.PutNum(nil, conn), pack.PutNum(nil, number), forms)
}

// datagram follows the chapter's definition.
func datagram(conn, number int, l ...api.Packet) []byte {
	var forms []byte
	for _, p := range l {
		form, _ := wire.Encode(p)
		forms = slices.Concat(forms, pack.PutNum(nil, len(form)), form)
	}
	return frame.Wrap(payload(conn, number, forms))
}

// damaged is a datagram whose packets cannot be read: a Puback with the identifier 0.
func damaged(conn, number int) []byte { return frame.Wrap(payload(conn, number, []byte{4, 8, 0})) }

// pings returns n packets whose joint form has 2n bytes.
func pings(n int) []api.Packet { return slices.Repeat([]api.Packet{ping}, n) }

func same(a, b []api.Packet) bool { return slices.EqualFunc(a, b, packet.Same) }

// sends checks what Send returns: the bytes, OK and one more that was sent, or the error and the tunnel as it was.
func sends(t *testing.T, what string, from api.Tunnel, l []api.Packet, want []byte, code api.Errno) {
	t.Helper()
	after := from
	if code == api.OK {
		after.Sent++
	}
	got, to, e := tunnel.Send(from, l)
	if !bytes.Equal(got, want) || to != after || e != code {
		t.Errorf("Send of %s: %.40v, %+v, %d, want %.40v, %+v, %d", what, got, to, e, want, after, code)
	}
}

// receives checks what Receive returns, and that it leaves its argument as it is.
func receives(t *testing.T, what string, by api.Tunnel, b []byte, want []api.Packet, after api.Tunnel, code api.Errno) {
	t.Helper()
	kept := slices.Clone(b)
	got, to, e := tunnel.Receive(by, b)
	if !same(got, want) || to != after || e != code {
		t.Errorf("Receive of %s by %+v: %.100v, %+v, %d, want %.100v, %+v, %d", what, by, got, to, e, want, after, code)
	}
	if !bytes.Equal(b, kept) {
		t.Errorf("Receive of %s modifies its argument", what)
	}
}

// refuses checks that Receive returns an error, no packets and the tunnel as it was.
func refuses(t *testing.T, what string, by api.Tunnel, b []byte, code api.Errno) {
	t.Helper()
	receives(t, what, by, b, nil, by, code)
}

// peeks checks what Peek returns.
func peeks(t *testing.T, what string, b []byte, conn, number int, code api.Errno) {
	t.Helper()
	kept := slices.Clone(b)
	if c, n, e := tunnel.Peek(b); c != conn || n != number || e != code {
		t.Errorf("Peek of %s (%.40v): %d, %d, %d, want %d, %d, %d", what, b, c, n, e, conn, number, code)
	}
	if !bytes.Equal(b, kept) {
		t.Errorf("Peek of %s modifies its argument", what)
	}
}

// P9.1 to P9.4, the examples
func TestExamples(t *testing.T) {
	first, end, code := tunnel.Send(tunnel.New(1), nil)
	if want := ([]byte{4, 95, 123, 143, 197, 2, 2}); !bytes.Equal(first, want) || end != (api.Tunnel{Conn: 1, Sent: 1}) || code != api.OK {
		t.Fatalf("Send of no packets = %v, %+v, %d, want %v", first, end, code, want)
	}
	got := api.Tunnel{Conn: 1, Got: 1}
	receives(t, "the first one", tunnel.New(1), first, nil, got, api.OK)
	refuses(t, "it again", got, first, api.ErrDuplicate)
	refuses(t, "it elsewhere", tunnel.New(2), first, api.ErrNotFound)

	second, _, _ := tunnel.Send(end, []api.Packet{ping})
	broken := api.Tunnel{Conn: 1, Broken: true}
	receives(t, "the second one first", tunnel.New(1), second, nil, broken, api.ErrOrder)
	refuses(t, "the first one then", broken, first, api.ErrClosed)
}

// P9.1
func TestNew(t *testing.T) {
	for _, conn := range []int{0, 1, 2, 700, api.MaxNumber, api.MaxNumber + 1, -1, math.MinInt, math.MaxInt} {
		if got := tunnel.New(conn); got != (api.Tunnel{Conn: conn}) {
			t.Errorf("New(%d) = %+v", conn, got)
		}
	}
}

// P9.1
func TestBreak(t *testing.T) {
	for _, x := range []api.Tunnel{{}, {Conn: 1, Sent: 2, Got: 3}, {Conn: -1, Sent: -2, Got: -3}, {Conn: 1, Sent: 2, Got: 3, Broken: true}} {
		want := api.Tunnel{Conn: x.Conn, Sent: x.Sent, Got: x.Got, Broken: true}
		if got := tunnel.Break(x); got != want {
			t.Errorf("Break(%+v) = %+v", x, got)
		}
	}
}

// P9.2
func TestSend(t *testing.T) {
	for _, l := range [][]api.Packet{nil, {}, {ping}, {ping, ping}, {ack, note, ping, asks}, pings(700)} {
		for _, x := range []api.Tunnel{
			{}, {Conn: 1}, {Conn: 1, Sent: 1}, {Conn: 63, Sent: 62}, {Conn: 64, Sent: 63}, {Conn: 7, Sent: 8191, Got: 12}, {Conn: 1, Got: -5}, {Conn: 1, Got: math.MaxInt},
			{Conn: api.MaxNumber, Sent: api.MaxNumber - 1}, {Conn: 0, Sent: 0},
		} {
			sends(t, "packets", x, l, datagram(x.Conn, x.Sent+1, l...), api.OK)
		}
	}
	// 2 and 128, 1: the numbers 1 and 64
	sends(t, "a Ping and a Puback", api.Tunnel{Conn: 1, Sent: 63}, []api.Packet{ping, ack}, frame.Wrap([]byte{2, 128, 1, 2, 24, 4, 8, 2}), api.OK)
}

// P9.2, one datagram after the other
func TestSendMany(t *testing.T) {
	end := tunnel.New(5)
	for i := 1; i <= 200; i++ {
		b, next, code := tunnel.Send(end, []api.Packet{numbered(i)})
		if !bytes.Equal(b, datagram(5, i, numbered(i))) || next != (api.Tunnel{Conn: 5, Sent: i}) || code != api.OK {
			t.Fatalf("Send number %d = %v, %+v, %d", i, b, next, code)
		}
		end = next
	}
}

// P9.2, the errors
func TestSendErrors(t *testing.T) {
	for _, x := range []struct {
		what string
		from api.Tunnel
		l    []api.Packet
		code api.Errno
	}{
		{"packets, broken", api.Tunnel{Conn: 1, Broken: true}, nil, api.ErrClosed},
		{"packets, after others, broken", api.Tunnel{Conn: 1, Sent: 3, Got: 2, Broken: true}, []api.Packet{ping}, api.ErrClosed},
		{"a negative connection", api.Tunnel{Conn: -1}, nil, api.ErrRange},
		{"a connection that is too great", api.Tunnel{Conn: api.MaxNumber + 1}, nil, api.ErrRange},
		{"the smallest connection", api.Tunnel{Conn: math.MinInt}, nil, api.ErrRange},
		{"the greatest connection", api.Tunnel{Conn: math.MaxInt}, nil, api.ErrRange},
		{"a negative number", api.Tunnel{Conn: 1, Sent: -1}, nil, api.ErrRange},
		{"a number that is too great", api.Tunnel{Conn: 1, Sent: api.MaxNumber}, nil, api.ErrRange},
		{"the smallest number", api.Tunnel{Conn: 1, Sent: math.MinInt}, nil, api.ErrRange},
		{"the greatest number", api.Tunnel{Conn: 1, Sent: math.MaxInt}, nil, api.ErrRange},
		{"a packet without identifier", tunnel.New(1), []api.Packet{bad}, api.ErrIdent},
		{"a packet of no kind behind others", tunnel.New(1), []api.Packet{ping, ack, {Kind: 15}}, api.ErrKind},
		{"two packets with errors", tunnel.New(1), []api.Packet{ping, {Kind: api.Ping, ID: 1}, bad}, api.ErrField},
		{"too many packets", tunnel.New(1), pings(api.MaxBytes / 2), api.ErrTooLong},
	} {
		sends(t, x.what, x.from, x.l, nil, x.code)
	}
}

// P9.2, several errors
func TestSendOrder(t *testing.T) {
	many := append(pings(api.MaxBytes/2), bad)
	sends(t, "all errors", api.Tunnel{Conn: -1, Sent: -1, Broken: true}, many, nil, api.ErrClosed)
	sends(t, "all but broken", api.Tunnel{Conn: -1, Sent: -1}, many, nil, api.ErrRange)
	sends(t, "packets and their number", tunnel.New(1), many, nil, api.ErrIdent)
}

// P9.2, the longest payload. Two bytes are those of the numbers.
func TestSendLongest(t *testing.T) {
	full := pings((api.MaxBytes - 2) / 2)
	sends(t, "as many bytes as possible", tunnel.New(1), full, datagram(1, 1, full...), api.OK)
	full[9] = ack
	sends(t, "one byte too many", tunnel.New(1), full, nil, api.ErrTooLong)
	sends(t, "two bytes too many", tunnel.New(1), append(pings(len(full)), ping), nil, api.ErrTooLong)
	full[9] = ping
	sends(t, "a number that needs one byte more", api.Tunnel{Conn: 1, Sent: 63}, full, nil, api.ErrTooLong)
	sends(t, "a connection that needs one byte more", tunnel.New(64), full, nil, api.ErrTooLong)
	full = append(full[:len(full)-2], ack)
	sends(t, "a number that fits exactly", api.Tunnel{Conn: 1, Sent: 63}, full, datagram(1, 64, full...), api.OK)
	b, _, _ := tunnel.Send(tunnel.New(1), full)
	receives(t, "a long datagram", tunnel.New(1), b, full, api.Tunnel{Conn: 1, Got: 1}, api.OK)
}

// unreadable returns bytes of which Peek has an error, with the error.
func unreadable() map[string]api.Errno {
	flipped := datagram(1, 1, ping)
	flipped[2] ^= 1
	whole := datagram(1, 1)
	size := func(n int) string { return string(pack.PutNum(nil, n)) }
	wrap := func(b ...byte) string { return string(frame.Wrap(b)) }
	return map[string]api.Errno{
		"": api.ErrTruncated, "\x80": api.ErrTruncated, "\x80\x00": api.ErrSyntax, "\x01": api.ErrSyntax,
		size(api.MaxBytes + 1): api.ErrTooLong, size(api.MaxBytes): api.ErrTruncated, string(whole[:len(whole)-1]): api.ErrTruncated, string(whole[:4]): api.ErrTruncated,
		string(flipped): api.ErrChecksum, string(flipped) + "x": api.ErrChecksum,
		string(whole) + "\x00": api.ErrSyntax, string(whole) + string(whole): api.ErrSyntax,
		wrap(): api.ErrTruncated, wrap() + "x": api.ErrSyntax, wrap(2): api.ErrTruncated, wrap(2) + "x": api.ErrSyntax, wrap(128): api.ErrTruncated, wrap(2, 128): api.ErrTruncated, wrap(128, 1): api.ErrTruncated,
		wrap(128, 0): api.ErrSyntax, wrap(128, 0, 2): api.ErrSyntax, wrap(2, 128, 0): api.ErrSyntax, wrap(2, 128, 0, 2, 24): api.ErrSyntax,
		wrap(bytes.Repeat([]byte{255}, 10)...): api.ErrSyntax, wrap(append([]byte{2}, bytes.Repeat([]byte{255}, 10)...)...): api.ErrSyntax,
		wrap(bytes.Repeat([]byte{255}, 9)...): api.ErrTruncated,
	}
}

// P9.3, and P9.4, whose errors they are too, whatever the tunnel
func TestUnreadable(t *testing.T) {
	for s, code := range unreadable() {
		peeks(t, "unreadable bytes", []byte(s), 0, 0, code)
		for _, by := range []api.Tunnel{{}, {Conn: 1}, {Conn: 2, Sent: 3, Got: 4}, {Conn: 2, Broken: true}, {Conn: 1, Got: 1}} {
			refuses(t, "unreadable bytes", by, []byte(s), code)
		}
	}
}

// P9.3: the numbers may be any, and the packets are not looked at.
func TestPeek(t *testing.T) {
	numbers := []int{0, 1, -1, 2, 63, 64, 700, api.MaxNumber, api.MaxNumber + 1, math.MinInt, math.MaxInt}
	for _, conn := range numbers {
		for _, number := range numbers {
			for _, b := range [][]byte{datagram(conn, number), datagram(conn, number, ping, note), damaged(conn, number), frame.Wrap(payload(conn, number, []byte{128, 0})), frame.Wrap(payload(conn, number, []byte{255}))} {
				peeks(t, "numbers", b, conn, number, api.OK)
			}
		}
	}
}

// P9.4
func TestReceive(t *testing.T) {
	for _, l := range [][]api.Packet{nil, {ping}, {ack, note, ping, asks}, pings(700)} {
		for _, x := range []api.Tunnel{
			{}, {Conn: 1}, {Conn: 1, Sent: 12}, {Conn: 700, Sent: 3, Got: 62}, {Conn: 1, Got: 63}, {Conn: api.MaxNumber, Got: api.MaxNumber - 1},
			{Conn: -1, Got: -3}, {Conn: math.MaxInt, Got: math.MaxInt - 1}, {Conn: math.MinInt, Sent: -7, Got: math.MinInt}, // nothing is said against them
		} {
			after := x
			after.Got++
			receives(t, "packets", x, datagram(x.Conn, x.Got+1, l...), l, after, api.OK)
		}
	}
}

// P9.4, the packets that cannot be read
func TestReceiveForms(t *testing.T) {
	for forms, code := range map[string]api.Errno{
		"\x01": api.ErrSyntax, "\x80\x00": api.ErrSyntax, "\x80": api.ErrTruncated, "\x00": api.ErrTruncated, "\x02": api.ErrTruncated, "\x02\x18\x04\x18": api.ErrTruncated,
		"\x02\x1e": api.ErrKind, "\x04\x18\x00": api.ErrSyntax, "\x04\x08\x00": api.ErrIdent, "\x02\x18\x02\x1e": api.ErrKind, "\x02\x18\x02": api.ErrTruncated,
		string(pack.PutNum(nil, api.MaxPacket+1)) + strings.Repeat("\x18", api.MaxPacket+1): api.ErrTooLong,
	} {
		b := frame.Wrap(payload(1, 1, []byte(forms)))
		refuses(t, "packets that cannot be read", tunnel.New(1), b, code)
		refuses(t, "packets that cannot be read", tunnel.New(2), b, code)
		refuses(t, "packets that cannot be read", api.Tunnel{Conn: 1, Got: 1}, b, code)
		refuses(t, "packets that cannot be read", api.Tunnel{Conn: 1, Got: -1}, b, code)
		refuses(t, "packets that cannot be read", api.Tunnel{Conn: 1, Broken: true}, b, code)
	}
}

// P9.4, the errors of the connection and of the number
func TestReceiveNumbers(t *testing.T) {
	by := api.Tunnel{Conn: 3, Sent: 9, Got: 5}
	broken := api.Tunnel{Conn: 3, Sent: 9, Got: 5, Broken: true}
	for _, number := range []int{math.MinInt, -1, 0, 1, 4, 5} {
		refuses(t, "a datagram that was accepted", by, datagram(3, number, ping), api.ErrDuplicate)
		refuses(t, "a datagram that was accepted", broken, datagram(3, number, ping), api.ErrClosed)
	}
	refuses(t, "the next one", broken, datagram(3, 6, ping), api.ErrClosed)
	for _, number := range []int{7, 8, 700, api.MaxNumber + 1, math.MaxInt} {
		receives(t, "a datagram that is too early", by, datagram(3, number, ping), nil, broken, api.ErrOrder)
		refuses(t, "a datagram that is too early", broken, datagram(3, number, ping), api.ErrClosed)
	}
	for _, number := range []int{-1, 5, 6, 7} {
		for _, conn := range []int{2, 4, -3, math.MaxInt} {
			refuses(t, "a datagram of another connection", by, datagram(conn, number, ping), api.ErrNotFound)
			refuses(t, "a datagram of another connection", broken, datagram(conn, number, ping), api.ErrNotFound)
		}
	}
	last := api.Tunnel{Conn: 3, Got: math.MaxInt}
	refuses(t, "the greatest number again", last, datagram(3, math.MaxInt), api.ErrDuplicate)
	refuses(t, "the smallest number behind the greatest one", last, datagram(3, math.MinInt), api.ErrDuplicate)
}

// R5: results are new, and arguments as they were.
func TestResultsAreNew(t *testing.T) {
	l := []api.Packet{note, asks, {Kind: api.Suback, ID: 2, Codes: []int{0, 13}}, {Kind: api.Unsubscribe, ID: 2, Filters: []string{"a"}}}
	whole := datagram(1, 1, l...)
	first, _, _ := tunnel.Send(tunnel.New(1), l)
	second, _, _ := tunnel.Send(tunnel.New(1), l)
	clear(first[:cap(first)])
	if !bytes.Equal(second, whole) || !bytes.Equal(whole, datagram(1, 1, l...)) {
		t.Error("two datagrams share memory, or one with its packets")
	}
	got, _, _ := tunnel.Receive(tunnel.New(1), second)
	again, _, _ := tunnel.Receive(tunnel.New(1), second)
	clear(second)
	clear(got[0].Message.Props)
	clear(got[1].Subs)
	clear(got[2].Codes)
	clear(got[3].Filters)
	clear(got[:cap(got)])
	if !reflect.DeepEqual(again, l) {
		t.Errorf("packets share memory: %+v", again)
	}
}

// sent returns the first n datagrams of a connection, which have 2, 0, 1, 2, 0, 1 .. packets, and the packets of each one.
func sent(t *testing.T, n int) ([][]byte, [][]api.Packet) {
	t.Helper()
	var datagrams [][]byte
	var packets [][]api.Packet
	end, id := tunnel.New(1), 0
	for i := range n {
		var l []api.Packet
		for range (i + 2) % 3 {
			id++
			l = append(l, numbered(id))
		}
		b, next, code := tunnel.Send(end, l)
		if code != api.OK {
			t.Fatalf("Send: %d", code)
		}
		end = next
		datagrams = append(datagrams, b)
		packets = append(packets, l)
	}
	return datagrams, packets
}

// arrive delivers datagrams, by their indexes, and checks each step: C9.1.
func arrive(t *testing.T, datagrams [][]byte, packets [][]api.Packet, order []int) {
	t.Helper()
	end := tunnel.New(1)
	accepted := 0
	var got []api.Packet
	broken := false
	for _, i := range order {
		l, next, code := tunnel.Receive(end, datagrams[i])
		want := api.ErrDuplicate
		switch {
		case broken:
			want = api.ErrClosed
		case i == accepted:
			want = api.OK
			accepted++
		case i > accepted:
			want = api.ErrOrder
			broken = true
		}
		got = append(got, l...)
		if code != want || next != (api.Tunnel{Conn: 1, Got: accepted, Broken: broken}) || !same(got, slices.Concat(packets[:accepted]...)) {
			t.Fatalf("after %v of %v: %v, %+v, %d, want the error %d", i, order, got, next, code, want)
		}
		end = next
	}
}

// C9.1: each sequence of 0 to 6 of 4 datagrams
func TestTunnelPrefix(t *testing.T) {
	datagrams, packets := sent(t, 4)
	orders := [][]int{nil}
	for len(orders[0]) < 6 {
		var longer [][]int
		for _, order := range orders {
			arrive(t, datagrams, packets, order)
			for i := range datagrams {
				longer = append(longer, append(slices.Clone(order), i))
			}
		}
		orders = longer
	}
	for _, order := range orders {
		arrive(t, datagrams, packets, order)
	}
}

// C9.1: many datagrams, all of them and without one of them, each one repeated
func TestTunnelPrefixLong(t *testing.T) {
	datagrams, packets := sent(t, 100)
	for lost := range len(datagrams) + 1 {
		var order []int
		for i := range datagrams {
			if i != lost {
				order = append(order, i, i, i/2)
			}
		}
		arrive(t, datagrams, packets, slices.DeleteFunc(order, func(i int) bool { return i == lost }))
	}
}

// C9.1: what is lost between two ends is lost in one direction only.
func TestBothDirections(t *testing.T) {
	a, b := tunnel.New(6), tunnel.New(6)
	for i := 1; i <= 5; i++ {
		there, next, _ := tunnel.Send(a, []api.Packet{numbered(i)})
		a = next
		l, next, code := tunnel.Receive(b, there)
		b = next
		if !same(l, []api.Packet{numbered(i)}) || code != api.OK {
			t.Fatalf("there: %v, %d", l, code)
		}
		for range 2 {
			back, next, _ := tunnel.Send(b, []api.Packet{ping})
			b = next
			if _, a, code = tunnel.Receive(a, back); code != api.OK {
				t.Fatalf("back: %d", code)
			}
		}
	}
	if a != (api.Tunnel{Conn: 6, Sent: 5, Got: 10}) || b != (api.Tunnel{Conn: 6, Sent: 10, Got: 5}) {
		t.Errorf("the ends are %+v and %+v", a, b)
	}
}

// C9.2: every change of every byte behind the length
func TestTunnelDamaged(t *testing.T) {
	for _, l := range [][]api.Packet{nil, {ping}, {note, ack}} {
		b := datagram(1, 1, l...)
		start := len(b) - len(payload(1, 1, nil)) - 4
		if forms, code := wire.EncodeAll(l); code == api.OK {
			start -= len(forms)
		}
		if start != 1 {
			t.Fatalf("the checksum begins at %d", start)
		}
		for i := start; i < len(b); i++ {
			for change := 1; change < 256; change++ {
				b[i] ^= byte(change)
				peeks(t, "a damaged datagram", b, 0, 0, api.ErrChecksum)
				refuses(t, "a damaged datagram", tunnel.New(1), b, api.ErrChecksum)
				refuses(t, "a damaged datagram", api.Tunnel{Conn: 2, Got: 7, Broken: true}, b, api.ErrChecksum)
				b[i] ^= byte(change)
			}
		}
		receives(t, "the datagram as it was", tunnel.New(1), b, l, api.Tunnel{Conn: 1, Got: 1}, api.OK)
	}
}
