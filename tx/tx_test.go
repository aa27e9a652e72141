package tx_test

import (
	"fmt"
	"math"
	"math/rand"
	"reflect"
	"slices"
	"testing"

	"broker/api"
	"broker/line"
	"broker/tx"
)

// publish returns a publish request in which no field that it uses is zero; its list of properties has room behind its end.
func publish(serial int) api.Request {
	props := make([]api.Prop, 0, 5)
	props = append(props, api.Prop{Key: "k", Value: fmt.Sprint(serial)}, api.Prop{Key: "l"})
	m := api.Message{Topic: "a/b", Payload: "p\x00\xff", Level: 2, Retain: true, Priority: 9, Expires: 7, From: "x-1", Seq: 3, Props: props}
	return api.Request{Kind: api.ReqPublish, Conn: 1, Serial: serial, Name: "e", Key: "k", Message: m}
}

// ack returns an ack request.
func ack(serial int) api.Request {
	return api.Request{Kind: api.ReqAck, Conn: 1, Serial: serial, Tag: 5, Flag: true}
}

// nack returns a nack request.
func nack(serial int) api.Request {
	return api.Request{Kind: api.ReqNack, Conn: 1, Serial: serial, Tag: 6}
}

// valid returns a request of a kind, from 1 to 15, that is valid in its form.
func valid(kind int) api.Request {
	r := api.Request{Kind: kind, Conn: 3, Serial: 4}
	switch kind {
	case api.ReqExchange:
		r.Exchange = api.Exchange{Name: "e", Kind: api.Fanout}
	case api.ReqQueue:
		r.Spec = api.Spec{Name: "q", Max: 1}
	case api.ReqBind, api.ReqUnbind:
		r.Binding = api.Binding{Exchange: "e", Queue: "q", All: true, Match: []api.Prop{{Key: "k"}}}
	case api.ReqPublish:
		r.Message.Topic = "t"
	case api.ReqConsume, api.ReqPurge, api.ReqDelete, api.ReqDescribe:
		r.Name = "q"
	}
	return r
}

// open returns an open transaction with n publish requests, whose list has room behind its end.
func open(n int) api.Tx {
	l := make([]api.Request, 0, n+3)
	for i := range n {
		l = append(l, publish(i))
	}
	return api.Tx{Open: true, Requests: l}
}

// equal reports whether two requests are equal; nil and empty lists are.
func equal(a, b api.Request) bool {
	lists := slices.Equal(a.Binding.Match, b.Binding.Match) && slices.Equal(a.Message.Props, b.Message.Props)
	a.Binding.Match, b.Binding.Match, a.Message.Props, b.Message.Props = nil, nil, nil, nil
	return lists && reflect.DeepEqual(a, b)
}

// same reports whether two lists of requests are equal.
func same(a, b []api.Request) bool { return slices.EqualFunc(a, b, equal) }

// checkTx checks that a call returned a transaction and a code.
func checkTx(t *testing.T, call string, got api.Tx, code api.Errno, want api.Tx, wantCode api.Errno) {
	t.Helper()
	if code != wantCode || got.Open != want.Open || !same(got.Requests, want.Requests) {
		t.Errorf("%s = %.200s, %d, want %.200s, %d", call, fmt.Sprint(got), code, fmt.Sprint(want), wantCode)
	}
}

// P29.1: exactly three kinds join.
func TestJoins(t *testing.T) {
	joining := []int{api.ReqPublish, api.ReqAck, api.ReqNack}
	kinds := []int{math.MinInt, math.MaxInt}
	for kind := -20; kind <= 40; kind++ {
		kinds = append(kinds, kind)
	}
	for _, kind := range kinds {
		if want := slices.Contains(joining, kind); tx.Joins(kind) != want {
			t.Errorf("Joins(%d) = %v", kind, !want)
		}
	}
}

// P29.2: only a transaction that is not open can begin.
func TestBegin(t *testing.T) {
	got, code := tx.Begin(api.Tx{})
	checkTx(t, "Begin", got, code, api.Tx{Open: true}, api.OK)
	got, code = tx.Begin(api.Tx{Requests: []api.Request{}})
	checkTx(t, "Begin with an empty list", got, code, api.Tx{Open: true}, api.OK)
	for _, n := range []int{0, 1, api.MaxList} {
		got, code = tx.Begin(open(n))
		checkTx(t, "Begin of an open transaction", got, code, api.Tx{}, api.ErrState)
	}
}

// P29.3: the request is at the end, with all that it says.
func TestAdd(t *testing.T) {
	var want []api.Request
	now := api.Tx{Open: true}
	for i, r := range []api.Request{publish(0), ack(1), nack(2), ack(1), publish(7), valid(api.ReqPublish), valid(api.ReqAck), valid(api.ReqNack)} {
		next, code := tx.Add(now, r)
		want = append(want, r)
		checkTx(t, fmt.Sprintf("Add %d", i), next, code, api.Tx{Open: true, Requests: want}, api.OK)
		now = next
	}
}

// P29.3: the errors.
func TestAddErrors(t *testing.T) {
	bad := publish(1)
	bad.Serial = -1
	message := publish(1)
	message.Message.Topic = "#"
	field := ack(1)
	field.Key = "k"
	badKind := valid(api.ReqConsume)
	badKind.Name = "Q"
	for i, c := range []struct {
		t    api.Tx
		r    api.Request
		want api.Errno
	}{
		{api.Tx{}, publish(1), api.ErrState}, {api.Tx{}, bad, api.ErrState}, {api.Tx{}, valid(api.ReqBegin), api.ErrState}, {api.Tx{}, api.Request{}, api.ErrState},
		{open(0), bad, api.ErrRange}, {open(0), message, api.ErrTopic}, {open(0), field, api.ErrField}, {open(0), badKind, api.ErrName}, {open(0), api.Request{}, api.ErrKind}, {open(2), api.Request{Kind: 16}, api.ErrKind},
		{open(0), valid(api.ReqConsume), api.ErrKind}, {open(2), valid(api.ReqCommit), api.ErrKind},
		{open(api.MaxList - 1), publish(1), api.OK}, {open(api.MaxList), publish(1), api.ErrFull}, {open(api.MaxList + 1), ack(1), api.ErrFull},
		{open(api.MaxList), valid(api.ReqConsume), api.ErrKind}, {open(api.MaxList), bad, api.ErrRange}, {open(api.MaxList), badKind, api.ErrName},
	} {
		want := api.Tx{}
		if c.want == api.OK {
			want = api.Tx{Open: true, Requests: append(slices.Clone(c.t.Requests), c.r)}
		}
		got, code := tx.Add(c.t, c.r)
		checkTx(t, fmt.Sprintf("case %d: Add", i), got, code, want, c.want)
	}
}

// P29.3, P29.1: of the valid requests of all kinds, those whose kinds join are added.
func TestAddKinds(t *testing.T) {
	for kind := api.ReqExchange; kind <= api.ReqDescribe; kind++ {
		r := valid(kind)
		if code := line.Check(r); code != api.OK {
			t.Fatalf("Check of the kind %d = %d", kind, code)
		}
		want, wantCode := api.Tx{Open: true, Requests: []api.Request{publish(0), r}}, api.OK
		if !tx.Joins(kind) {
			want, wantCode = api.Tx{}, api.ErrKind
		}
		got, code := tx.Add(open(1), r)
		checkTx(t, fmt.Sprintf("Add of the kind %d", kind), got, code, want, wantCode)
	}
}

// P29.4: both close the transaction; Commit returns its requests.
func TestCommitRollback(t *testing.T) {
	for _, n := range []int{0, 1, 2, api.MaxList} {
		now := open(n)
		got, l, code := tx.Commit(now)
		checkTx(t, "Commit", got, code, api.Tx{}, api.OK)
		if !same(l, now.Requests) {
			t.Errorf("Commit of %d requests = %.200s", n, fmt.Sprint(l))
		}
		got, code = tx.Rollback(now)
		checkTx(t, "Rollback", got, code, api.Tx{}, api.OK)
	}
	got, l, code := tx.Commit(api.Tx{})
	checkTx(t, "Commit of a transaction that is not open", got, code, api.Tx{}, api.ErrState)
	if len(l) != 0 {
		t.Errorf("Commit of a transaction that is not open = %v", l)
	}
	got, code = tx.Rollback(api.Tx{})
	checkTx(t, "Rollback of a transaction that is not open", got, code, api.Tx{}, api.ErrState)
}

// Examples 1 and 2 of the chapter.
func TestExamples(t *testing.T) {
	begun, _ := tx.Begin(api.Tx{})
	added, _ := tx.Add(begun, publish(1))
	closed, l, code := tx.Commit(added)
	if !same(l, []api.Request{publish(1)}) || code != api.OK {
		t.Errorf("Commit = %v, %d", l, code)
	}
	if _, _, code := tx.Commit(closed); code != api.ErrState {
		t.Errorf("the second Commit = %d", code)
	}
	if _, code := tx.Add(begun, api.Request{Kind: api.ReqConsume, Name: "q"}); code != api.ErrKind {
		t.Errorf("Add of a consume request = %d", code)
	}
	if _, code := tx.Add(begun, api.Request{Kind: api.ReqAck, Serial: -1}); code != api.ErrRange {
		t.Errorf("Add of a request with the serial number -1 = %d", code)
	}
}

// P29.5: calls in no particular order: what was accepted comes out once, and nothing of it remains.
func TestRandomCalls(t *testing.T) {
	r := rand.New(rand.NewSource(29))
	full := 0
	for range 300 {
		var now, next api.Tx
		var accepted []api.Request
		var code api.Errno
		for i := range 100 {
			was := now.Open
			switch act := r.Intn(80); {
			case act < 4:
				next, code = tx.Begin(now)
				if was != (code == api.ErrState) {
					t.Fatalf("Begin of %v = %d", was, code)
				}
			case act == 4:
				var l []api.Request
				next, l, code = tx.Commit(now)
				if was != (code == api.OK) || was && !same(l, accepted) {
					t.Fatalf("Commit of %v = %d, %v, want %v", was, code, l, accepted)
				}
				accepted = nil
			case act == 5:
				next, code = tx.Rollback(now)
				if was != (code == api.OK) {
					t.Fatalf("Rollback of %v = %d", was, code)
				}
				accepted = nil
			default:
				request := []api.Request{publish(i), ack(i), nack(i), valid(1 + i%15), {Kind: i % 20, Tag: i}, {Kind: api.ReqNack, Limit: 1}}[r.Intn(6)]
				next, code = tx.Add(now, request)
				if code == api.OK {
					accepted = append(accepted, request)
				}
				if code == api.ErrFull {
					full++
				}
			}
			if code == api.OK {
				now = next
			}
			if !same(now.Requests, accepted) || len(accepted) > api.MaxList {
				t.Fatalf("after %d calls: %d requests, want %d", i+1, len(now.Requests), len(accepted))
			}
		}
	}
	if full < 100 {
		t.Errorf("only %d full transactions", full)
	}
}

// behind shows requests and what is behind the ends of their lists.
func behind(l []api.Request) string {
	out := ""
	for _, r := range l[:cap(l)] {
		out += fmt.Sprint(r, r.Message.Props[:cap(r.Message.Props)], r.Binding.Match[:cap(r.Binding.Match)])
	}
	return out
}

// spoil overwrites requests, also behind the ends of their lists.
func spoil(l []api.Request) {
	for _, r := range l[:cap(l)] {
		clear(r.Message.Props[:cap(r.Message.Props)])
		clear(r.Binding.Match[:cap(r.Binding.Match)])
	}
	clear(l[:cap(l)])
}

// R5: arguments are not changed, and results share no memory with them nor with each other.
func TestMemory(t *testing.T) {
	for i, result := range []func(api.Tx, api.Request) []api.Request{
		func(now api.Tx, r api.Request) []api.Request { next, _ := tx.Add(now, r); return next.Requests },
		func(now api.Tx, r api.Request) []api.Request { next, _ := tx.Begin(now); return next.Requests },
		func(now api.Tx, r api.Request) []api.Request { next, _ := tx.Rollback(now); return next.Requests },
		func(now api.Tx, r api.Request) []api.Request { next, _, _ := tx.Commit(now); return next.Requests },
		func(now api.Tx, r api.Request) []api.Request { _, l, _ := tx.Commit(now); return l },
		func(now api.Tx, r api.Request) []api.Request {
			first, _ := tx.Add(now, r)
			second, _ := tx.Add(now, r)
			shown := behind(second.Requests)
			spoil(first.Requests)
			if behind(second.Requests) != shown {
				t.Error("two results share memory")
			}
			return second.Requests
		},
	} {
		now, r := open(2), publish(9)
		now.Requests = append(now.Requests, valid(api.ReqBind))
		before, request := behind(now.Requests), behind([]api.Request{r})
		spoil(result(now, r))
		if behind(now.Requests) != before || behind([]api.Request{r}) != request {
			t.Errorf("case %d: an argument is changed, or shares memory with a result", i)
		}
	}
	empty := publish(1)
	empty.Message.Props = make([]api.Prop, 0, 3)
	if next, _ := tx.Add(open(0), empty); cap(next.Requests[0].Message.Props) > 0 {
		t.Error("the room behind an empty list of properties is kept")
	}
}

// R1: every call returns, also for transactions that are not valid.
func TestInvalid(t *testing.T) {
	odd := []int{math.MinInt, -1, 0, 1, 5, 16, api.MaxNumber + 1, math.MaxInt}
	for _, x := range odd {
		for _, y := range odd {
			r := api.Request{Kind: x, Conn: y, Serial: x, Tag: y, Limit: x, Name: "\x00", Exchange: api.Exchange{Kind: y}, Spec: api.Spec{Max: x}, Message: api.Message{Level: y}}
			for _, now := range []api.Tx{{}, {Open: true}, {Requests: []api.Request{r}}, {Open: true, Requests: slices.Repeat([]api.Request{r}, 40)}} {
				tx.Begin(now)
				tx.Add(now, r)
				tx.Add(now, publish(1))
				tx.Commit(now)
				tx.Rollback(now)
				tx.Joins(x)
			}
		}
	}
}
