package slow_test

import (
	"math"
	"math/rand"
	"slices"
	"strconv"
	"strings"
	"testing"

	"broker/api"
	"broker/message"
	"broker/slow"
)

// msg returns a message with a number, and the instant from which it is expired.
func msg(number, expires int) api.Message {
	return api.Message{Topic: "t/" + strconv.Itoa(number), Payload: "p" + strconv.Itoa(number), Level: 1, Expires: expires, Seq: number}
}

// full returns a message with a number in which no field is zero; its list of properties has room behind its end.
func full(number int) api.Message {
	props := make([]api.Prop, 0, 9)
	props = append(props, api.Prop{Key: "k", Value: strconv.Itoa(number)}, api.Prop{Key: "n", Value: "v"})
	return api.Message{Topic: "a/b", Payload: "p\x00\xff", Level: 2, Retain: true, Priority: 9, Expires: 70000, From: "x-1", Seq: number, Props: props}
}

// queue returns the messages first to first+n-1, which do not expire.
func queue(first, n int) []api.Message {
	var q []api.Message
	for i := range n {
		q = append(q, msg(first+i, 0))
	}
	return q
}

// timed returns messages from 1 on that are expired from these instants.
func timed(expires ...int) []api.Message {
	var q []api.Message
	for i, at := range expires {
		q = append(q, msg(i+1, at))
	}
	return q
}

// invalid returns messages that are not valid: only their payloads and Expires count.
func invalid(expires int) []api.Message {
	return []api.Message{
		{}, {Expires: expires}, {Topic: "#", Payload: strings.Repeat("x", 3*api.MaxPayload), Level: -1, Priority: 99, Expires: expires, From: "X", Seq: -1},
		{Topic: "t", Level: 3, Expires: -expires, Props: []api.Prop{{Key: "b"}, {Key: "b"}, {Key: "A"}}}, {Level: math.MaxInt, Expires: expires, Props: make([]api.Prop, 40)},
	}
}

// same reports whether two queues are equal.
func same(a, b []api.Message) bool { return slices.EqualFunc(a, b, message.Same) }

// numbers returns the numbers of messages.
func numbers(q []api.Message) []int {
	var l []int
	for _, m := range q {
		l = append(l, m.Seq)
	}
	return l
}

// push is Push as the chapter defines it.
func push(q []api.Message, m api.Message, limit, policy int) (stay, dropped []api.Message, evicted bool) {
	if len(q) < limit {
		return slices.Concat(q, []api.Message{m}), nil, false
	}
	switch policy {
	case api.DropOldest:
		if limit >= 1 {
			return slices.Concat(q[1:], []api.Message{m}), q[:1], false
		}
		return q, []api.Message{m}, false
	case api.Evict:
		return q, []api.Message{m}, true
	default:
		return q, []api.Message{m}, false
	}
}

// checkPush compares Push with its definition.
func checkPush(t *testing.T, q []api.Message, m api.Message, limit, policy int) ([]api.Message, []api.Message, bool) {
	t.Helper()
	stay, dropped, evicted := slow.Push(q, m, limit, policy)
	wantStay, wantDropped, wantEvicted := push(q, m, limit, policy)
	if !same(stay, wantStay) || !same(dropped, wantDropped) || evicted != wantEvicted {
		t.Fatalf("Push of %d to %v with max %d and policy %d = %v, %v, %v, want %v, %v, %v", m.Seq, numbers(q), limit, policy, numbers(stay), numbers(dropped), evicted, numbers(wantStay), numbers(wantDropped), wantEvicted)
	}
	return stay, dropped, evicted
}

// expire is Expire as the chapters define it.
func expire(q []api.Message, now int) (fresh, expired []api.Message) {
	for _, m := range q {
		if m.Expires != 0 && now >= m.Expires {
			expired = append(expired, m)
		} else {
			fresh = append(fresh, m)
		}
	}
	return fresh, expired
}

// checkExpire compares Expire with its definition.
func checkExpire(t *testing.T, q []api.Message, now int) {
	t.Helper()
	fresh, expired := slow.Expire(q, now)
	if wantFresh, wantExpired := expire(q, now); !same(fresh, wantFresh) || !same(expired, wantExpired) {
		t.Fatalf("Expire of %v at %d = %v, %v, want %v, %v", q, now, fresh, expired, wantFresh, wantExpired)
	}
}

// checkPop compares Pop with its definition.
func checkPop(t *testing.T, q []api.Message, now int) {
	t.Helper()
	fresh, _ := expire(q, now)
	var first api.Message
	var after []api.Message
	before := q
	if len(fresh) > 0 {
		first = fresh[0]
		at := slices.IndexFunc(q, func(m api.Message) bool { return message.Same(m, first) })
		before, after = q[:at], q[at+1:]
	}
	m, ok, rest, expired := slow.Pop(q, now)
	if !message.Same(m, first) || ok != (len(fresh) > 0) || !same(rest, after) || !same(expired, before) {
		t.Fatalf("Pop of %v at %d = %v, %v, %v, %v, want %v, %v, %v", q, now, m, ok, rest, expired, first, after, before)
	}
}

// P17.1 to P17.3, the examples
func TestExamples(t *testing.T) {
	for _, x := range []struct {
		max, policy   int
		stay, dropped []int
		evicted       bool
	}{
		{2, api.DropOldest, []int{2, 3}, []int{1}, false}, {2, api.DropNewest, []int{1, 2}, []int{3}, false}, {2, api.Evict, []int{1, 2}, []int{3}, true}, {2, 9, []int{1, 2}, []int{3}, false},
		{0, api.DropOldest, nil, []int{1, 2, 3}, false}, {0, api.DropNewest, nil, []int{1, 2, 3}, false}, {0, api.Evict, nil, []int{1, 2, 3}, true}, {0, 9, nil, []int{1, 2, 3}, false},
	} {
		var q, dropped []api.Message
		var evicted bool
		for i := range 3 {
			next, l, end := checkPush(t, q, msg(i+1, 0), x.max, x.policy)
			q, dropped, evicted = next, append(dropped, l...), end
			if evicted != (x.evicted && i >= x.max) {
				t.Errorf("max %d, policy %d: message %d evicts: %v", x.max, x.policy, i+1, evicted)
			}
		}
		if !slices.Equal(numbers(q), x.stay) || !slices.Equal(numbers(dropped), x.dropped) || evicted != x.evicted {
			t.Errorf("max %d, policy %d: %v, dropped %v, evicted %v", x.max, x.policy, numbers(q), numbers(dropped), evicted)
		}
	}

	q := timed(0, 5, 0)
	fresh, expired := slow.Expire(q, 5)
	if !slices.Equal(numbers(fresh), []int{1, 3}) || !slices.Equal(numbers(expired), []int{2}) {
		t.Errorf("Expire at 5 = %v, %v", fresh, expired)
	}
	if fresh, expired = slow.Expire(q, 4); !same(fresh, q) || len(expired) > 0 {
		t.Errorf("Expire at 4 = %v, %v", fresh, expired)
	}
	q = timed(5, 0)
	if m, ok, rest, before := slow.Pop(q, 5); m.Seq != 2 || !ok || len(rest) > 0 || !same(before, q[:1]) {
		t.Errorf("Pop at 5 = %v, %v, %v, %v", m, ok, rest, before)
	}
	if m, ok, rest, before := slow.Pop(q, 4); m.Seq != 1 || !ok || !same(rest, q[1:]) || len(before) > 0 {
		t.Errorf("Pop at 4 = %v, %v, %v, %v", m, ok, rest, before)
	}
}

// P17.1: queues below, at and above each maximum, with every policy and numbers that are none
func TestPush(t *testing.T) {
	for n := range 6 {
		for _, limit := range []int{math.MinInt, -2, -1, 0, 1, 2, 3, 4, 5, 6, math.MaxInt} {
			for _, policy := range []int{math.MinInt, -1, 0, api.DropOldest, api.DropNewest, api.Evict, 4, 9, math.MaxInt} {
				_, dropped, evicted := checkPush(t, queue(1, n), msg(7, 0), limit, policy)
				if (len(dropped) > 0) != (n >= limit) || evicted != (n >= limit && policy == api.Evict) {
					t.Errorf("Push to %d messages with max %d and policy %d drops %v, evicts: %v", n, limit, policy, numbers(dropped), evicted)
				}
			}
		}
	}
}

// P17.1: at most one message is dropped, also if the queue has more than max messages.
func TestPushAboveMax(t *testing.T) {
	q := queue(1, 5)
	stay, dropped, evicted := slow.Push(q, msg(6, 0), 2, api.DropOldest)
	if !same(stay, queue(2, 5)) || !same(dropped, queue(1, 1)) || evicted {
		t.Errorf("DropOldest: %v, %v, %v", numbers(stay), numbers(dropped), evicted)
	}
	for _, policy := range []int{api.DropNewest, api.Evict, 0} {
		stay, dropped, evicted = slow.Push(q, msg(6, 0), 2, policy)
		if !same(stay, q) || !same(dropped, queue(6, 1)) || evicted != (policy == api.Evict) {
			t.Errorf("policy %d: %v, %v, %v", policy, numbers(stay), numbers(dropped), evicted)
		}
	}
}

// P17.1: every field of the messages stays, and messages need not be valid.
func TestPushFields(t *testing.T) {
	for _, policy := range []int{api.DropOldest, api.DropNewest, api.Evict, -1} {
		for limit := range 4 {
			q := []api.Message{full(1), full(2)}
			checkPush(t, q, full(3), limit, policy)
			for _, m := range invalid(5) {
				checkPush(t, q, m, limit, policy)
				checkPush(t, invalid(5), m, limit+3, policy)
			}
		}
	}
}

// P17.1: messages that are equal are several, and those that are expired are dropped as others are.
func TestPushEqual(t *testing.T) {
	q := []api.Message{msg(1, 1), msg(1, 1), msg(1, 1)}
	stay, dropped, _ := checkPush(t, q, msg(1, 1), 3, api.DropOldest)
	if len(stay) != 3 || len(dropped) != 1 {
		t.Errorf("equal messages: %v, %v", stay, dropped)
	}
}

// P17.2, P17.3: all queues of up to five messages, with instants before, at and after those of the messages
func TestExpire(t *testing.T) {
	kinds := []int{0, 5, 6, -1}
	for n := range 6 {
		count := 1
		for range n {
			count *= len(kinds)
		}
		for code := range count {
			var expires []int
			for rest := code; len(expires) < n; rest /= len(kinds) {
				expires = append(expires, kinds[rest%len(kinds)])
			}
			for _, now := range []int{-2, 0, 4, 5, 6} {
				checkExpire(t, timed(expires...), now)
				checkPop(t, timed(expires...), now)
			}
		}
	}
}

// P17.2, P17.3: the edges of instants
func TestExpireEdges(t *testing.T) {
	for _, x := range []struct {
		expires, now int
		expired      bool
	}{
		{0, 0, false}, {0, api.MaxTick, false}, {0, math.MaxInt, false}, {0, math.MinInt, false}, {1, 0, false}, {1, 1, true}, {5, 4, false}, {5, 5, true}, {5, 6, true},
		{api.MaxTick, api.MaxTick - 1, false}, {api.MaxTick, api.MaxTick, true}, {math.MaxInt, api.MaxTick, false}, {-1, 0, true}, {-1, -1, true}, {-1, -2, false},
	} {
		q := timed(x.expires)
		fresh, expired := slow.Expire(q, x.now)
		_, ok, _, before := slow.Pop(q, x.now)
		if (len(fresh) == 0) != x.expired || (len(expired) == 1) != x.expired || ok == x.expired || (len(before) == 1) != x.expired {
			t.Errorf("a message that expires at %d is at %d: Expire = %v, %v, Pop = %v, %v", x.expires, x.now, fresh, expired, ok, before)
		}
	}
}

// P17.2, P17.3: messages that are not valid, and every field of those that are
func TestExpireFields(t *testing.T) {
	for _, now := range []int{-6, -5, 0, 4, 5, api.MaxTick} {
		for _, q := range [][]api.Message{invalid(5), {full(1), full(2)}, {msg(1, 5), full(2), full(3)}, slices.Repeat([]api.Message{msg(1, 3), msg(2, 7)}, 300)} {
			checkExpire(t, q, now)
		}
		checkPop(t, invalid(5), now)
		checkPop(t, []api.Message{msg(1, 5), full(2), full(3), msg(4, 5)}, now)
	}
}

// P17.3: if there is no message to return, all of them are expired, and the queue is empty.
func TestPopNothing(t *testing.T) {
	for _, q := range [][]api.Message{nil, {}, timed(5), timed(1, 5, 3), {full(1), full(2)}} {
		m, ok, rest, before := slow.Pop(q, 70000)
		if !message.Same(m, api.Message{}) || ok || len(rest) > 0 || !same(before, q) {
			t.Errorf("Pop of %v = %v, %v, %v, %v", q, m, ok, rest, before)
		}
	}
}

// P17.3: messages behind the first one stay, also if they are expired.
func TestPopBehind(t *testing.T) {
	q := timed(3, 5, 0, 4, 9, 0)
	m, ok, rest, before := slow.Pop(q, 5)
	if m.Seq != 3 || !ok || !same(rest, q[3:]) || !same(before, q[:2]) {
		t.Errorf("Pop = %v, %v, %v, %v", m, ok, rest, before)
	}
}

// P17.2, P17.3: Pop again and again returns what Expire keeps, and the messages that it removes.
func TestPopAll(t *testing.T) {
	r := rand.New(rand.NewSource(17))
	for range 200 {
		var q []api.Message
		for i := range r.Intn(20) {
			q = append(q, msg(i+1, r.Intn(4)*r.Intn(4)))
		}
		now := r.Intn(9)
		wantFresh, wantExpired := slow.Expire(q, now)
		var fresh, expired []api.Message
		for rest := q; ; {
			m, ok, after, before := slow.Pop(rest, now)
			expired = append(expired, before...)
			if !ok {
				break
			}
			fresh, rest = append(fresh, m), after
		}
		if !same(fresh, wantFresh) || !same(expired, wantExpired) {
			t.Fatalf("Pop of %v at %d: %v, %v, want %v, %v", q, now, fresh, expired, wantFresh, wantExpired)
		}
	}
}

// P17.4
func TestBytes(t *testing.T) {
	for _, x := range []struct {
		payloads []string
		want     int
	}{
		{nil, 0}, {[]string{""}, 0}, {[]string{"a"}, 1}, {[]string{"", "abc", ""}, 3}, {[]string{"ab", "ab"}, 4}, {[]string{"\x00\xff"}, 2}, {[]string{"é", "日本"}, 8},
		{[]string{strings.Repeat("x", api.MaxPayload), "y"}, api.MaxPayload + 1}, {[]string{strings.Repeat("x", 100*api.MaxPayload)}, 100 * api.MaxPayload},
		{slices.Repeat([]string{strings.Repeat("x", api.MaxPayload)}, api.MaxQueue), api.MaxPayload * api.MaxQueue}, {slices.Repeat([]string{"z"}, 2*api.MaxQueue), 2 * api.MaxQueue},
	} {
		var q []api.Message
		for i, s := range x.payloads {
			m := full(i)
			m.Payload, m.Expires, m.Level = s, i, i%5
			q = append(q, m)
		}
		if got := slow.Bytes(q); got != x.want {
			t.Errorf("Bytes of %.99q = %d, want %d", x.payloads, got, x.want)
		}
	}
	if got := slow.Bytes(invalid(5)); got != 3*api.MaxPayload {
		t.Errorf("Bytes of messages that are not valid = %d", got)
	}
}

// P17.5: the queue and what was dropped are what was pushed, in the order of pushing, and with DropOldest the queue is the end of it, otherwise the beginning.
func TestPushed(t *testing.T) {
	for limit := range 6 {
		for policy := range 6 {
			for old := range limit + 1 {
				q, dropped := queue(1, old), []api.Message(nil)
				for n := range 12 {
					next, l, evicted := checkPush(t, q, msg(old+n+1, n), limit, policy)
					if evicted != (policy == api.Evict && old+n >= limit) || len(next) > limit {
						t.Fatalf("max %d, policy %d: %v, evicted: %v", limit, policy, numbers(next), evicted)
					}
					q, dropped = next, append(dropped, l...)
				}
				all := append(slices.Clone(q), dropped...)
				first := 1
				if policy == api.DropOldest {
					all, first = append(slices.Clone(dropped), q...), old+12-limit+1
				}
				for i, m := range all {
					if m.Seq != i+1 {
						t.Fatalf("max %d, policy %d: queue %v, dropped %v", limit, policy, numbers(q), numbers(dropped))
					}
				}
				if len(all) != old+12 || limit > 0 && q[0].Seq != first {
					t.Errorf("max %d, policy %d: queue %v, dropped %v", limit, policy, numbers(q), numbers(dropped))
				}
			}
		}
	}
}

// P17.5: pushes with maxima and policies in no particular order, and queues that were emptied by Pop and Expire in between
func TestCalls(t *testing.T) {
	r := rand.New(rand.NewSource(175))
	for range 100 {
		var q, gone []api.Message
		for i := range 100 {
			now := i / 4
			switch r.Intn(5) {
			case 0:
				m, ok, rest, before := slow.Pop(q, now)
				checkPop(t, q, now)
				if ok {
					gone = append(gone, m)
				}
				q, gone = rest, append(gone, before...)
			case 1:
				rest, expired := slow.Expire(q, now)
				checkExpire(t, q, now)
				q, gone = rest, append(gone, expired...)
			}
			expires := r.Intn(3) * (now + r.Intn(9))
			rest, dropped, _ := checkPush(t, q, msg(i, expires), r.Intn(8)-1, r.Intn(5))
			q, gone = rest, append(gone, dropped...)
			if !slices.IsSorted(numbers(q)) {
				t.Fatalf("the queue is %v", numbers(q))
			}
			if all := slices.Sorted(slices.Values(append(numbers(q), numbers(gone)...))); len(all) != i+1 || all[0] != 0 || all[i] != i || len(slices.Compact(all)) != i+1 {
				t.Fatalf("after %d messages: queue %v, gone %v", i+1, numbers(q), numbers(gone))
			}
		}
	}
}

// spoil overwrites all memory of messages, including what lies behind the ends of slices.
func spoil(q []api.Message) {
	for i, l := 0, q[:cap(q)]; i < len(l); i++ {
		props := l[i].Props[:cap(l[i].Props)]
		for j := range props {
			props[j] = api.Prop{Key: "spoiled", Value: "spoiled"}
		}
		l[i] = msg(-1, -1)
	}
}

// roomy returns a queue of the messages 1 to n, behind whose end there is room with other messages.
func roomy(n int) []api.Message {
	q := make([]api.Message, 0, 20)
	for i := range 15 {
		q = append(q, full(i+1))
	}
	return q[:n]
}

// checkIntact says that a queue that roomy returned is as it was, also behind its end.
func checkIntact(t *testing.T, what string, q []api.Message) {
	t.Helper()
	if !same(q[:15], roomy(15)) {
		t.Errorf("%s: the queue has become %v", what, q[:15])
	}
	for _, m := range q[:15] {
		if rest := m.Props[len(m.Props):cap(m.Props)]; rest[0] != (api.Prop{}) {
			t.Errorf("%s: behind the properties is %v", what, rest)
		}
	}
}

// R5: Push neither changes nor keeps the queue and the message, and its results share no memory.
func TestPushMemory(t *testing.T) {
	for _, policy := range []int{api.DropOldest, api.DropNewest, api.Evict} {
		for limit := range 5 {
			for n := range 4 {
				q, m := roomy(n), full(77)
				wantStay, wantDropped, _ := push(roomy(n), full(77), limit, policy)
				stay, dropped, _ := slow.Push(q, m, limit, policy)
				spoil(stay)
				checkIntact(t, "Push's queue", q)
				if !message.Same(m, full(77)) || !same(dropped, wantDropped) {
					t.Errorf("the queue shares memory with the message or with what was dropped: %v, %v", m, dropped)
				}
				stay, dropped, _ = slow.Push(q, m, limit, policy)
				spoil(dropped)
				checkIntact(t, "what Push drops", q)
				if !message.Same(m, full(77)) || !same(stay, wantStay) {
					t.Errorf("what was dropped shares memory with the message or with the queue: %v, %v", m, stay)
				}
				stay, dropped, _ = slow.Push(q, m, limit, policy)
				spoil(append(q, m))
				spoil([]api.Message{m})
				if !same(stay, wantStay) || !same(dropped, wantDropped) {
					t.Errorf("Push keeps memory: %v, %v", stay, dropped)
				}
			}
		}
	}
}

// R5: two queues that were made of one do not overwrite each other's messages.
func TestPushTwice(t *testing.T) {
	q, _, _ := slow.Push(queue(1, 2), msg(3, 0), 9, api.DropOldest)
	a, _, _ := slow.Push(q, msg(4, 0), 9, api.DropOldest)
	b, _, _ := slow.Push(q, msg(5, 0), 9, api.DropOldest)
	c, _, _ := slow.Push(q, msg(6, 0), 3, api.DropOldest)
	for _, x := range []struct {
		q    []api.Message
		want []int
	}{{q, []int{1, 2, 3}}, {a, []int{1, 2, 3, 4}}, {b, []int{1, 2, 3, 5}}, {c, []int{2, 3, 6}}} {
		if got := numbers(x.q); !slices.Equal(got, x.want) {
			t.Errorf("the queue is %v, want %v", got, x.want)
		}
	}
}

// R5: Expire and Pop neither change nor keep the queue, and their results share no memory.
func TestExpireMemory(t *testing.T) {
	mixed := func() []api.Message {
		q := roomy(6)
		for i := range q {
			q[i].Expires = []int{5, 0, 9, 5, 5, 9}[i]
		}
		return q
	}
	intact := func(what string, q []api.Message) {
		t.Helper()
		if !same(q[:6], mixed()) || !same(q[6:15], mixed()[6:15]) {
			t.Errorf("%s: the queue has become %v", what, q[:15])
		}
	}
	wantFresh, wantExpired := expire(mixed(), 5)
	q := mixed()
	fresh, expired := slow.Expire(q, 5)
	spoil(fresh)
	intact("Expire's queue", q)
	if !same(expired, wantExpired) {
		t.Errorf("Expire's results share memory: %v", expired)
	}
	fresh, expired = slow.Expire(q, 5)
	spoil(expired)
	intact("what Expire removes", q)
	spoil(q)
	if !same(fresh, wantFresh) {
		t.Errorf("Expire's results share memory, with each other or with the queue: %v", fresh)
	}

	for _, now := range []int{4, 5, 9} { // one message before the one that is returned, or none, or all but the second one, which does not expire
		want := slices.IndexFunc(mixed(), func(m api.Message) bool { return !message.Expired(m, now) })
		for part := range 4 {
			q = mixed()
			m, _, rest, before := slow.Pop(q, now)
			switch part {
			case 0:
				spoil([]api.Message{m})
			case 1:
				spoil(rest)
			case 2:
				spoil(before)
			case 3:
				spoil(q)
			}
			if part < 3 {
				intact("Pop's result "+strconv.Itoa(part), q)
			}
			if part != 0 && !message.Same(m, mixed()[want]) || part != 1 && !same(rest, mixed()[want+1:]) || part != 2 && !same(before, mixed()[:want]) {
				t.Errorf("Pop at %d: its results share memory: %v, %v, %v", now, m, rest, before)
			}
		}
	}
	q = mixed()
	q[1].Expires = 1
	_, _, _, before := slow.Pop(q, 9)
	spoil(before)
	q[1].Expires = 0
	intact("what Pop removes", q)
}

// R5: messages of one result share no memory with each other, though those of the argument do.
func TestApart(t *testing.T) {
	m := full(1)
	q := []api.Message{m, m, m}
	checkApart := func(what string, l ...api.Message) {
		t.Helper()
		for i := range l {
			spoil(l[i : i+1 : i+1])
			for _, other := range l[i+1:] {
				if !message.Same(other, full(1)) {
					t.Fatalf("%s: messages share memory: %v", what, l)
				}
			}
		}
		if !message.Same(m, full(1)) {
			t.Fatalf("%s: the message has become %v", what, m)
		}
	}
	for _, limit := range []int{0, 1, 3, 9} {
		stay, dropped, _ := slow.Push(q, m, limit, api.DropOldest)
		checkApart("Push", append(stay, dropped...)...)
	}
	fresh, expired := slow.Expire(q, 0)
	checkApart("Expire's queue", append(fresh, expired...)...)
	fresh, expired = slow.Expire(q, 70000)
	checkApart("what Expire removes", append(fresh, expired...)...)
	first, _, rest, before := slow.Pop(q, 0)
	checkApart("Pop", append(append(rest, before...), first)...)
	_, _, rest, before = slow.Pop(q, 70000)
	checkApart("what Pop removes", append(rest, before...)...)
}
