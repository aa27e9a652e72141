package queue_test

import (
	"cmp"
	"fmt"
	"math"
	"math/rand"
	"slices"
	"sort"
	"strings"
	"testing"

	"broker/api"
	"broker/message"
	"broker/queue"
	"broker/topic"
)

// mostReady is how many entries a valid queue has at most.
const mostReady = api.MaxRecords + api.MaxQueue

// msg returns a message with a priority.
func msg(priority int) api.Message {
	return api.Message{Topic: "t", Payload: "p", Level: 1, Priority: priority}
}

// full returns a message in which no field is zero; its list of properties has room behind its end.
func full(priority, number int) api.Message {
	props := make([]api.Prop, 0, 9)
	props = append(props, api.Prop{Key: "k", Value: fmt.Sprint(number)}, api.Prop{Key: "n", Value: "v"})
	return api.Message{Topic: "a/b", Payload: "p\x00\xff", Level: 2, Retain: true, Priority: priority, Expires: 70000, From: "x-1", Seq: number, Props: props}
}

// entry returns an entry with a number and a priority.
func entry(number, priority int) api.Entry {
	return api.Entry{Number: number, Arrived: 10 + number%100, Attempts: number % 3, Message: full(priority, number)}
}

// plain returns the description of a queue without anything that is optional.
func plain(limit int) api.Spec { return api.Spec{Name: "q", Max: limit} }

// holding returns a queue of these entries.
func holding(s api.Spec, next int, l ...api.Entry) api.Queue {
	return api.Queue{Spec: s, Next: next, Ready: l}
}

// many returns a queue of n entries of equal priority, which are valid.
func many(limit, n int) api.Queue {
	q := holding(plain(limit), n+1)
	for i := range n {
		q.Ready = append(q.Ready, api.Entry{Number: i + 1, Message: msg(0)})
	}
	return q
}

// sameEntry reports whether two entries are equal.
func sameEntry(a, b api.Entry) bool {
	return a.Number == b.Number && a.Arrived == b.Arrived && a.Attempts == b.Attempts && message.Same(a.Message, b.Message)
}

// sameEntries reports whether two lists of entries are equal.
func sameEntries(a, b []api.Entry) bool { return slices.EqualFunc(a, b, sameEntry) }

// same reports whether two queues are equal.
func same(a, b api.Queue) bool {
	return a.Spec == b.Spec && a.Next == b.Next && sameEntries(a.Ready, b.Ready)
}

// show returns a value as text: a list without elements may be nil or empty.
func show(v any) string { return fmt.Sprintf("%+v", v) }

// numbers returns the numbers of entries.
func numbers(l []api.Entry) []int {
	var out []int
	for _, e := range l {
		out = append(out, e.Number)
	}
	return out
}

// specError is Check as the chapter defines it.
func specError(s api.Spec) api.Errno {
	if !topic.Name(s.Name) {
		return api.ErrName
	}
	if s.Max < 1 || s.Max > api.MaxQueue {
		return api.ErrRange
	}
	if s.TTL < 0 || s.TTL > api.MaxTick {
		return api.ErrRange
	}
	if s.Attempts < 0 || s.Attempts > api.MaxNumber {
		return api.ErrRange
	}
	if s.Dead != "" && !topic.Name(s.Dead) {
		return api.ErrName
	}
	return api.OK
}

// entryError is the error of an entry alone, as the chapter defines it.
func entryError(e api.Entry, next int) api.Errno {
	if e.Number < 1 || e.Number >= next || e.Arrived < 0 || e.Arrived > api.MaxTick || e.Attempts < 0 || e.Attempts > api.MaxNumber {
		return api.ErrRange
	}
	return message.Check(e.Message)
}

// precedes is the order of entries as the chapter defines it.
func precedes(a, b api.Entry) bool {
	return a.Message.Priority > b.Message.Priority || a.Message.Priority == b.Message.Priority && a.Number < b.Number
}

// isNumbered returns what says whether an entry has a number.
func isNumbered(number int) func(api.Entry) bool {
	return func(e api.Entry) bool { return e.Number == number }
}

// queueError is Valid as the chapter defines it.
func queueError(q api.Queue) api.Errno {
	if code := specError(q.Spec); code != api.OK {
		return code
	}
	if q.Next < 1 || q.Next > api.MaxNumber {
		return api.ErrRange
	}
	if len(q.Ready) > mostReady {
		return api.ErrTooLong
	}
	for i, e := range q.Ready {
		if code := entryError(e, q.Next); code != api.OK {
			return code
		}
		if slices.ContainsFunc(q.Ready[:i], isNumbered(e.Number)) {
			return api.ErrDuplicate
		}
		if i > 0 && !precedes(q.Ready[i-1], e) {
			return api.ErrOrder
		}
	}
	return api.OK
}

// joined returns a queue with another entry, at the position that the chapter defines.
func joined(q api.Queue, e api.Entry) api.Queue {
	q.Ready = append(slices.Clone(q.Ready), e)
	sort.SliceStable(q.Ready, func(i, k int) bool { return precedes(q.Ready[i], q.Ready[k]) })
	return q
}

// push is Push as the chapter defines it.
func push(q api.Queue, m api.Message, now int) (api.Queue, api.Errno) {
	if code := message.Check(m); code != api.OK {
		return api.Queue{}, code
	}
	if now < 0 || now > api.MaxTick {
		return api.Queue{}, api.ErrRange
	}
	if len(q.Ready) >= q.Spec.Max || q.Next == api.MaxNumber {
		return api.Queue{}, api.ErrFull
	}
	q = joined(q, api.Entry{Number: q.Next, Arrived: now, Message: m})
	q.Next++
	return q, api.OK
}

// put is Return as the chapter defines it.
func put(q api.Queue, e api.Entry) (api.Queue, api.Errno) {
	if code := entryError(e, q.Next); code != api.OK {
		return api.Queue{}, code
	}
	if slices.ContainsFunc(q.Ready, isNumbered(e.Number)) {
		return api.Queue{}, api.ErrExists
	}
	if len(q.Ready) == mostReady {
		return api.Queue{}, api.ErrFull
	}
	return joined(q, e), api.OK
}

// isExpired reports whether an entry is expired, as the chapters define it.
func isExpired(s api.Spec, e api.Entry, now int) bool {
	if s.TTL != 0 && now >= e.Arrived+s.TTL {
		return true
	}
	return e.Message.Expires != 0 && now >= e.Message.Expires
}

// checkSpec compares Check and New with their definitions and with what is expected.
func checkSpec(t *testing.T, s api.Spec, want api.Errno) {
	t.Helper()
	if def := specError(s); def != want {
		t.Fatalf("by definition, Check of %+v = %d, want %d", s, def, want)
	}
	if got := queue.Check(s); got != want {
		t.Fatalf("Check of %+v = %d, want %d", s, got, want)
	}
	made := api.Queue{Spec: s, Next: 1}
	if want != api.OK {
		made = api.Queue{}
	}
	if q, code := queue.New(s); !same(q, made) || code != want {
		t.Fatalf("New of %+v = %+v, %d, want %+v, %d", s, q, code, made, want)
	}
}

// checkValid compares Valid with its definition and with what is expected.
func checkValid(t *testing.T, q api.Queue, want api.Errno) {
	t.Helper()
	if def := queueError(q); def != want {
		t.Fatalf("by definition, Valid of %.999s = %d, want %d", show(q), def, want)
	}
	if got := queue.Valid(q); got != want {
		t.Errorf("Valid of %.999s = %d, want %d", show(q), got, want)
	}
}

// checkPush compares Push with its definition, and with the error that is expected.
func checkPush(t *testing.T, q api.Queue, m api.Message, now int, want api.Errno) api.Queue {
	t.Helper()
	out, code := push(q, m, now)
	if code != want {
		t.Fatalf("by definition, Push to %v with %+v at %d = %d, want %d", numbers(q.Ready), m, now, code, want)
	}
	got, code := queue.Push(q, m, now)
	if code != want || !same(got, out) {
		t.Fatalf("Push to %v with %+v at %d = %+v, %d, want %+v, %d", numbers(q.Ready), m, now, got, code, out, want)
	}
	if want == api.OK && queue.Valid(got) != api.OK {
		t.Fatalf("Push returns a queue that is not valid: %+v", got)
	}
	return got
}

// checkReturn compares Return with its definition, and with the error that is expected.
func checkReturn(t *testing.T, q api.Queue, e api.Entry, want api.Errno) api.Queue {
	t.Helper()
	out, code := put(q, e)
	if code != want {
		t.Fatalf("by definition, Return of %+v to %v = %d, want %d", e, numbers(q.Ready), code, want)
	}
	got, code := queue.Return(q, e)
	if code != want || !same(got, out) {
		t.Fatalf("Return of %+v to %v = %v, %d, want %v, %d", e, numbers(q.Ready), numbers(got.Ready), code, numbers(out.Ready), want)
	}
	if want == api.OK && queue.Valid(got) != api.OK {
		t.Fatalf("Return returns a queue that is not valid: %v", numbers(got.Ready))
	}
	return got
}

// checkPop compares Pop with its definition; Return undoes it.
func checkPop(t *testing.T, q api.Queue) (api.Entry, api.Queue, bool) {
	t.Helper()
	e, rest, ok := queue.Pop(q)
	if len(q.Ready) == 0 {
		if ok || !sameEntry(e, api.Entry{}) || !same(rest, api.Queue{}) {
			t.Fatalf("Pop of an empty queue = %+v, %+v, %v", e, rest, ok)
		}
		return e, rest, ok
	}
	if want := holding(q.Spec, q.Next, q.Ready[1:]...); !ok || !sameEntry(e, q.Ready[0]) || !same(rest, want) {
		t.Fatalf("Pop of %v = %+v, %v, %v", numbers(q.Ready), e, numbers(rest.Ready), ok)
	}
	if queue.Valid(rest) != api.OK {
		t.Fatalf("Pop returns a queue that is not valid: %v", numbers(rest.Ready))
	}
	if back, code := queue.Return(rest, e); code != api.OK || !same(back, q) {
		t.Fatalf("Return after Pop = %v, %d, want %v", numbers(back.Ready), code, numbers(q.Ready))
	}
	return e, rest, ok
}

// checkExpire compares Expire with its definition, and returns how many entries are expired.
func checkExpire(t *testing.T, q api.Queue, now int) int {
	t.Helper()
	var gone, left []api.Entry
	for _, e := range q.Ready {
		if isExpired(q.Spec, e, now) {
			gone = append(gone, e)
		} else {
			left = append(left, e)
		}
	}
	l, rest := queue.Expire(q, now)
	if !sameEntries(l, gone) || !same(rest, holding(q.Spec, q.Next, left...)) {
		t.Fatalf("Expire of %v at %d = %v, %+v, want %v, %v", numbers(q.Ready), now, numbers(l), rest, numbers(gone), numbers(left))
	}
	if queue.Valid(rest) != api.OK {
		t.Fatalf("Expire returns a queue that is not valid: %v", numbers(rest.Ready))
	}
	if again, same := queue.Expire(rest, now); len(again) > 0 || !sameEntries(same.Ready, left) {
		t.Fatalf("Expire at %d leaves %v, of which %v are expired", now, numbers(left), numbers(again))
	}
	return len(gone)
}

// P25.3 to P25.7, the examples
func TestExamples(t *testing.T) {
	q, code := queue.New(plain(2))
	if code != api.OK {
		t.Fatal(code)
	}
	q = checkPush(t, q, msg(0), 5, api.OK)
	q = checkPush(t, q, msg(4), 5, api.OK)
	if want := holding(plain(2), 3, api.Entry{Number: 2, Arrived: 5, Message: msg(4)}, api.Entry{Number: 1, Arrived: 5, Message: msg(0)}); !same(q, want) {
		t.Errorf("two messages: %+v", q)
	}
	checkPush(t, q, msg(9), 5, api.ErrFull)

	e, rest, ok := checkPop(t, q)
	if e.Number != 2 || !ok || !slices.Equal(numbers(rest.Ready), []int{1}) {
		t.Errorf("Pop = %+v, %+v, %v", e, rest, ok)
	}
	back := checkReturn(t, rest, e, api.OK)
	if !slices.Equal(numbers(back.Ready), []int{2, 1}) {
		t.Errorf("Return = %+v", back)
	}
	checkReturn(t, back, e, api.ErrExists)

	q.Spec.TTL = 10
	if l, left := queue.Expire(q, 15); !slices.Equal(numbers(l), []int{2, 1}) || len(left.Ready) > 0 || left.Next != 3 {
		t.Errorf("Expire at 15 = %+v, %+v", l, left)
	}
	if l, left := queue.Expire(q, 14); len(l) > 0 || !same(left, q) {
		t.Errorf("Expire at 14 = %+v, %+v", l, left)
	}
}

// P25.1, P25.3: every combination of fields, which shows the order of the errors
func TestCheck(t *testing.T) {
	name := strings.Repeat("n", api.MaxName)
	names := map[string]api.Errno{"q": api.OK, "q-1": api.OK, name: api.OK, "": api.ErrName, name + "n": api.ErrName, "Q": api.ErrName, "1q": api.ErrName, "-": api.ErrName, "q/r": api.ErrName, "q ": api.ErrName, "*": api.ErrName, "\x00": api.ErrName}
	limits := map[int]api.Errno{1: api.OK, 2: api.OK, api.MaxQueue: api.OK, 0: api.ErrRange, -1: api.ErrRange, api.MaxQueue + 1: api.ErrRange, math.MinInt: api.ErrRange, math.MaxInt: api.ErrRange}
	counts := map[int]api.Errno{0: api.OK, 1: api.OK, api.MaxTick: api.OK, -1: api.ErrRange, api.MaxTick + 1: api.ErrRange, math.MinInt: api.ErrRange, math.MaxInt: api.ErrRange}
	for n, first := range names {
		for limit, second := range limits {
			for ttl, third := range counts {
				for attempts, fourth := range counts {
					for dead, fifth := range names {
						if dead == "" {
							fifth = api.OK
						}
						s := api.Spec{Name: n, Max: limit, TTL: ttl, Attempts: attempts, Dead: dead}
						checkSpec(t, s, cmp.Or(first, second, third, fourth, fifth))
					}
				}
			}
		}
	}
}

// P25.2: each field at and beyond its edges
func TestValid(t *testing.T) {
	checkValid(t, holding(plain(1), 1), api.OK)
	checkValid(t, holding(plain(1), api.MaxNumber), api.OK)
	for _, next := range []int{0, -1, math.MinInt, api.MaxNumber + 1, math.MaxInt} {
		checkValid(t, holding(plain(1), next), api.ErrRange)
		checkValid(t, holding(plain(1), next, entry(1, 0)), api.ErrRange)
		checkValid(t, holding(plain(0), next), api.ErrRange)
		checkValid(t, holding(api.Spec{}, next), api.ErrName)
	}
	checkValid(t, api.Queue{}, api.ErrName)
	for _, c := range []struct {
		change func(*api.Entry)
		want   api.Errno
	}{
		{func(e *api.Entry) { e.Number = 1 }, api.OK}, {func(e *api.Entry) { e.Number = 9 }, api.OK}, {func(e *api.Entry) { e.Number = 10 }, api.ErrRange}, {func(e *api.Entry) { e.Number = 11 }, api.ErrRange}, {func(e *api.Entry) { e.Number = 0 }, api.ErrRange}, {func(e *api.Entry) { e.Number = -1 }, api.ErrRange}, {func(e *api.Entry) { e.Number = math.MinInt }, api.ErrRange}, {func(e *api.Entry) { e.Number = math.MaxInt }, api.ErrRange},
		{func(e *api.Entry) { e.Arrived = 0 }, api.OK}, {func(e *api.Entry) { e.Arrived = api.MaxTick }, api.OK}, {func(e *api.Entry) { e.Arrived = api.MaxTick + 1 }, api.ErrRange}, {func(e *api.Entry) { e.Arrived = -1 }, api.ErrRange},
		{func(e *api.Entry) { e.Attempts = 0 }, api.OK}, {func(e *api.Entry) { e.Attempts = api.MaxNumber }, api.OK}, {func(e *api.Entry) { e.Attempts = api.MaxNumber + 1 }, api.ErrRange}, {func(e *api.Entry) { e.Attempts = -1 }, api.ErrRange},
		{func(e *api.Entry) { e.Message = api.Message{} }, api.ErrTopic}, {func(e *api.Entry) { e.Message.Topic = "#" }, api.ErrTopic}, {func(e *api.Entry) { e.Message.Payload = strings.Repeat("x", api.MaxPayload+1) }, api.ErrTooLong}, {func(e *api.Entry) { e.Message.Level = 3 }, api.ErrLevel}, {func(e *api.Entry) { e.Message.Priority = api.MaxPriority + 1 }, api.ErrRange}, {func(e *api.Entry) { e.Message.From = "X" }, api.ErrName}, {func(e *api.Entry) { e.Message.Props = []api.Prop{{Key: "b"}, {Key: "a"}} }, api.ErrProps},
		{func(e *api.Entry) { e.Number, e.Message.Topic = 10, "" }, api.ErrRange}, {func(e *api.Entry) { e.Arrived, e.Message.Topic = -1, "" }, api.ErrRange}, {func(e *api.Entry) { e.Attempts, e.Message.Topic = -1, "" }, api.ErrRange},
	} {
		e := entry(5, 3)
		c.change(&e)
		checkValid(t, holding(plain(1), 10, e), c.want)
	}
	checkValid(t, holding(plain(1), 1, entry(1, 0)), api.ErrRange)
	checkValid(t, holding(plain(1), 2, entry(1, 0)), api.OK)
	checkValid(t, holding(plain(1), api.MaxNumber, entry(api.MaxNumber-1, 0)), api.OK)
	checkValid(t, holding(plain(1), api.MaxNumber, entry(api.MaxNumber, 0)), api.ErrRange)
}

// P25.2: the order of entries, and numbers that are there twice
func TestValidOrder(t *testing.T) {
	late := entry(5, 0)
	late.Attempts = -1
	for _, c := range []struct {
		l    []api.Entry
		want api.Errno
	}{
		{[]api.Entry{entry(1, 0), entry(2, 0)}, api.OK}, {[]api.Entry{entry(2, 0), entry(1, 0)}, api.ErrOrder}, {[]api.Entry{entry(2, 1), entry(1, 0)}, api.OK}, {[]api.Entry{entry(1, 0), entry(2, 1)}, api.ErrOrder}, {[]api.Entry{entry(1, 9), entry(2, 9), entry(3, 4), entry(7, 4), entry(4, 0), entry(8, 0)}, api.OK},
		{[]api.Entry{entry(1, 0), entry(1, 0)}, api.ErrDuplicate}, {[]api.Entry{entry(1, 1), entry(1, 0)}, api.ErrDuplicate}, {[]api.Entry{entry(1, 0), entry(1, 1)}, api.ErrDuplicate}, {[]api.Entry{entry(1, 5), entry(2, 4), entry(3, 3), entry(1, 2)}, api.ErrDuplicate}, {[]api.Entry{entry(1, 5), entry(3, 3), entry(2, 4), entry(1, 2)}, api.ErrOrder}, {[]api.Entry{entry(1, 5), entry(3, 3), entry(1, 5), entry(1, 2)}, api.ErrDuplicate},
		{[]api.Entry{entry(2, 0), entry(1, 0), late}, api.ErrOrder}, {[]api.Entry{entry(1, 1), entry(1, 0), late}, api.ErrDuplicate}, {[]api.Entry{late, entry(2, 0), entry(1, 0)}, api.ErrRange}, {[]api.Entry{entry(5, 0), entry(6, 0), late}, api.ErrRange},
	} {
		checkValid(t, holding(plain(1), 9, c.l...), c.want)
	}
}

// P25.2: more entries than Max, up to the most that there may be
func TestValidLong(t *testing.T) {
	checkValid(t, many(1, 2), api.OK)
	checkValid(t, many(api.MaxQueue, api.MaxQueue+1), api.OK)
	checkValid(t, many(1, mostReady), api.OK)
	long := many(1, mostReady+1)
	checkValid(t, long, api.ErrTooLong)
	long.Ready[0].Number = -1
	checkValid(t, long, api.ErrTooLong)
	long.Next = 0
	checkValid(t, long, api.ErrRange)
	long.Spec.Name = ""
	checkValid(t, long, api.ErrName)
	last := many(1, mostReady)
	last.Ready[mostReady-1].Number = 1
	checkValid(t, last, api.ErrDuplicate)
}

// orders returns all lists of n of these numbers.
func orders(n int, of ...int) [][]int {
	lists := [][]int{nil}
	for range n {
		var next [][]int
		for _, l := range lists {
			for _, x := range of {
				next = append(next, append(slices.Clone(l), x))
			}
		}
		lists = next
	}
	return lists
}

// P25.4, P25.5 and P25.9: messages with all orders of priorities
func TestPush(t *testing.T) {
	for n := range 6 {
		for _, priorities := range orders(n, 0, 4, 9) {
			q, _ := queue.New(plain(n + 1))
			for i, p := range priorities {
				q = checkPush(t, q, full(p, i), 100+i, api.OK)
				if q.Next != i+2 || len(q.Ready) != i+1 {
					t.Fatalf("%d messages: %+v", i+1, q)
				}
			}
			for range n {
				e, rest, ok := checkPop(t, q)
				if !ok || e.Arrived != 99+e.Number || e.Attempts != 0 || !message.Same(e.Message, full(priorities[e.Number-1], e.Number-1)) {
					t.Fatalf("Pop of %+v = %+v", q, e)
				}
				if len(rest.Ready) > 0 && !precedes(e, rest.Ready[0]) {
					t.Fatalf("Pop of %+v = %+v", q, e)
				}
				q = rest
			}
			checkPop(t, q)
		}
	}
}

// P25.4: every combination of messages, instants and queues, which shows the order of the errors
func TestPushErrors(t *testing.T) {
	messages := map[api.Errno]api.Message{api.OK: full(3, 4), api.ErrTopic: {}, api.ErrTooLong: {Topic: "t", Payload: strings.Repeat("x", api.MaxPayload+1)}, api.ErrLevel: {Topic: "t", Level: 3}, api.ErrRange: {Topic: "t", Priority: 10}, api.ErrName: {Topic: "t", From: "X"}, api.ErrProps: {Topic: "t", Props: []api.Prop{{Key: "B"}}}}
	instants := map[int]api.Errno{0: api.OK, 1: api.OK, api.MaxTick: api.OK, -1: api.ErrRange, api.MaxTick + 1: api.ErrRange, math.MinInt: api.ErrRange, math.MaxInt: api.ErrRange}
	queues := []struct {
		q    api.Queue
		want api.Errno
	}{
		{holding(plain(1), 1), api.OK}, {holding(plain(2), 8, entry(7, 3)), api.OK}, {holding(plain(1), 8, entry(7, 3)), api.ErrFull}, {holding(plain(1), 8, entry(7, 3), entry(2, 1)), api.ErrFull}, {many(api.MaxQueue, api.MaxQueue-1), api.OK}, {many(api.MaxQueue, api.MaxQueue), api.ErrFull}, {many(api.MaxQueue, api.MaxQueue+1), api.ErrFull}, {many(1, mostReady), api.ErrFull},
		{holding(plain(1), api.MaxNumber-1), api.OK}, {holding(plain(1), api.MaxNumber), api.ErrFull}, {holding(plain(2), api.MaxNumber, entry(1, 1)), api.ErrFull}, {holding(plain(2), api.MaxNumber-1, entry(1, 1)), api.OK},
	}
	for first, m := range messages {
		for now, second := range instants {
			for _, c := range queues {
				checkPush(t, c.q, m, now, cmp.Or(first, second, c.want))
			}
		}
	}
}

// P25.4: a message that is expired already is pushed as others are; the largest number is that before MaxNumber.
func TestPushEdges(t *testing.T) {
	m := msg(0)
	m.Expires = 1
	checkPush(t, holding(api.Spec{Name: "q", Max: 1, TTL: 1}, 1), m, 5, api.OK)
	q := checkPush(t, holding(plain(9), api.MaxNumber-1, entry(3, 5)), msg(9), api.MaxTick, api.OK)
	if q.Next != api.MaxNumber || q.Ready[0].Number != api.MaxNumber-1 || q.Ready[0].Arrived != api.MaxTick {
		t.Errorf("the last number: %+v", q)
	}
	checkPush(t, q, msg(9), api.MaxTick, api.ErrFull)
}

// P25.5
func TestPop(t *testing.T) {
	for _, q := range []api.Queue{{}, holding(plain(1), 1), holding(plain(1), 9), {Spec: plain(1), Next: 9, Ready: []api.Entry{}}, {Next: -1}} {
		checkPop(t, q)
	}
	q := holding(api.Spec{Name: "q", Max: 1, TTL: 1, Attempts: 1, Dead: "d"}, 9, entry(5, 9), entry(2, 4), entry(8, 4), entry(1, 0))
	for _, want := range []int{5, 2, 8, 1} {
		e, rest, ok := checkPop(t, q)
		if !ok || !sameEntry(e, entry(want, e.Message.Priority)) {
			t.Errorf("Pop = %+v, want %d", e, want)
		}
		q = rest
	}
}

// P25.6: every entry of every queue of five leaves and returns to its position, whatever Max is.
func TestReturn(t *testing.T) {
	for _, priorities := range orders(5, 0, 3, 9) {
		q := holding(plain(1), 6)
		for i, p := range priorities {
			q = joined(q, entry(i+1, p))
		}
		for i, e := range q.Ready {
			rest := holding(q.Spec, q.Next, slices.Delete(slices.Clone(q.Ready), i, i+1)...)
			e.Attempts += 7
			if got := checkReturn(t, rest, e, api.OK); got.Ready[i].Attempts != e.Attempts || len(got.Ready) != 5 {
				t.Fatalf("Return of %+v = %v", e, numbers(got.Ready))
			}
			checkReturn(t, q, e, api.ErrExists)
		}
	}
}

// P25.6: every combination of fields and queues, which shows the order of the errors
func TestReturnErrors(t *testing.T) {
	messages := map[api.Errno]api.Message{api.OK: full(3, 4), api.ErrTopic: {}, api.ErrTooLong: {Topic: "t", Payload: strings.Repeat("x", api.MaxPayload+1)}, api.ErrLevel: {Topic: "t", Level: -1}, api.ErrName: {Topic: "t", From: "X"}, api.ErrProps: {Topic: "t", Props: []api.Prop{{Key: "B"}}}}
	counts := map[int]api.Errno{0: api.OK, 1: api.OK, api.MaxTick: api.OK, -1: api.ErrRange, api.MaxTick + 1: api.ErrRange, math.MinInt: api.ErrRange, math.MaxInt: api.ErrRange}
	queues := []api.Queue{holding(plain(1), 1), holding(plain(1), 2), holding(plain(1), 8, entry(7, 3), entry(2, 1)), holding(plain(1), 9, entry(8, 3), entry(7, 1)), holding(plain(1), api.MaxNumber, entry(7, 3)), many(1, mostReady), many(1, mostReady-1)}
	queues[6].Next = mostReady + 1
	for first, m := range messages {
		for arrived, second := range counts {
			for attempts, third := range counts {
				for i, q := range queues {
					for _, number := range []int{math.MinInt, -1, 0, 1, 7, mostReady, mostReady + 1, api.MaxNumber - 1, api.MaxNumber, math.MaxInt} {
						code := cmp.Or(second, third)
						if number < 1 || number >= q.Next {
							code = api.ErrRange
						}
						code = cmp.Or(code, first)
						if code == api.OK && slices.ContainsFunc(q.Ready, isNumbered(number)) {
							code = api.ErrExists
						}
						if got, e := queue.Return(q, api.Entry{Number: number, Arrived: arrived, Attempts: attempts, Message: m}); e != code || e != api.OK && !same(got, api.Queue{}) {
							t.Fatalf("queue %d: Return of the number %d, arrived at %d, with %d attempts and the message %+v = %d, want %d", i, number, arrived, attempts, m, e, code)
						}
					}
				}
			}
		}
	}
}

// P25.6: an entry that is in the queue with another priority exists too.
func TestReturnExists(t *testing.T) {
	q := holding(plain(9), 9, entry(5, 9), entry(2, 4), entry(8, 4), entry(1, 0))
	for _, number := range []int{5, 2, 8, 1} {
		for priority := range api.MaxPriority + 1 {
			checkReturn(t, q, entry(number, priority), api.ErrExists)
		}
	}
	for _, number := range []int{3, 4, 6, 7} {
		for priority := range api.MaxPriority + 1 {
			checkReturn(t, q, entry(number, priority), api.OK)
		}
	}
}

// P25.6: Return is full only if there are as many entries as there may be, and then an entry that is there exists.
func TestReturnFull(t *testing.T) {
	q := many(1, mostReady-1)
	q.Next += 5
	e := api.Entry{Number: q.Next - 1, Message: msg(4)}
	q = checkReturn(t, q, e, api.OK)
	checkReturn(t, q, e, api.ErrExists)
	e.Number--
	checkReturn(t, q, e, api.ErrFull)
	e.Number = mostReady - 1
	checkReturn(t, q, e, api.ErrExists)
	e.Arrived = -1
	checkReturn(t, q, e, api.ErrRange)
	_, q, _ = checkPop(t, q)
	checkReturn(t, q, api.Entry{Number: q.Next - 2, Message: msg(0)}, api.OK)
}

// P25.7: the edges of instants
func TestExpire(t *testing.T) {
	for _, c := range []struct {
		ttl, arrived, expires, now int
		expired                    bool
	}{
		{10, 5, 0, 14, false}, {10, 5, 0, 15, true}, {10, 5, 0, 16, true}, {10, 5, 0, api.MaxTick, true}, {10, 5, 0, 0, false}, {10, 5, 0, -1, false}, {0, 5, 0, 5, false}, {0, 5, 0, api.MaxTick, false}, {0, 5, 0, math.MaxInt, false}, {1, 0, 0, 0, false}, {1, 0, 0, 1, true}, {1, 5, 0, 5, false},
		{0, 5, 7, 6, false}, {0, 5, 7, 7, true}, {0, 5, 7, 8, true}, {0, 5, 3, 5, true}, {0, 5, 3, 2, false}, {10, 5, 7, 7, true}, {10, 5, 7, 6, false}, {10, 5, 20, 15, true}, {10, 5, 20, 14, false}, {10, 5, 15, 14, false}, {10, 5, 15, 15, true}, {10, 5, 3, 5, true}, {10, 5, 1, math.MinInt, false},
		{api.MaxTick, 0, 0, api.MaxTick - 1, false}, {api.MaxTick, 0, 0, api.MaxTick, true}, {api.MaxTick, 1, 0, api.MaxTick, false}, {api.MaxTick, api.MaxTick, 0, api.MaxTick, false}, {api.MaxTick, api.MaxTick, 0, 2 * api.MaxTick, true}, {api.MaxTick, api.MaxTick, 0, 2*api.MaxTick - 1, false}, {api.MaxTick, api.MaxTick, 0, math.MaxInt, true}, {1, api.MaxTick, 0, api.MaxTick, false}, {0, 0, api.MaxTick, api.MaxTick, true}, {0, 0, api.MaxTick, api.MaxTick - 1, false},
	} {
		e := api.Entry{Number: 1, Arrived: c.arrived, Message: msg(2)}
		e.Message.Expires = c.expires
		q := holding(api.Spec{Name: "q", Max: 1, TTL: c.ttl}, 2, e)
		if n := checkExpire(t, q, c.now); (n == 1) != c.expired {
			t.Errorf("%+v: %d entries are expired", c, n)
		}
	}
	checkExpire(t, holding(api.Spec{Name: "q", Max: 1, TTL: 1}, 7), 9)
}

// P25.7, P25.10: all queues of four entries of several instants, whose expired entries are not neighbours
func TestExpireOrder(t *testing.T) {
	for _, arrivals := range orders(4, 3, 4, 5) {
		for _, expires := range orders(2, 0, 8, 6) {
			q := holding(api.Spec{Name: "q", Max: 4, TTL: 3}, 5)
			for i, at := range arrivals {
				e := entry(i+1, i%2)
				e.Arrived, e.Message.Expires = at, expires[i/2]
				q = joined(q, e)
			}
			last := 0
			for now := 5; now < 10; now++ {
				n := checkExpire(t, q, now)
				if n < last {
					t.Fatalf("%v: at %d only %d entries are expired", arrivals, now, n)
				}
				last = n
			}
		}
	}
}

// randomMessage returns a message, mostly one that is valid.
func randomMessage(r *rand.Rand, number, now int) api.Message {
	m := full(r.Intn(4), number)
	m.Expires = r.Intn(2) * (now + r.Intn(20))
	if r.Intn(9) == 0 {
		m.Props = nil
	}
	if r.Intn(20) == 0 {
		m.Level = 3
	}
	return m
}

// P25.4 to P25.10: random calls, compared with the definitions; every entry is in one place.
func TestRandomCalls(t *testing.T) {
	r := rand.New(rand.NewSource(25))
	for range 150 {
		q, _ := queue.New(api.Spec{Name: "q", Max: 1 + r.Intn(12), TTL: r.Intn(2) * r.Intn(30), Attempts: r.Intn(3), Dead: "d"})
		var out, gone []api.Entry
		for i := range 120 {
			now := i / 3
			switch r.Intn(7) {
			case 0, 1, 2:
				m := randomMessage(r, i, now)
				_, code := push(q, m, now)
				if next := checkPush(t, q, m, now, code); code == api.OK {
					q = next
				}
			case 3, 4:
				if e, rest, ok := checkPop(t, q); ok {
					e.Attempts++
					out, q = append(out, e), rest
				}
			case 5:
				if len(out) > 0 {
					k := r.Intn(len(out))
					q = checkReturn(t, q, out[k], api.OK)
					checkReturn(t, q, out[k], api.ErrExists)
					out = slices.Delete(out, k, k+1)
				}
			default:
				checkExpire(t, q, now)
				l, rest := queue.Expire(q, now)
				gone, q = append(gone, l...), rest
			}
			checkValid(t, q, api.OK)
			places := slices.Sorted(slices.Values(numbers(slices.Concat(q.Ready, out, gone))))
			if len(places) != q.Next-1 || len(slices.Compact(places)) != q.Next-1 {
				t.Fatalf("after %d calls: ready %v, out %v, gone %v", i+1, numbers(q.Ready), numbers(out), numbers(gone))
			}
		}
	}
}

// P25.9: entries leave by priority and arrival, however often they leave and return in between.
func TestLeaveAndReturn(t *testing.T) {
	r := rand.New(rand.NewSource(259))
	for range 100 {
		q, _ := queue.New(plain(20))
		for i := range 20 {
			q, _ = queue.Push(q, full(r.Intn(3), i), i)
		}
		want := numbers(q.Ready)
		for range 10 {
			var out []api.Entry
			for range 1 + r.Intn(20) {
				e, rest, _ := queue.Pop(q)
				out, q = append(out, e), rest
			}
			r.Shuffle(len(out), func(i, k int) { out[i], out[k] = out[k], out[i] })
			for _, e := range out {
				q, _ = queue.Return(q, e)
			}
		}
		if !slices.Equal(numbers(q.Ready), want) {
			t.Fatalf("entries that left and returned: %v, want %v", numbers(q.Ready), want)
		}
	}
}

// roomy returns a queue with room behind the ends of its lists, which has something there.
func roomy() api.Queue {
	q := holding(api.Spec{Name: "q", Max: 9, TTL: 14}, 9, entry(5, 9), entry(2, 4), entry(8, 4), entry(1, 0), entry(3, 0), entry(4, 0))
	for i := range q.Ready {
		props := q.Ready[i].Message.Props
		q.Ready[i].Message.Props = append(props, api.Prop{Key: "z"})[:len(props)]
	}
	q.Ready = q.Ready[:4]
	return q
}

// behind shows entries and what is behind the ends of their lists.
func behind(l []api.Entry) string {
	out := show(l[:cap(l)])
	for _, e := range l[:cap(l)] {
		out += show(e.Message.Props[:cap(e.Message.Props)])
	}
	return out
}

// spoil overwrites entries, also behind the ends of their lists.
func spoil(l []api.Entry) {
	for _, e := range l[:cap(l)] {
		clear(e.Message.Props[:cap(e.Message.Props)])
	}
	clear(l[:cap(l)])
}

// P25.2, P25.4 to P25.7 and R5: arguments are not changed, and results share no memory with them
func TestMemory(t *testing.T) {
	e := entry(7, 4)
	e.Message.Props = append(e.Message.Props, api.Prop{Key: "y"})[:2]
	given := []api.Entry{e}[:1:1]
	before, shown := behind(roomy().Ready), behind(given)
	for i, results := range []func(q api.Queue) [][]api.Entry{
		func(q api.Queue) [][]api.Entry { queue.Valid(q); return nil },
		func(q api.Queue) [][]api.Entry {
			out, _ := queue.Push(q, given[0].Message, 3)
			return [][]api.Entry{out.Ready}
		},
		func(q api.Queue) [][]api.Entry {
			out, _ := queue.Return(q, given[0])
			return [][]api.Entry{out.Ready}
		},
		func(q api.Queue) [][]api.Entry {
			out, _ := queue.Return(q, entry(7, 9))
			return [][]api.Entry{out.Ready}
		},
		func(q api.Queue) [][]api.Entry {
			out, _ := queue.Return(q, q.Ready[1])
			return [][]api.Entry{out.Ready}
		},
		func(q api.Queue) [][]api.Entry {
			first, rest, _ := queue.Pop(q)
			return [][]api.Entry{{first}, rest.Ready}
		},
		func(q api.Queue) [][]api.Entry { l, rest := queue.Expire(q, 28); return [][]api.Entry{l, rest.Ready} },
		func(q api.Queue) [][]api.Entry {
			l, rest := queue.Expire(q, api.MaxTick)
			return [][]api.Entry{l, rest.Ready}
		},
		func(q api.Queue) [][]api.Entry { l, rest := queue.Expire(q, 0); return [][]api.Entry{l, rest.Ready} },
	} {
		q := roomy()
		out := results(q)
		if behind(q.Ready) != before || behind(given) != shown {
			t.Errorf("case %d: an argument is changed: %s", i, behind(q.Ready))
		}
		for k, l := range out {
			others := out[k+1:]
			text := ""
			for _, other := range others {
				text += behind(other)
			}
			spoil(l)
			for _, other := range others {
				if !strings.HasPrefix(text, behind(other)) {
					t.Errorf("case %d: results share memory with each other", i)
				}
				text = strings.TrimPrefix(text, behind(other))
			}
		}
		if behind(q.Ready) != before || behind(given) != shown {
			t.Errorf("case %d: an argument shares memory with the result: %s", i, behind(q.Ready))
		}
	}
}

// R5: entries of one list of properties share no memory in the result.
func TestMemoryWithin(t *testing.T) {
	m := full(1, 1)
	q, _ := queue.New(plain(3))
	q.Ready = []api.Entry{{Number: 1, Message: m}}
	q.Next = 2
	q, _ = queue.Push(q, m, 1)
	q, _ = queue.Return(holding(q.Spec, 9, q.Ready...), api.Entry{Number: 5, Message: m})
	clear(q.Ready[0].Message.Props[:cap(q.Ready[0].Message.Props)])
	clear(q.Ready[2].Message.Props[:cap(q.Ready[2].Message.Props)])
	if !message.Same(q.Ready[1].Message, m) || !message.Same(m, full(1, 1)) {
		t.Errorf("entries share memory: %+v", q)
	}
}

// R1: every call returns, also with queues and entries that are not valid
func TestInvalid(t *testing.T) {
	odd := []int{math.MinInt, -1, 0, 1, 2, 9, api.MaxTick, math.MaxInt}
	var l []api.Entry
	for i, x := range odd {
		for k, y := range odd {
			e := api.Entry{Number: x, Arrived: y, Attempts: odd[(i+k)%len(odd)], Message: full(odd[(i+3*k)%len(odd)], y)}
			if i%2 == 0 {
				e.Message = api.Message{Topic: "t", Priority: i, Expires: y}
			}
			l = append(l, e)
		}
	}
	for i, x := range odd {
		for k, y := range odd {
			s := api.Spec{Name: strings.Repeat("q", i), Max: x, TTL: y, Attempts: x, Dead: "#"}
			for _, q := range []api.Queue{{Spec: s, Next: y}, {Spec: s, Next: y, Ready: l[i*k:]}, {Spec: s, Next: y, Ready: slices.Repeat(l, 70)}} {
				queue.Check(q.Spec)
				queue.New(q.Spec)
				queue.Valid(q)
				queue.Push(q, msg(k), 5)
				queue.Push(q, api.Message{}, x)
				queue.Pop(q)
				queue.Return(q, l[i+k])
				queue.Return(q, entry(1, 1))
				queue.Expire(q, x)
			}
		}
	}
}
