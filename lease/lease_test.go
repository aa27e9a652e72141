package lease_test

import (
	"cmp"
	"fmt"
	"math"
	"math/rand"
	"slices"
	"sort"
	"strings"
	"testing"

	"broker/api"
	"broker/lease"
	"broker/message"
	"broker/queue"
	"broker/topic"
)

// mostReady is how many entries a valid queue has at most.
const mostReady = api.MaxRecords + api.MaxQueue

// full returns a message in which no field is zero; its list of properties has room behind its end.
func full(priority, number int) api.Message {
	props := make([]api.Prop, 0, 9)
	props = append(props, api.Prop{Key: "k", Value: fmt.Sprint(number)}, api.Prop{Key: "n", Value: "v"})
	return api.Message{Topic: "a/b", Payload: "p\x00\xff", Level: 2, Retain: true, Priority: priority, Expires: 7, From: "x-1", Seq: number, Props: props}
}

// entry returns an entry with a number, a priority and 1 to 3 attempts.
func entry(number, priority int) api.Entry {
	return api.Entry{Number: number, Arrived: 10 + number%100, Attempts: 1 + number%3, Message: full(priority, number)}
}

// given returns a delivery of an entry of the priority 1.
func given(tag, owner int, name string, number int) api.Lease {
	return api.Lease{Tag: tag, Owner: owner, Queue: name, Entry: entry(number, 1)}
}

// small returns a delivery of an entry without properties.
func small(tag, owner int, name string, number int) api.Lease {
	return api.Lease{Tag: tag, Owner: owner, Queue: name, Entry: api.Entry{Number: number, Attempts: 1, Message: api.Message{Topic: "t"}}}
}

// many returns n deliveries of the queue q, whose tags and numbers are 1 to n.
func many(n int) []api.Lease {
	var l []api.Lease
	for i := range n {
		l = append(l, small(i+1, i%3, "q", i+1))
	}
	return l
}

// holding returns the queue with this name and these entries.
func holding(name string, next int, l ...api.Entry) api.Queue {
	return api.Queue{Spec: api.Spec{Name: name, Max: 2}, Next: next, Ready: l}
}

// sameEntry reports whether two entries are equal.
func sameEntry(a, b api.Entry) bool {
	return a.Number == b.Number && a.Arrived == b.Arrived && a.Attempts == b.Attempts && message.Same(a.Message, b.Message)
}

// sameLease reports whether two deliveries are equal.
func sameLease(a, b api.Lease) bool {
	return a.Tag == b.Tag && a.Owner == b.Owner && a.Queue == b.Queue && a.Until == b.Until && sameEntry(a.Entry, b.Entry)
}

// same reports whether two lists of deliveries are equal.
func same(a, b []api.Lease) bool { return slices.EqualFunc(a, b, sameLease) }

// sameQueue reports whether two queues are equal.
func sameQueue(a, b api.Queue) bool {
	return a.Spec == b.Spec && a.Next == b.Next && slices.EqualFunc(a.Ready, b.Ready, sameEntry)
}

// show returns a value as text that is not too long.
func show(v any) string { return fmt.Sprintf("%.999s", fmt.Sprintf("%+v", v)) }

// tags returns the delivery tags of deliveries.
func tags(l []api.Lease) []int {
	var out []int
	for _, d := range l {
		out = append(out, d.Tag)
	}
	return out
}

// numbers returns the numbers of entries.
func numbers(l []api.Entry) []int {
	var out []int
	for _, e := range l {
		out = append(out, e.Number)
	}
	return out
}

// entryError is the error of the entry of a delivery, as the chapter defines it.
func entryError(e api.Entry) api.Errno {
	if e.Number < 1 || e.Number > api.MaxNumber-1 || e.Arrived < 0 || e.Arrived > api.MaxTick || e.Attempts < 1 || e.Attempts > api.MaxNumber {
		return api.ErrRange
	}
	return message.Check(e.Message)
}

// ownError is the error of a delivery alone, as the chapter defines it.
func ownError(d api.Lease) api.Errno {
	if d.Tag < 1 || d.Tag > api.MaxNumber || d.Owner < 0 || d.Owner > api.MaxNumber || d.Until < 0 || d.Until > api.MaxTick {
		return api.ErrRange
	}
	if !topic.Name(d.Queue) {
		return api.ErrName
	}
	return entryError(d.Entry)
}

// sameOrigin returns what says whether a delivery is of this queue and of the entry with this number.
func sameOrigin(name string, number int) func(api.Lease) bool {
	return func(d api.Lease) bool { return d.Queue == name && d.Entry.Number == number }
}

// listError is Check as the chapter defines it.
func listError(l []api.Lease) api.Errno {
	if len(l) > api.MaxRecords {
		return api.ErrTooLong
	}
	for i, d := range l {
		if code := ownError(d); code != api.OK {
			return code
		}
		if i > 0 && d.Tag <= l[i-1].Tag {
			return api.ErrOrder
		}
		if slices.ContainsFunc(l[:i], sameOrigin(d.Queue, d.Entry.Number)) {
			return api.ErrDuplicate
		}
	}
	return api.OK
}

// give is Give as the chapter defines it.
func give(l []api.Lease, tag, owner int, name string, e api.Entry) (api.Lease, api.Errno) {
	if tag < 1 || tag > api.MaxNumber || owner < 0 || owner > api.MaxNumber {
		return api.Lease{}, api.ErrRange
	}
	if !topic.Name(name) {
		return api.Lease{}, api.ErrName
	}
	if e.Number < 1 || e.Number > api.MaxNumber-1 || e.Arrived < 0 || e.Arrived > api.MaxTick || e.Attempts < 0 || e.Attempts > api.MaxNumber-1 {
		return api.Lease{}, api.ErrRange
	}
	if code := message.Check(e.Message); code != api.OK {
		return api.Lease{}, code
	}
	for _, d := range l {
		if tag <= d.Tag {
			return api.Lease{}, api.ErrOrder
		}
	}
	if slices.ContainsFunc(l, sameOrigin(name, e.Number)) {
		return api.Lease{}, api.ErrExists
	}
	if len(l) == api.MaxRecords {
		return api.Lease{}, api.ErrFull
	}
	return api.Lease{Tag: tag, Owner: owner, Queue: name, Entry: api.Entry{Number: e.Number, Arrived: e.Arrived, Attempts: e.Attempts + 1, Message: e.Message}}, api.OK
}

// parts returns the deliveries that are chosen and the others.
func parts(l []api.Lease, chosen func(api.Lease) bool) ([]api.Lease, []api.Lease) {
	var yes, no []api.Lease
	for _, d := range l {
		if chosen(d) {
			yes = append(yes, d)
		} else {
			no = append(no, d)
		}
	}
	return yes, no
}

// back is Back as the chapter defines it: entries at their positions, in the order of queues.
func back(q api.Queue, l []api.Lease) (api.Queue, api.Errno) {
	for _, d := range l {
		e := d.Entry
		if d.Queue != q.Spec.Name {
			continue
		}
		if e.Number >= q.Next {
			return api.Queue{}, api.ErrRange
		}
		if slices.Contains(numbers(q.Ready), e.Number) {
			return api.Queue{}, api.ErrExists
		}
		if len(q.Ready) == mostReady {
			return api.Queue{}, api.ErrFull
		}
		ready := append(slices.Clone(q.Ready), e)
		sort.SliceStable(ready, func(i, k int) bool {
			a, b := ready[i], ready[k]
			return a.Message.Priority > b.Message.Priority || a.Message.Priority == b.Message.Priority && a.Number < b.Number
		})
		q.Ready = ready
	}
	return q, api.OK
}

// checkList compares Check with its definition and with what is expected.
func checkList(t *testing.T, l []api.Lease, want api.Errno) {
	t.Helper()
	if def := listError(l); def != want {
		t.Fatalf("by definition, Check of %s = %d, want %d", show(l), def, want)
	}
	if got := lease.Check(l); got != want {
		t.Fatalf("Check of %s = %d, want %d", show(l), got, want)
	}
}

// checkGive compares Give with its definition and with what is expected.
func checkGive(t *testing.T, l []api.Lease, tag, owner int, name string, e api.Entry, want api.Errno) []api.Lease {
	t.Helper()
	d, code := give(l, tag, owner, name, e)
	if code != want {
		t.Fatalf("by definition, Give of %s with the tag %d from %q to %d, behind %v = %d, want %d", show(e), tag, name, owner, tags(l), code, want)
	}
	var list []api.Lease
	if want == api.OK {
		list = append(slices.Clone(l), d)
	}
	got, made, code := lease.Give(l, tag, owner, name, e)
	if code != want || !same(got, list) || !sameLease(made, d) {
		t.Fatalf("Give of %s with the tag %d from %q to %d, behind %v = %v, %s, %d, want %v, %s, %d", show(e), tag, name, owner, tags(l), tags(got), show(made), code, tags(list), show(d), want)
	}
	return got
}

// checkSettle compares Settle with its definition and with the tags that are expected, none for an error.
func checkSettle(t *testing.T, l []api.Lease, owner, tag int, all bool, want ...int) []api.Lease {
	t.Helper()
	code := api.ErrNotFound
	if slices.ContainsFunc(l, func(d api.Lease) bool { return d.Tag == tag && d.Owner == owner }) {
		code = api.OK
	}
	taken, left := parts(l, func(d api.Lease) bool {
		return code == api.OK && d.Owner == owner && (d.Tag == tag || all && d.Tag < tag)
	})
	if code != api.OK {
		left = nil
	}
	if !slices.Equal(tags(taken), want) {
		t.Fatalf("by definition, Settle of %d for %d (all: %v) in %v = %v, want %v", tag, owner, all, tags(l), tags(taken), want)
	}
	rest, out, e := lease.Settle(l, owner, tag, all)
	if e != code || !same(rest, left) || !same(out, taken) {
		t.Fatalf("Settle of %d for %d (all: %v) in %v = %v, %v, %d, want %v, %v, %d", tag, owner, all, tags(l), tags(rest), tags(out), e, tags(left), tags(taken), code)
	}
	return rest
}

// checkRecall compares Recall and Count with their definitions and with the tags that are expected.
func checkRecall(t *testing.T, l []api.Lease, owner int, want ...int) []api.Lease {
	t.Helper()
	taken, left := parts(l, func(d api.Lease) bool { return d.Owner == owner })
	if !slices.Equal(tags(taken), want) {
		t.Fatalf("by definition, Recall of %d in %s = %v, want %v", owner, show(l), tags(taken), want)
	}
	rest, out := lease.Recall(l, owner)
	if !same(rest, left) || !same(out, taken) {
		t.Fatalf("Recall of %d in %v = %v, %v, want %v, %v", owner, tags(l), tags(rest), tags(out), tags(left), want)
	}
	if n := lease.Count(l, owner); n != len(want) {
		t.Fatalf("Count of %d in %v = %d, want %d", owner, tags(l), n, len(want))
	}
	if n := lease.Count(rest, owner); n != 0 {
		t.Fatalf("Count of %d in %v = %d after Recall", owner, tags(rest), n)
	}
	return rest
}

// checkBack compares Back with its definition and with what is expected.
func checkBack(t *testing.T, q api.Queue, l []api.Lease, want api.Errno) api.Queue {
	t.Helper()
	out, code := back(q, l)
	if code != want {
		t.Fatalf("by definition, Back of %v to %v = %d, want %d", tags(l), numbers(q.Ready), code, want)
	}
	got, code := lease.Back(q, l)
	if code != want || !sameQueue(got, out) {
		t.Fatalf("Back of %s to %s = %s, %d, want %s, %d", show(l), show(q), show(got), code, show(out), want)
	}
	if want == api.OK && queue.Valid(q) == api.OK && queue.Valid(got) != api.OK {
		t.Fatalf("Back returns a queue that is not valid: %s", show(got))
	}
	return got
}

// P27.2 to P27.5, the examples
func TestExamples(t *testing.T) {
	l := []api.Lease{given(1, 7, "q", 5), given(2, 8, "q", 6), given(3, 7, "q", 7)}
	checkSettle(t, l, 7, 3, false, 3)
	checkSettle(t, l, 7, 3, true, 1, 3)
	checkSettle(t, l, 8, 3, false)
	checkSettle(t, l, 8, 3, true)

	e := api.Entry{Number: 2, Arrived: 5, Message: api.Message{Topic: "t"}}
	got := checkGive(t, l[:2], 3, 7, "q", e, api.OK)
	if got[2].Entry.Attempts != 1 || got[2].Until != 0 {
		t.Errorf("the delivery of a new entry: %+v", got[2])
	}
	checkGive(t, got, 3, 7, "q", api.Entry{Number: 3, Message: e.Message}, api.ErrOrder)

	q := holding("q", 3, api.Entry{Number: 1, Message: api.Message{Topic: "t"}})
	e.Attempts = 1
	if out := checkBack(t, q, got[2:], api.OK); len(out.Ready) != 2 || !sameEntry(out.Ready[1], e) {
		t.Errorf("Back of the entry 2: %+v", out)
	}
}

// messages are one that is valid, and others with each of their errors.
func messages() map[api.Errno]api.Message {
	return map[api.Errno]api.Message{api.OK: full(3, 4), api.ErrTopic: {}, api.ErrTooLong: {Topic: "t", Payload: strings.Repeat("x", api.MaxPayload+1)}, api.ErrLevel: {Topic: "t", Level: 3}, api.ErrRange: {Topic: "t", Priority: 10}, api.ErrName: {Topic: "t", From: "X"}, api.ErrProps: {Topic: "t", Props: []api.Prop{{Key: "B"}}}}
}

// edges are the numbers at and beyond both ends of a range.
func edges(first, last int) []int {
	return []int{first, last, first - 1, last + 1, math.MinInt, math.MaxInt, first + 1, last - 1, -first}
}

// P27.1, P27.2: every field at the edges of its range
func TestRanges(t *testing.T) {
	for _, c := range []struct {
		first, last int
		field       func(d *api.Lease) *int
		argument    bool // Give gets it as it is
	}{
		{1, api.MaxNumber, func(d *api.Lease) *int { return &d.Tag }, true},
		{0, api.MaxNumber, func(d *api.Lease) *int { return &d.Owner }, true},
		{0, api.MaxTick, func(d *api.Lease) *int { return &d.Until }, false},
		{1, api.MaxNumber - 1, func(d *api.Lease) *int { return &d.Entry.Number }, true},
		{0, api.MaxTick, func(d *api.Lease) *int { return &d.Entry.Arrived }, true},
		{1, api.MaxNumber, func(d *api.Lease) *int { return &d.Entry.Attempts }, false},
	} {
		for _, n := range edges(c.first, c.last) {
			want := api.OK
			if n < c.first || n > c.last {
				want = api.ErrRange
			}
			d := given(5, 6, "q", 7)
			*c.field(&d) = n
			checkList(t, []api.Lease{d}, want)
			if c.argument {
				checkGive(t, nil, d.Tag, d.Owner, d.Queue, d.Entry, want)
			}
		}
	}
	for _, n := range edges(0, api.MaxNumber-1) {
		want := api.OK
		if n < 0 || n > api.MaxNumber-1 {
			want = api.ErrRange
		}
		e := entry(7, 1)
		e.Attempts = n
		if l := checkGive(t, nil, 1, 0, "q", e, want); want == api.OK {
			checkList(t, l, api.OK)
		}
	}
}

// P27.1, P27.2: every combination of errors, which shows their order
func TestErrors(t *testing.T) {
	name := strings.Repeat("n", api.MaxName)
	names := map[string]api.Errno{"q": api.OK, name: api.OK, "q-1": api.OK, "": api.ErrName, name + "n": api.ErrName, "Q": api.ErrName, "1": api.ErrName, "a/b": api.ErrName, "\x00": api.ErrName}
	others := []api.Lease{given(3, 0, "q", 7), given(5, 1, name, 9), given(9, 0, "q", 9)}
	sound := map[int]api.Errno{1: api.OK, -1: api.ErrRange}
	for tag := range 12 {
		for owner, second := range sound {
			for queue, third := range names {
				for number := -1; number < 11; number++ {
					for arrived, fourth := range sound {
						for attempts, fifth := range sound {
							for sixth, m := range messages() {
								var first, place, last api.Errno
								if tag < 1 {
									first = api.ErrRange
								}
								if number < 1 {
									place = api.ErrRange
								}
								if slices.ContainsFunc(others, sameOrigin(queue, number)) {
									last = api.ErrExists
								}
								if tag <= 9 {
									last = api.ErrOrder
								}
								e := api.Entry{Number: number, Arrived: arrived, Attempts: attempts, Message: m}
								code := cmp.Or(first, second, third, place, fourth, fifth, sixth, last)
								checkGive(t, others, tag, owner, queue, e, code)
								if code == api.ErrExists {
									code = api.ErrDuplicate
								}
								checkList(t, append(others[:3:3], api.Lease{Tag: tag, Owner: owner, Queue: queue, Entry: e}), code)
							}
						}
					}
				}
			}
		}
	}
}

// P27.1: Until is checked, and so are the preceding deliveries before the next one.
func TestCheck(t *testing.T) {
	late := given(2, 0, "q", 2)
	late.Until = api.MaxTick + 1
	kept := given(1, 0, "q", 1)
	kept.Until = api.MaxTick
	nameless := given(2, 0, "", 2)
	nameless.Entry.Number = 0
	long := many(api.MaxRecords)
	for _, c := range []struct {
		l    []api.Lease
		want api.Errno
	}{
		{nil, api.OK}, {[]api.Lease{}, api.OK}, {[]api.Lease{kept}, api.OK}, {[]api.Lease{kept, late}, api.ErrRange}, {[]api.Lease{kept, nameless}, api.ErrName}, {[]api.Lease{late, nameless}, api.ErrRange}, {[]api.Lease{nameless, late}, api.ErrName},
		{[]api.Lease{given(2, 0, "q", 1), given(2, 0, "q", 1)}, api.ErrOrder}, {[]api.Lease{given(2, 0, "q", 1), given(2, 0, "q", 2)}, api.ErrOrder}, {[]api.Lease{given(2, 0, "q", 1), given(1, 0, "q", 2)}, api.ErrOrder}, {[]api.Lease{given(2, 0, "q", 1), given(1, 0, "q", 2), late}, api.ErrOrder},
		{[]api.Lease{given(1, 0, "q", 1), given(2, 1, "q", 1)}, api.ErrDuplicate}, {[]api.Lease{given(1, 0, "q", 1), given(2, 0, "p", 1), given(3, 0, "q", 2), given(4, 5, "q", 1)}, api.ErrDuplicate}, {[]api.Lease{given(1, 0, "q", 1), given(2, 0, "p", 1), given(3, 0, "q", 2), given(4, 5, "p", 2)}, api.OK}, {[]api.Lease{given(1, 0, "q", 2), given(3, 0, "q", 1), given(9, 0, "p", 1)}, api.OK}, {[]api.Lease{given(1, 0, "q", 1), given(2, 1, "q", 1), nameless}, api.ErrDuplicate},
		{[]api.Lease{given(1, 0, "q1", 1), given(2, 0, "q", 11)}, api.OK},
		{long, api.OK}, {append(long[:api.MaxRecords:api.MaxRecords], small(api.MaxRecords+1, 0, "q", api.MaxRecords+1)), api.ErrTooLong}, {append(long[:api.MaxRecords:api.MaxRecords], api.Lease{}), api.ErrTooLong}, {make([]api.Lease, api.MaxRecords+1), api.ErrTooLong}, {make([]api.Lease, api.MaxRecords), api.ErrRange},
		{append(long[:api.MaxRecords-1:api.MaxRecords-1], small(api.MaxRecords+1, 0, "q", 1)), api.ErrDuplicate},
	} {
		checkList(t, c.l, c.want)
	}
}

// P27.2: a full list has all other errors before ErrFull.
func TestGiveFull(t *testing.T) {
	l := many(api.MaxRecords - 1)
	e := entry(api.MaxRecords, 1)
	l = checkGive(t, l, api.MaxRecords, 4, "q", e, api.OK)
	checkGive(t, l, api.MaxRecords+1, 4, "q", entry(api.MaxRecords+1, 1), api.ErrFull)
	checkGive(t, l, api.MaxNumber, 4, "p", e, api.ErrFull)
	checkGive(t, l, api.MaxRecords+1, 4, "q", e, api.ErrExists)
	checkGive(t, l, api.MaxRecords+1, 4, "q", entry(1, 1), api.ErrExists)
	checkGive(t, l, api.MaxRecords, 4, "p", e, api.ErrOrder)
	checkGive(t, l, api.MaxRecords+1, 4, "P", e, api.ErrName)
	l = checkSettle(t, l, 0, 1, false, 1)
	checkGive(t, l, api.MaxRecords+1, 4, "p", e, api.OK)
}

// P27.2: the last delivery tag, and the delivery of an entry that was delivered before
func TestGiveEdges(t *testing.T) {
	e := entry(api.MaxNumber-1, 9)
	e.Attempts = api.MaxNumber - 1
	l := checkGive(t, []api.Lease{given(api.MaxNumber-1, 0, "q", 1)}, api.MaxNumber, api.MaxNumber, strings.Repeat("q", api.MaxName), e, api.OK)
	if l[1].Entry.Attempts != api.MaxNumber || l[1].Owner != api.MaxNumber {
		t.Errorf("the last delivery: %+v", l[1])
	}
	checkList(t, l, api.OK)
	checkGive(t, l, api.MaxNumber, 0, "q", entry(2, 1), api.ErrOrder)
	checkGive(t, l[1:], 5, 0, "q", entry(2, 1), api.ErrOrder)
}

// P27.3, P27.4: all lists of five deliveries of three owners, whose tags leave gaps
func TestSettleAndRecall(t *testing.T) {
	for n := range 243 {
		var l []api.Lease
		for i := range 5 {
			owner := n / []int{1, 3, 9, 27, 81}[i] % 3
			l = append(l, given(2*i+2, owner, "q", 9-i))
		}
		for owner := -1; owner < 4; owner++ {
			var mine []int
			for _, d := range l {
				if d.Owner == owner {
					mine = append(mine, d.Tag)
				}
			}
			checkRecall(t, l, owner, mine...)
			for tag := -1; tag < 13; tag++ {
				at := slices.Index(mine, tag)
				if at < 0 {
					checkSettle(t, l, owner, tag, false)
					checkSettle(t, l, owner, tag, true)
					continue
				}
				checkList(t, checkSettle(t, l, owner, tag, false, tag), api.OK)
				checkList(t, checkSettle(t, l, owner, tag, true, mine[:at+1]...), api.OK)
			}
		}
	}
	checkSettle(t, nil, 0, 0, false)
	checkSettle(t, nil, 0, 0, true)
	checkRecall(t, nil, 0)
}

// P27.4: Recall and Count are specified for lists that are not valid, too.
func TestRecallInvalid(t *testing.T) {
	l := []api.Lease{{Tag: 9, Owner: -1}, {}, {Tag: -4, Owner: 2, Queue: "Q", Until: -1}, {Tag: 9, Owner: -1, Entry: entry(-3, 99)}, {Tag: 9, Owner: math.MaxInt}, {}}
	for owner, want := range map[int][]int{-1: {9, 9}, 0: {0, 0}, 2: {-4}, math.MaxInt: {9}, math.MinInt: nil, 1: nil} {
		checkRecall(t, l, owner, want...)
	}
	l = slices.Repeat(l, 900)
	checkRecall(t, l, 2, slices.Repeat([]int{-4}, 900)...)
}

// P27.5: entries of this queue come to their positions, in any order of deliveries.
func TestBack(t *testing.T) {
	q := holding("q", 9, entry(5, 9), entry(4, 1), entry(8, 0))
	l := []api.Lease{given(1, 7, "q", 6), given(2, 7, "p", 2), given(3, 8, "q", 2), given(4, 7, "q1", 4), given(5, 7, "q", 1)}
	l[4].Entry.Message.Priority = 0
	if out := checkBack(t, q, l, api.OK); !slices.Equal(numbers(out.Ready), []int{5, 2, 4, 6, 1, 8}) || out.Next != 9 || out.Spec != q.Spec {
		t.Errorf("Back = %s", show(out))
	}
	checkBack(t, q, nil, api.OK)
	checkBack(t, q, l[1:2], api.OK)
	checkBack(t, holding("q", 1), nil, api.OK)
	checkBack(t, holding("z", 9, entry(2, 1)), l, api.OK)
	until := given(6, 7, "q", 7)
	until.Until = 1
	checkBack(t, q, []api.Lease{until}, api.OK)
}

// P27.5: the first error of queue.Return; deliveries of other queues have none.
func TestBackErrors(t *testing.T) {
	q := holding("q", 9, entry(5, 9), entry(4, 1))
	good, late, exists := given(1, 0, "q", 8), given(2, 0, "q", 9), given(3, 0, "q", 4)
	other := given(4, 0, "p", 9)
	exists.Entry.Message.Priority = 0
	for _, c := range []struct {
		l    []api.Lease
		want api.Errno
	}{
		{[]api.Lease{good, other}, api.OK}, {[]api.Lease{late}, api.ErrRange}, {[]api.Lease{exists}, api.ErrExists}, {[]api.Lease{good, late}, api.ErrRange}, {[]api.Lease{good, exists}, api.ErrExists}, {[]api.Lease{late, exists}, api.ErrRange}, {[]api.Lease{exists, late}, api.ErrExists}, {[]api.Lease{other, exists, good}, api.ErrExists}, {[]api.Lease{late, good}, api.ErrRange}, {[]api.Lease{given(1, 0, "q", api.MaxNumber-1)}, api.ErrRange},
	} {
		checkBack(t, q, c.l, c.want)
	}
	checkBack(t, holding("q", api.MaxNumber), []api.Lease{given(1, 0, "q", api.MaxNumber-1)}, api.OK)
}

// P27.5: a queue may have more entries than its Max, but no more than MaxRecords + MaxQueue.
func TestBackFull(t *testing.T) {
	q := holding("q", mostReady+3)
	for i := range mostReady - 1 {
		q.Ready = append(q.Ready, api.Entry{Number: i + 1, Message: api.Message{Topic: "t"}})
	}
	l := []api.Lease{small(1, 0, "q", mostReady), small(2, 0, "p", mostReady+1), small(3, 0, "q", mostReady+1)}
	checkBack(t, q, l[:2], api.OK)
	checkBack(t, q, l, api.ErrFull)
	checkBack(t, q, []api.Lease{l[2], small(4, 0, "q", 7)}, api.ErrExists)
}

// server is a queue with its deliveries and the entries that were settled.
type server struct {
	t       *testing.T
	q       api.Queue
	l       []api.Lease
	tag     int
	settled []int
}

// give gives the first entry to an owner, if there is one.
func (s *server) give(owner int) {
	e, rest, ok := queue.Pop(s.q)
	if ok {
		s.tag += 1 + owner%2
		s.l, s.q = checkGive(s.t, s.l, s.tag, owner, "q", e, api.OK), rest
	}
}

// settle settles a delivery, or all up to it, and remembers them or puts them back.
func (s *server) settle(d api.Lease, all, again bool) {
	var want []int
	for _, x := range s.l {
		if x.Tag == d.Tag || all && x.Owner == d.Owner && x.Tag < d.Tag {
			want = append(want, x.Tag)
		}
	}
	_, out, _ := lease.Settle(s.l, d.Owner, d.Tag, all)
	s.l = checkSettle(s.t, s.l, d.Owner, d.Tag, all, want...)
	if again {
		s.q = checkBack(s.t, s.q, out, api.OK)
		return
	}
	for _, x := range out {
		s.settled = append(s.settled, x.Entry.Number)
	}
}

// recall takes the deliveries of an owner back.
func (s *server) recall(owner int) {
	var want []int
	for _, x := range s.l {
		if x.Owner == owner {
			want = append(want, x.Tag)
		}
	}
	_, out := lease.Recall(s.l, owner)
	s.l = checkRecall(s.t, s.l, owner, want...)
	s.q = checkBack(s.t, s.q, out, api.OK)
}

// places are the numbers of all entries, wherever they are, in ascending order.
func (s *server) places() []int {
	all := slices.Concat(numbers(s.q.Ready), s.settled)
	for _, d := range s.l {
		all = append(all, d.Entry.Number)
	}
	slices.Sort(all)
	return all
}

// P27.6, P27.7: calls in no particular order, compared with the definitions; every entry is in one place.
func TestRandomCalls(t *testing.T) {
	r := rand.New(rand.NewSource(27))
	for range 150 {
		q, _ := queue.New(api.Spec{Name: "q", Max: api.MaxQueue})
		s := &server{t: t, q: q}
		for i := range 100 {
			switch n := len(s.l); r.Intn(7) {
			case 0, 1:
				s.q, _ = queue.Push(s.q, full(r.Intn(3), i), i)
			case 2, 3, 4:
				s.give(r.Intn(4))
			case 5:
				if n > 0 {
					s.settle(s.l[r.Intn(n)], r.Intn(2) == 0, r.Intn(3) == 0)
				}
			default:
				s.recall(r.Intn(12))
			}
			checkList(t, s.l, api.OK)
			if places := s.places(); len(places) != s.q.Next-1 || len(slices.Compact(places)) != s.q.Next-1 {
				t.Fatalf("after %d calls: ready %v, delivered %s, settled %v", i+1, numbers(s.q.Ready), show(s.l), s.settled)
			}
		}
	}
}

// P27.1: lists in no particular order, compared with the definition
func TestRandomLists(t *testing.T) {
	r := rand.New(rand.NewSource(271))
	seen := map[api.Errno]int{}
	for range 20000 {
		var l []api.Lease
		for i := range r.Intn(6) {
			d := given(i+1+r.Intn(2), r.Intn(3), []string{"q", "p"}[r.Intn(2)], 1+r.Intn(12))
			switch r.Intn(40) {
			case 0:
				d.Queue = "q q"
			case 1:
				d.Entry.Attempts = 0
			case 2:
				d.Entry.Message.Topic = "#"
			}
			l = append(l, d)
		}
		code := listError(l)
		seen[code]++
		checkList(t, l, code)
	}
	for _, code := range []api.Errno{api.OK, api.ErrOrder, api.ErrDuplicate, api.ErrName, api.ErrRange, api.ErrTopic} {
		if seen[code] < 100 {
			t.Errorf("only %d lists with the error %d", seen[code], code)
		}
	}
}

// roomy returns deliveries with room behind the ends of their lists, which has something there.
func roomy() []api.Lease {
	l := []api.Lease{given(1, 7, "q", 6), given(2, 8, "p", 2), given(3, 7, "q", 3), given(4, 8, "q", 9), given(5, 7, "q", 1)}
	for i := range l {
		props := l[i].Entry.Message.Props
		l[i].Entry.Message.Props = append(props, api.Prop{Key: "z"})[:len(props)]
	}
	return l[:4]
}

// roomyQueue returns a queue with room behind its end.
func roomyQueue() api.Queue {
	return holding("q", 12, []api.Entry{entry(5, 9), entry(4, 1), entry(2, 0), entry(8, 0)}[:3]...)
}

// behindMessage shows a message and what is behind the end of its properties.
func behindMessage(m api.Message) string {
	return show(m) + show(m.Props[:cap(m.Props)])
}

// behind shows deliveries and what is behind the ends of their lists.
func behind(l []api.Lease) string {
	out := ""
	for _, d := range l[:cap(l)] {
		out += show(d) + behindMessage(d.Entry.Message)
	}
	return out
}

// behindQueue shows a queue and what is behind the ends of its lists.
func behindQueue(q api.Queue) string {
	out := show(q.Spec)
	for _, e := range q.Ready[:cap(q.Ready)] {
		out += show(e) + behindMessage(e.Message)
	}
	return out
}

// spoil overwrites deliveries, also behind the ends of their lists.
func spoil(l []api.Lease) {
	for _, d := range l[:cap(l)] {
		clear(d.Entry.Message.Props[:cap(d.Entry.Message.Props)])
	}
	clear(l[:cap(l)])
}

// spoilQueue overwrites the entries of a queue, also behind the ends of its lists.
func spoilQueue(q api.Queue) {
	for _, e := range q.Ready[:cap(q.Ready)] {
		clear(e.Message.Props[:cap(e.Message.Props)])
	}
	clear(q.Ready[:cap(q.Ready)])
}

// R5: arguments are not changed, and results share no memory with them nor with each other.
func TestMemory(t *testing.T) {
	e := roomy()[0].Entry
	e.Number = 10
	before, shown := behind(roomy()), behindMessage(e.Message)
	for i, results := range []func(l []api.Lease) ([]api.Lease, []api.Lease){
		func(l []api.Lease) ([]api.Lease, []api.Lease) { lease.Check(l); lease.Count(l, 7); return nil, nil },
		func(l []api.Lease) ([]api.Lease, []api.Lease) {
			out, d, _ := lease.Give(l, 9, 7, "q", e)
			return out, []api.Lease{d}
		},
		func(l []api.Lease) ([]api.Lease, []api.Lease) {
			out, d, _ := lease.Give(l[:2:2], 9, 7, "p", l[3].Entry)
			return out, []api.Lease{d}
		},
		func(l []api.Lease) ([]api.Lease, []api.Lease) {
			out, d, _ := lease.Give(l, 1, 7, "q", e)
			return out, []api.Lease{d}
		},
		func(l []api.Lease) ([]api.Lease, []api.Lease) { a, b, _ := lease.Settle(l, 7, 3, true); return a, b },
		func(l []api.Lease) ([]api.Lease, []api.Lease) { a, b, _ := lease.Settle(l, 8, 2, false); return a, b },
		func(l []api.Lease) ([]api.Lease, []api.Lease) { a, b, _ := lease.Settle(l, 8, 9, true); return a, b },
		func(l []api.Lease) ([]api.Lease, []api.Lease) { return lease.Recall(l, 7) },
		func(l []api.Lease) ([]api.Lease, []api.Lease) { return lease.Recall(l, 9) },
		func(l []api.Lease) ([]api.Lease, []api.Lease) { return lease.Recall(l[:1], 7) },
	} {
		l := roomy()
		a, b := results(l)
		other := behind(b)
		spoil(a)
		if behind(b) != other {
			t.Errorf("case %d: results share memory with each other", i)
		}
		spoil(b)
		if behind(l) != before || behindMessage(e.Message) != shown {
			t.Errorf("case %d: an argument is changed, or shares memory with a result: %s", i, behind(l))
		}
	}
}

// R5: Back copies the queue and the entries, also if there is nothing to return, or an error.
func TestMemoryOfBack(t *testing.T) {
	before, shown := behindQueue(roomyQueue()), behind(roomy())
	for _, n := range []int{0, 1, 4} {
		for _, owner := range []int{0, 7, 8} {
			q, l := roomyQueue(), roomy()
			given, _ := lease.Recall(l, owner)
			out, _ := lease.Back(q, l[:n])
			spoilQueue(out)
			last, _ := lease.Back(q, given)
			spoilQueue(last)
			if behindQueue(q) != before || behind(l) != shown {
				t.Errorf("Back of %d deliveries: an argument is changed, or shares memory with the result", n)
			}
		}
	}
	q := roomyQueue()
	q.Next = 4
	shownQueue := behindQueue(q)
	if out, code := lease.Back(q, roomy()); code != api.ErrRange || !sameQueue(out, api.Queue{}) || behindQueue(q) != shownQueue {
		t.Errorf("Back with an error = %s, %d", show(out), code)
	}
}

// R1: every call returns, also with lists and queues that are not valid
func TestInvalid(t *testing.T) {
	odd := []int{math.MinInt, -1, 0, 1, 2, 9, api.MaxTick, math.MaxInt}
	var l []api.Lease
	for i, x := range odd {
		for k, y := range odd {
			e := api.Entry{Number: x, Arrived: y, Attempts: odd[(i+k)%len(odd)], Message: full(odd[(i+3*k)%len(odd)], y)}
			l = append(l, api.Lease{Tag: y, Owner: odd[(2*i+k)%len(odd)], Queue: strings.Repeat("q", i), Until: x, Entry: e})
		}
	}
	for i, x := range odd {
		for k, y := range odd {
			for _, list := range [][]api.Lease{nil, l, l[i*k:], slices.Repeat(l[:i+k], 500)} {
				lease.Check(list)
				lease.Give(list, x, y, strings.Repeat("q", i), l[i*k].Entry)
				lease.Give(list, 1, 1, "q", l[i*k].Entry)
				lease.Settle(list, x, y, k%2 == 0)
				lease.Recall(list, x)
				lease.Count(list, y)
			}
			q := api.Queue{Spec: api.Spec{Name: strings.Repeat("q", i), Max: x, TTL: y}, Next: y, Ready: []api.Entry{l[i].Entry, l[k].Entry}}
			lease.Back(q, l)
		}
	}
}
