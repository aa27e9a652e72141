package fair_test

import (
	"cmp"
	"fmt"
	"math"
	"math/big"
	"math/rand"
	"slices"
	"strings"
	"testing"

	"broker/api"
	"broker/fair"
	"broker/topic"
)

// on returns a consumer of a queue with a tag that is always ready.
func on(tag int, queue string) api.Consumer { return api.Consumer{Tag: tag, Conn: 1, Queue: queue} }

// busy returns a consumer of a queue with a tag that is not ready.
func busy(tag int, queue string) api.Consumer {
	return api.Consumer{Tag: tag, Conn: 1, Queue: queue, Prefetch: 1, Unacked: 1}
}

// owned returns the consumer of a connection with a tag.
func owned(conn, tag int) api.Consumer {
	return api.Consumer{Tag: tag, Conn: conn, Queue: "q", Prefetch: 3, Unacked: 2}
}

// many returns n consumers with different tags.
func many(n int) []api.Consumer {
	var l []api.Consumer
	for i := range n {
		l = append(l, owned(i%3, i))
	}
	return l
}

// isNumber reports whether n is from 0 to MaxNumber.
func isNumber(n int) bool { return n >= 0 && n <= api.MaxNumber }

// isConsumer returns what says whether a consumer has a connection and a tag.
func isConsumer(conn, tag int) func(api.Consumer) bool {
	return func(c api.Consumer) bool { return c.Conn == conn && c.Tag == tag }
}

// consumerError is the error of a consumer behind others, as the chapter defines it.
func consumerError(others []api.Consumer, c api.Consumer) api.Errno {
	if !isNumber(c.Tag) || !isNumber(c.Conn) || !isNumber(c.Prefetch) || !isNumber(c.Unacked) {
		return api.ErrRange
	}
	if !topic.Name(c.Queue) {
		return api.ErrName
	}
	if slices.ContainsFunc(others, isConsumer(c.Conn, c.Tag)) {
		return api.ErrExists
	}
	return api.OK
}

// listError is Check as the chapter defines it.
func listError(l []api.Consumer) api.Errno {
	if len(l) > api.MaxClients {
		return api.ErrTooLong
	}
	for i, c := range l {
		if code := consumerError(l[:i], c); code != api.OK {
			return code
		}
	}
	return api.OK
}

// next is Next as the chapter defines it: it collects those that come into question, before it chooses one.
func next(l []api.Consumer, queue string, last int) (int, bool) {
	served := slices.IndexFunc(l, func(c api.Consumer) bool { return c.Tag == last })
	var eligible, after []int
	for i, c := range l {
		if c.Queue != queue || c.Prefetch != 0 && c.Prefetch <= c.Unacked {
			continue
		}
		eligible = append(eligible, i)
		if served >= 0 && i > served {
			after = append(after, i)
		}
	}
	turns := append(after, eligible...)
	if len(turns) == 0 {
		return 0, false
	}
	return turns[0], true
}

// sum returns the sum of two numbers, limited to the range from 0 to MaxNumber.
func sum(a, b int) int {
	n := new(big.Int).Add(big.NewInt(int64(a)), big.NewInt(int64(b)))
	switch most := big.NewInt(api.MaxNumber); {
	case n.Sign() < 0:
		return 0
	case n.Cmp(most) > 0:
		return api.MaxNumber
	}
	return int(n.Int64())
}

// checkList compares Check with its definition and with what is expected.
func checkList(t *testing.T, l []api.Consumer, want api.Errno) {
	t.Helper()
	if def := listError(l); def != want {
		t.Fatalf("by definition, Check of %+v = %d, want %d", l, def, want)
	}
	if got := fair.Check(l); got != want {
		t.Fatalf("Check of %+v = %d, want %d", l, got, want)
	}
}

// checkNext compares Next with its definition, and with the index that is expected, -1 for none.
func checkNext(t *testing.T, l []api.Consumer, queue string, last, want int) {
	t.Helper()
	index, ok := next(l, queue, last)
	if ok != (want >= 0) || ok && index != want {
		t.Fatalf("by definition, Next of %+v for %q after %d = %d, %v, want %d", l, queue, last, index, ok, want)
	}
	if got, found := fair.Next(l, queue, last); got != index || found != ok {
		t.Errorf("Next of %+v for %q after %d = %d, %v, want %d, %v", l, queue, last, got, found, index, ok)
	}
}

// checkAdd compares Add with its definition and with what is expected; Remove undoes it.
func checkAdd(t *testing.T, l []api.Consumer, c api.Consumer, want api.Errno) []api.Consumer {
	t.Helper()
	code := consumerError(l, c)
	if code == api.OK && len(l) == api.MaxClients {
		code = api.ErrFull
	}
	if code != want {
		t.Fatalf("by definition, Add of %+v to %+v = %d, want %d", c, l, code, want)
	}
	var list []api.Consumer
	if want == api.OK {
		list = append(slices.Clone(l), c)
	}
	got, code := fair.Add(l, c)
	if code != want || !slices.Equal(got, list) {
		t.Fatalf("Add of %+v to %+v = %+v, %d, want %d", c, l, got, code, want)
	}
	if want != api.OK {
		return nil
	}
	if fair.Check(got) != api.OK {
		t.Fatalf("Add returns a list that is not valid: %+v", got)
	}
	if back, code := fair.Remove(got, c.Conn, c.Tag); code != api.OK || !slices.Equal(back, l) {
		t.Fatalf("Remove after Add = %+v, %d, want %+v", back, code, l)
	}
	return got
}

// checkRemove compares Remove with its definition and with what is expected.
func checkRemove(t *testing.T, l []api.Consumer, conn, tag int, want api.Errno) []api.Consumer {
	t.Helper()
	list, code := slices.DeleteFunc(slices.Clone(l), isConsumer(conn, tag)), api.OK
	if len(list) == len(l) {
		list, code = nil, api.ErrNotFound
	}
	if code != want {
		t.Fatalf("by definition, Remove of %d, %d from %+v = %d, want %d", conn, tag, l, code, want)
	}
	got, code := fair.Remove(l, conn, tag)
	if code != want || !slices.Equal(got, list) {
		t.Fatalf("Remove of %d, %d from %+v = %+v, %d, want %+v, %d", conn, tag, l, got, code, list, want)
	}
	if fair.Check(got) != api.OK {
		t.Fatalf("Remove returns a list that is not valid: %+v", got)
	}
	return got
}

// checkCount compares Count with its definition.
func checkCount(t *testing.T, l []api.Consumer, conn, tag, n int) []api.Consumer {
	t.Helper()
	want := slices.Clone(l)
	for i, c := range want {
		if isConsumer(conn, tag)(c) {
			want[i].Unacked = sum(c.Unacked, n)
		}
	}
	got := fair.Count(l, conn, tag, n)
	if !slices.Equal(got, want) {
		t.Fatalf("Count of %d, %d in %+v by %d = %+v, want %+v", conn, tag, l, n, got, want)
	}
	if fair.Check(got) != api.OK {
		t.Fatalf("Count returns a list that is not valid: %+v", got)
	}
	return got
}

// P26.3 and P26.6, the examples
func TestExamples(t *testing.T) {
	l := []api.Consumer{on(1, "q"), on(2, "p"), on(3, "q")}
	for last, want := range map[int]int{1: 2, 2: 2, 3: 0, 9: 0} {
		checkNext(t, l, "q", last, want)
	}
	l[2] = busy(3, "q")
	for _, last := range []int{1, 2, 3, 9} {
		checkNext(t, l, "q", last, 0)
	}
	c := owned(1, 1)
	if got := checkCount(t, []api.Consumer{c}, 1, 1, -5); got[0].Unacked != 0 {
		t.Errorf("Count by -5 of %+v = %+v", c, got)
	}
}

// numbers are those at and beyond the edges of a count, with their errors.
func numbers() map[int]api.Errno {
	return map[int]api.Errno{0: api.OK, 1: api.OK, api.MaxNumber: api.OK, -1: api.ErrRange, api.MaxNumber + 1: api.ErrRange, math.MinInt: api.ErrRange, math.MaxInt: api.ErrRange}
}

// P26.1, P26.4: every combination of fields, which shows the order of the errors
func TestFields(t *testing.T) {
	name := strings.Repeat("n", api.MaxName)
	names := map[string]api.Errno{"q": api.OK, name: api.OK, "q-1": api.OK, "": api.ErrName, name + "n": api.ErrName, "Q": api.ErrName, "1": api.ErrName, "a/b": api.ErrName, "\x00": api.ErrName}
	others := []api.Consumer{{Tag: 0, Conn: 1, Queue: "p"}, {Tag: api.MaxNumber, Conn: 0, Queue: "q"}}
	for tag, first := range numbers() {
		for conn, second := range numbers() {
			for prefetch, third := range numbers() {
				for unacked, fourth := range numbers() {
					for queue, fifth := range names {
						code := cmp.Or(first, second, third, fourth, fifth)
						if code == api.OK && (tag == 0 && conn == 1 || tag == api.MaxNumber && conn == 0) {
							code = api.ErrExists
						}
						c := api.Consumer{Tag: tag, Conn: conn, Queue: queue, Prefetch: prefetch, Unacked: unacked}
						checkList(t, slices.Concat(others, []api.Consumer{c}), code)
						checkAdd(t, others, c, code)
					}
				}
			}
		}
	}
}

// P26.1
func TestCheck(t *testing.T) {
	odd := on(-1, "q")
	for _, c := range []struct {
		l    []api.Consumer
		want api.Errno
	}{
		{nil, api.OK}, {[]api.Consumer{}, api.OK}, {[]api.Consumer{{}}, api.ErrName}, {[]api.Consumer{on(0, "q")}, api.OK}, {[]api.Consumer{{Queue: "q", Prefetch: 1, Unacked: 5}}, api.OK},
		{[]api.Consumer{owned(1, 1), owned(1, 2), owned(2, 1), owned(2, 2)}, api.OK}, {[]api.Consumer{owned(1, 2), owned(2, 1)}, api.OK}, {[]api.Consumer{owned(1, 1), owned(1, 2), owned(1, 1)}, api.ErrExists}, {[]api.Consumer{on(1, "p"), on(1, "q")}, api.ErrExists},
		{[]api.Consumer{on(1, "p"), on(1, "q"), odd}, api.ErrExists}, {[]api.Consumer{on(1, "p"), odd, on(1, "q")}, api.ErrRange}, {[]api.Consumer{on(1, "P"), odd}, api.ErrName}, {[]api.Consumer{odd, odd}, api.ErrRange}, {[]api.Consumer{on(1, ""), on(1, "")}, api.ErrName},
	} {
		checkList(t, c.l, c.want)
	}
	checkList(t, many(api.MaxClients), api.OK)
	checkList(t, many(api.MaxClients+1), api.ErrTooLong)
	long := many(api.MaxClients + 1)
	long[0], long[1] = odd, on(1, "")
	checkList(t, long, api.ErrTooLong)
}

// P26.2
func TestReady(t *testing.T) {
	for _, c := range []struct {
		prefetch, unacked int
		want              bool
	}{
		{0, 0, true}, {0, 1, true}, {0, api.MaxNumber, true}, {1, 0, true}, {1, 1, false}, {1, 2, false}, {2, 1, true}, {2, 2, false}, {5, 4, true}, {5, 5, false}, {5, 6, false}, {api.MaxNumber, api.MaxNumber - 1, true}, {api.MaxNumber, api.MaxNumber, false}, {1, api.MaxNumber, false},
		{-1, 0, false}, {-1, -1, false}, {-1, -2, true}, {1, -1, true}, {0, -1, true}, {math.MaxInt, math.MinInt, true}, {math.MinInt, math.MaxInt, false}, {math.MinInt, math.MinInt, false},
	} {
		for _, queue := range []string{"", "q"} {
			if got := fair.Ready(api.Consumer{Tag: -1, Queue: queue, Prefetch: c.prefetch, Unacked: c.unacked}); got != c.want {
				t.Errorf("Ready with Prefetch %d and Unacked %d = %v", c.prefetch, c.unacked, got)
			}
		}
	}
}

// P26.3: all lists of up to four consumers of two queues, ready and not, with two tags, after every tag
func TestNext(t *testing.T) {
	var kinds []api.Consumer
	for _, queue := range []string{"q", "p"} {
		for tag := range 2 {
			kinds = append(kinds, on(tag, queue), busy(tag, queue))
		}
	}
	lists := [][]api.Consumer{nil}
	for n := 0; n <= 4; n++ {
		var longer [][]api.Consumer
		for _, l := range lists {
			for _, queue := range []string{"q", "p", "r", ""} {
				for last := -1; last < 3; last++ {
					index, ok := next(l, queue, last)
					if got, found := fair.Next(l, queue, last); got != index || found != ok {
						t.Fatalf("Next of %+v for %q after %d = %d, %v, want %d, %v", l, queue, last, got, found, index, ok)
					}
				}
			}
			for _, c := range kinds {
				longer = append(longer, append(slices.Clone(l), c))
			}
		}
		lists = longer
	}
}

// P26.3: who is next after which tag
func TestTurns(t *testing.T) {
	l := []api.Consumer{on(4, "q"), busy(5, "q"), on(6, "p"), on(7, "q"), busy(8, "p"), on(9, "q")}
	for _, c := range []struct {
		queue      string
		last, want int
	}{
		{"q", 4, 3}, {"q", 5, 3}, {"q", 6, 3}, {"q", 7, 5}, {"q", 8, 5}, {"q", 9, 0}, {"q", 0, 0}, {"q", 3, 0}, {"q", -1, 0}, {"q", math.MinInt, 0}, {"q", math.MaxInt, 0},
		{"p", 4, 2}, {"p", 5, 2}, {"p", 6, 2}, {"p", 7, 2}, {"p", 8, 2}, {"p", 9, 2}, {"p", 0, 2}, {"r", 4, -1}, {"r", 0, -1}, {"", 4, -1}, {"Q", 4, -1},
	} {
		checkNext(t, l, c.queue, c.last, c.want)
	}
	checkNext(t, nil, "q", 0, -1)
	checkNext(t, []api.Consumer{busy(1, "q"), busy(2, "q")}, "q", 1, -1)
	checkNext(t, []api.Consumer{busy(1, "q")}, "q", 0, -1)
	checkNext(t, []api.Consumer{on(1, "q")}, "q", 1, 0)
	checkNext(t, []api.Consumer{busy(1, "p"), on(2, "q")}, "q", 1, 1)
}

// P26.3: of several consumers with the tag the first one counts, and lists need not be valid.
func TestNextInvalid(t *testing.T) {
	twice := []api.Consumer{on(0, "q"), on(1, "q"), on(2, "q"), on(1, "q"), on(3, "q")}
	checkNext(t, twice, "q", 1, 2)
	other := []api.Consumer{on(1, "p"), on(1, "q"), on(2, "q")}
	other[1].Conn = 2
	checkNext(t, other, "q", 1, 1)
	odd := []api.Consumer{{}, {Tag: -5, Queue: "Q/#", Prefetch: -1, Unacked: -2}, {Tag: math.MaxInt, Queue: "", Prefetch: math.MinInt}, {Tag: math.MinInt, Queue: "", Unacked: math.MaxInt}}
	checkNext(t, odd, "", 0, 3)
	checkNext(t, odd, "", math.MinInt, 0)
	checkNext(t, odd, "", math.MaxInt, 3)
	checkNext(t, odd, "Q/#", 0, 1)
	checkNext(t, odd, "Q/#", -5, 1)
	checkNext(t, slices.Repeat(twice, 100), "q", 3, 5)
	checkNext(t, append(slices.Repeat([]api.Consumer{busy(1, "q")}, 999), on(2, "q")), "q", 1, 999)
}

// P26.4: lists below and at the most that there may be, and the order of the errors there
func TestAdd(t *testing.T) {
	l := checkAdd(t, nil, on(0, "q"), api.OK)
	for i := 2; i <= api.MaxClients; i++ {
		l = checkAdd(t, l, api.Consumer{Tag: i / 2, Conn: i % 2, Queue: "q", Prefetch: i, Unacked: 2 * i}, api.OK)
	}
	checkAdd(t, l, owned(9, 9), api.ErrFull)
	checkAdd(t, l, owned(1, 1), api.ErrExists)
	checkAdd(t, l, owned(-1, 1), api.ErrRange)
	checkAdd(t, l, on(1, ""), api.ErrName)
	checkAdd(t, l[1:], l[0], api.OK)
	checkAdd(t, l[1:], l[1], api.ErrExists)
}

// P26.5
func TestRemove(t *testing.T) {
	l := []api.Consumer{owned(1, 1), owned(1, 2), owned(2, 1), owned(0, 7)}
	for _, c := range []struct {
		conn, tag int
		want      api.Errno
	}{
		{1, 1, api.OK}, {1, 2, api.OK}, {2, 1, api.OK}, {0, 7, api.OK}, {2, 2, api.ErrNotFound}, {7, 0, api.ErrNotFound}, {0, 0, api.ErrNotFound}, {0, 1, api.ErrNotFound}, {1, 7, api.ErrNotFound}, {-1, 1, api.ErrNotFound}, {math.MinInt, math.MaxInt, api.ErrNotFound},
	} {
		checkRemove(t, l, c.conn, c.tag, c.want)
		checkRemove(t, nil, c.conn, c.tag, api.ErrNotFound)
	}
	for _, c := range many(api.MaxClients) {
		checkRemove(t, many(api.MaxClients), c.Conn, c.Tag, api.OK)
	}
	checkRemove(t, []api.Consumer{owned(1, 1)}, 1, 1, api.OK)
}

// P26.6: the mathematical sum, also where integers wrap around
func TestCount(t *testing.T) {
	for _, unacked := range []int{0, 1, 2, 5, api.MaxNumber - 1, api.MaxNumber} {
		for _, n := range []int{0, 1, -1, 2, -2, -5, -6, 5, api.MaxNumber, -api.MaxNumber, api.MaxNumber + 1, -api.MaxNumber - 1, api.MaxNumber - 1, 1 - api.MaxNumber, math.MaxInt, math.MinInt, math.MaxInt - 1, math.MinInt + 1} {
			l := []api.Consumer{owned(1, 2), owned(2, 1), owned(2, 2), owned(1, 1)}
			l[2].Unacked = unacked
			if got := checkCount(t, l, 2, 2, n); got[2].Unacked != sum(unacked, n) {
				t.Errorf("Count of %d by %d = %d", unacked, n, got[2].Unacked)
			}
			checkCount(t, l, 1, 1, n)
			checkCount(t, l, 2, 3, n)
			checkCount(t, l, 3, 2, n)
			checkCount(t, l, 0, 0, n)
			checkCount(t, nil, 0, 0, n)
		}
	}
	for _, c := range []struct{ unacked, n, want int }{{2, 3, 5}, {2, -1, 1}, {2, -2, 0}, {2, -3, 0}, {0, math.MinInt, 0}, {1, math.MaxInt, api.MaxNumber}, {api.MaxNumber, -api.MaxNumber, 0}, {api.MaxNumber, math.MinInt, 0}, {api.MaxNumber, -1, api.MaxNumber - 1}, {api.MaxNumber - 1, 1, api.MaxNumber}, {api.MaxNumber - 1, 2, api.MaxNumber}} {
		if got := checkCount(t, []api.Consumer{{Queue: "q", Unacked: c.unacked}}, 0, 0, c.n); got[0].Unacked != c.want {
			t.Errorf("Count of %d by %d = %d, want %d", c.unacked, c.n, got[0].Unacked, c.want)
		}
	}
}

// P26.4 to P26.7: random calls, compared with the definitions
func TestRandomCalls(t *testing.T) {
	r := rand.New(rand.NewSource(26))
	for range 100 {
		var l []api.Consumer
		for range 150 {
			conn, tag := r.Intn(6), r.Intn(8)
			switch r.Intn(5) {
			case 0:
				code := api.OK
				if !slices.ContainsFunc(l, isConsumer(conn, tag)) {
					code = api.ErrNotFound
				}
				if got := checkRemove(t, l, conn, tag, code); code == api.OK {
					l = got
				}
			case 1:
				l = checkCount(t, l, conn, tag, r.Intn(9)-4)
			default:
				c := api.Consumer{Tag: tag, Conn: conn, Queue: []string{"p", "q", "r", "R"}[r.Intn(4)], Prefetch: r.Intn(4), Unacked: r.Intn(4)}
				code := consumerError(l, c)
				if code == api.OK && len(l) == api.MaxClients {
					code = api.ErrFull
				}
				if got := checkAdd(t, l, c, code); code == api.OK {
					l = got
				}
			}
			index, ok := next(l, "q", tag)
			if !ok {
				index = -1
			}
			checkNext(t, l, "q", tag, index)
			checkList(t, l, api.OK)
		}
	}
}

// P26.8: each ready consumer of the queue comes once before any of them comes again.
func TestEveryTurn(t *testing.T) {
	r := rand.New(rand.NewSource(268))
	for range 300 {
		var l []api.Consumer
		var ready []int
		for i, tag := range r.Perm(1 + r.Intn(12)) {
			l = append(l, api.Consumer{Tag: tag, Conn: r.Intn(3), Queue: []string{"p", "q"}[r.Intn(2)], Prefetch: r.Intn(3), Unacked: r.Intn(3)})
			if l[i].Queue == "q" && fair.Ready(l[i]) {
				ready = append(ready, i)
			}
		}
		last := r.Intn(14)
		var turns []int
		for range 3 * len(ready) {
			at, ok := fair.Next(l, "q", last)
			if !ok {
				t.Fatalf("no consumer of %+v is next after %d", l, last)
			}
			turns, last = append(turns, at), l[at].Tag
		}
		for len(turns) > 0 {
			if round := slices.Sorted(slices.Values(turns[:len(ready)])); !slices.Equal(round, ready) {
				t.Fatalf("the ready consumers %v of %+v came in the order %v", ready, l, turns)
			}
			turns = turns[len(ready):]
		}
		if at, ok := fair.Next(l, "q", last); len(ready) == 0 && (at != 0 || ok) {
			t.Fatalf("no consumer of %+v is ready, but %d is next", l, at)
		}
	}
}

// P26.4 to P26.6 and R5: arguments are not changed, and results share no memory with them.
func TestMemory(t *testing.T) {
	all := append(many(4), owned(7, 7), owned(8, 8))
	before := fmt.Sprint(all)
	for i, result := range []func(l []api.Consumer) []api.Consumer{
		func(l []api.Consumer) []api.Consumer { fair.Check(l); return nil },
		func(l []api.Consumer) []api.Consumer { fair.Next(l, "q", 2); return nil },
		func(l []api.Consumer) []api.Consumer { out, _ := fair.Add(l, owned(9, 9)); return out },
		func(l []api.Consumer) []api.Consumer { out, _ := fair.Add(l, l[0]); return out },
		func(l []api.Consumer) []api.Consumer { out, _ := fair.Remove(l, l[0].Conn, l[0].Tag); return out },
		func(l []api.Consumer) []api.Consumer { out, _ := fair.Remove(l, l[1].Conn, l[1].Tag); return out },
		func(l []api.Consumer) []api.Consumer { out, _ := fair.Remove(l, l[3].Conn, l[3].Tag); return out },
		func(l []api.Consumer) []api.Consumer { out, _ := fair.Remove(l, 9, 9); return out },
		func(l []api.Consumer) []api.Consumer { return fair.Count(l, l[2].Conn, l[2].Tag, 5) },
		func(l []api.Consumer) []api.Consumer { return fair.Count(l, l[2].Conn, l[2].Tag, 0) },
		func(l []api.Consumer) []api.Consumer { return fair.Count(l, 9, 9, 5) },
	} {
		l := slices.Clone(all)
		out := result(l[:4])
		if fmt.Sprint(l) != before {
			t.Errorf("case %d: an argument is changed: %+v", i, l)
		}
		clear(out[:cap(out)])
		if fmt.Sprint(l) != before {
			t.Errorf("case %d: an argument shares memory with the result: %+v", i, l)
		}
	}
}

// R1: every call returns, also with lists that are not valid.
func TestInvalid(t *testing.T) {
	odd := []int{math.MinInt, -1, 0, 1, api.MaxNumber + 1, math.MaxInt}
	var l []api.Consumer
	for i, x := range odd {
		for k, y := range odd {
			l = append(l, api.Consumer{Tag: x, Conn: y, Queue: strings.Repeat("Q", i), Prefetch: odd[(i+k)%len(odd)], Unacked: y})
		}
	}
	l = slices.Concat(l, l)
	for i, x := range odd {
		for _, y := range odd {
			for _, c := range l {
				fair.Add(l, c)
				fair.Add(l[:i], c)
			}
			fair.Check(l)
			fair.Remove(l, x, y)
			fair.Count(l, x, y, x)
			fair.Count(l, x, y, y)
			fair.Next(l, strings.Repeat("Q", i), y)
		}
	}
}
