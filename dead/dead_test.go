package dead_test

import (
	"fmt"
	"math"
	"math/rand"
	"slices"
	"sort"
	"strconv"
	"strings"
	"testing"

	"broker/api"
	"broker/dead"
	"broker/message"
	"broker/queue"
	"broker/topic"
)

// reasons are the four reasons.
func reasons() []int {
	return []int{api.DeadRejected, api.DeadExpired, api.DeadOverflow, api.DeadAttempts}
}

// having returns a message in which no field is zero, with these properties, each given as key=value.
func having(props ...string) api.Message {
	m := api.Message{Topic: "a/b", Payload: "p\x00\xff", Level: 2, Retain: true, Priority: 9, Expires: 70000, From: "x-1", Seq: 12}
	for _, p := range props {
		key, value, _ := strings.Cut(p, "=")
		m.Props = append(m.Props, api.Prop{Key: key, Value: value})
	}
	return m
}

// listed returns properties as key=value each.
func listed(l []api.Prop) []string {
	var out []string
	for _, p := range l {
		out = append(out, p.Key+"="+p.Value)
	}
	return out
}

// first returns the value of the first property with a key.
func first(m api.Message, key string) string {
	for _, p := range m.Props {
		if p.Key == key {
			return p.Value
		}
	}
	return ""
}

// deaths is Deaths as the chapter defines it: the digits are read one by one.
func deaths(m api.Message) int {
	text := first(m, "deaths")
	if text == "" || len(text) > 13 || text[0] == '0' && text != "0" {
		return 0
	}
	n := 0
	for _, c := range []byte(text) {
		if c < '0' || c > '9' {
			return 0
		}
		n = 10*n + int(c) - '0'
	}
	if n > api.MaxNumber {
		return 0
	}
	return n
}

// from is From as the chapter defines it: the string is divided from its end.
func from(m api.Message) (string, int) {
	text := first(m, "died")
	for _, reason := range reasons() {
		name, found := strings.CutSuffix(text, fmt.Sprintf(" %d", reason))
		if found && topic.Name(name) {
			return name, reason
		}
	}
	return "", 0
}

// reason is Reason as the chapter defines it.
func reason(s api.Spec, e api.Entry, now int) int {
	if s.Attempts != 0 && e.Attempts >= s.Attempts {
		return api.DeadAttempts
	}
	if s.TTL != 0 && now >= e.Arrived+s.TTL {
		return api.DeadExpired
	}
	if e.Message.Expires != 0 && now >= e.Message.Expires {
		return api.DeadExpired
	}
	return 0
}

// mark is Mark as the chapter defines it: the greatest of the other keys are left out one by one.
func mark(name string, m api.Message, why int) api.Message {
	out := m
	out.Expires = 0
	out.Props = nil
	for _, p := range m.Props {
		if p.Key != "deaths" && p.Key != "died" {
			out.Props = append(out.Props, p)
		}
	}
	sort.Slice(out.Props, func(i, k int) bool { return out.Props[i].Key < out.Props[k].Key })
	for len(out.Props)+2 > api.MaxProps {
		out.Props = out.Props[:len(out.Props)-1]
	}
	n := deaths(m)
	if n < api.MaxNumber {
		n++
	}
	out.Props = append(out.Props, api.Prop{Key: "deaths", Value: fmt.Sprint(n)}, api.Prop{Key: "died", Value: fmt.Sprintf("%s %d", name, why)})
	sort.Slice(out.Props, func(i, k int) bool { return out.Props[i].Key < out.Props[k].Key })
	return out
}

// checkReason compares Reason with its definition and with what is expected.
func checkReason(t *testing.T, s api.Spec, e api.Entry, now, want int) {
	t.Helper()
	if def := reason(s, e, now); def != want {
		t.Fatalf("by definition, Reason of %+v in %+v at %d = %d, want %d", e, s, now, def, want)
	}
	if got := dead.Reason(s, e, now); got != want {
		t.Errorf("Reason of %+v in %+v at %d = %d, want %d", e, s, now, got, want)
	}
}

// checkMark compares Mark with its definition; what it returns is valid and says what happened.
func checkMark(t *testing.T, name string, m api.Message, why int) api.Message {
	t.Helper()
	if code := message.Check(m); code != api.OK {
		t.Fatalf("Check of %+v = %d", m, code)
	}
	want := mark(name, m, why)
	got := dead.Mark(name, m, why)
	if !message.Same(got, want) {
		t.Fatalf("Mark of %+v for %q and %d = %+v, want %+v", m, name, why, got, want)
	}
	if code := message.Check(got); code != api.OK {
		t.Fatalf("Mark of %+v for %q and %d = %+v, whose error is %d", m, name, why, got, code)
	}
	if n := dead.Deaths(got); n != min(deaths(m)+1, api.MaxNumber) {
		t.Fatalf("Deaths of %+v after Mark = %d", got, n)
	}
	if place, last := dead.From(got); place != name || last != why {
		t.Fatalf("From of %+v after Mark for %q and %d = %q, %d", got, name, why, place, last)
	}
	return got
}

// P28.1 to P28.3, the examples
func TestExamples(t *testing.T) {
	s := api.Spec{Name: "q", Max: 9, Attempts: 2, TTL: 10}
	once := api.Entry{Number: 1, Arrived: 5, Attempts: 1, Message: api.Message{Topic: "t"}}
	twice := once
	twice.Attempts = 2
	for _, now := range []int{0, 5, 14, 15, api.MaxTick} {
		checkReason(t, s, twice, now, api.DeadAttempts)
	}
	checkReason(t, s, once, 14, 0)
	checkReason(t, s, once, 15, api.DeadExpired)

	m := checkMark(t, "q", having(), api.DeadRejected)
	if got := listed(m.Props); !slices.Equal(got, []string{"deaths=1", "died=q 1"}) {
		t.Errorf("the first death: %q", got)
	}
	m = checkMark(t, "p", m, api.DeadExpired)
	if got := listed(m.Props); !slices.Equal(got, []string{"deaths=2", "died=p 2"}) {
		t.Errorf("the second death: %q", got)
	}
	m = checkMark(t, "q", having("a=1", "b=2", "c=3", "d=4", "e=5", "f=6", "g=7", "h=8"), api.DeadOverflow)
	if got := listed(m.Props); !slices.Equal(got, []string{"a=1", "b=2", "c=3", "d=4", "deaths=1", "died=q 3", "e=5", "f=6"}) {
		t.Errorf("a message with eight properties: %q", got)
	}
	m = having("deaths=07")
	if dead.Deaths(m) != 0 || listed(checkMark(t, "q", m, api.DeadAttempts).Props)[0] != "deaths=1" {
		t.Errorf("deaths 07: %d", dead.Deaths(m))
	}
}

// P28.1: the edges of attempts and instants
func TestReason(t *testing.T) {
	for _, c := range []struct {
		most, ttl, attempts, arrived, expires, now int
		want                                       int
	}{
		{0, 0, 0, 0, 0, 0, 0}, {0, 0, api.MaxNumber, 5, 0, api.MaxTick, 0}, {1, 0, 0, 5, 0, 5, 0}, {1, 0, 1, 5, 0, 5, api.DeadAttempts}, {1, 0, 2, 5, 0, 5, api.DeadAttempts}, {3, 0, 2, 5, 0, 5, 0}, {3, 0, 3, 5, 0, 0, api.DeadAttempts}, {api.MaxNumber, 0, api.MaxNumber - 1, 5, 0, 5, 0}, {api.MaxNumber, 0, api.MaxNumber, 5, 0, 5, api.DeadAttempts},
		{0, 10, 0, 5, 0, 14, 0}, {0, 10, 0, 5, 0, 15, api.DeadExpired}, {0, 10, 0, 5, 0, 16, api.DeadExpired}, {0, 10, 7, 5, 0, 15, api.DeadExpired}, {9, 10, 7, 5, 0, 15, api.DeadExpired}, {7, 10, 7, 5, 0, 15, api.DeadAttempts}, {7, 10, 7, 5, 0, 14, api.DeadAttempts}, {0, 10, 0, 5, 0, 0, 0}, {0, 1, 0, 5, 0, 5, 0}, {0, 1, 0, 5, 0, 6, api.DeadExpired},
		{0, 0, 0, 5, 7, 6, 0}, {0, 0, 0, 5, 7, 7, api.DeadExpired}, {0, 0, 0, 5, 7, 8, api.DeadExpired}, {0, 0, 0, 5, 3, 5, api.DeadExpired}, {0, 10, 0, 5, 7, 7, api.DeadExpired}, {0, 10, 0, 5, 20, 15, api.DeadExpired}, {0, 10, 0, 5, 20, 14, 0}, {2, 10, 2, 5, 7, 15, api.DeadAttempts}, {2, 10, 1, 5, 7, 7, api.DeadExpired},
		{0, api.MaxTick, 0, 0, 0, api.MaxTick - 1, 0}, {0, api.MaxTick, 0, 0, 0, api.MaxTick, api.DeadExpired}, {0, api.MaxTick, 0, 1, 0, api.MaxTick, 0}, {0, api.MaxTick, 0, api.MaxTick, 0, api.MaxTick, 0}, {0, 1, 0, api.MaxTick - 1, 0, api.MaxTick, api.DeadExpired}, {0, 0, 0, api.MaxTick, api.MaxTick, api.MaxTick, api.DeadExpired}, {0, 0, 0, 0, api.MaxTick, api.MaxTick - 1, 0},
	} {
		s := api.Spec{Name: "q", Max: 1, TTL: c.ttl, Attempts: c.most, Dead: "d"}
		m := api.Message{Topic: "t", Expires: c.expires}
		// An entry that is in no queue yet has no number.
		for number := range 2 {
			checkReason(t, s, api.Entry{Number: number, Arrived: c.arrived, Attempts: c.attempts, Message: m}, c.now, c.want)
		}
	}
}

// P28.1: every combination of small numbers; an entry is expired exactly if queue.Expire removes it.
func TestReasonOfQueue(t *testing.T) {
	for n := range 4 * 4 * 4 * 4 * 4 * 8 {
		s := api.Spec{Name: "q", Max: 1, TTL: n % 4, Attempts: n / 4 % 4}
		e := api.Entry{Number: 1, Arrived: n / 16 % 4, Attempts: n / 64 % 4, Message: api.Message{Topic: "t", Expires: n / 256 % 4}}
		now := n / 1024
		gone, _ := queue.Expire(api.Queue{Spec: s, Next: 2, Ready: []api.Entry{e}}, now)
		want := len(gone) * api.DeadExpired
		if s.Attempts > 0 && e.Attempts >= s.Attempts {
			want = api.DeadAttempts
		}
		checkReason(t, s, e, now, want)
	}
}

// P28.2
func TestDeaths(t *testing.T) {
	most := strconv.Itoa(api.MaxNumber)
	for text, want := range map[string]int{
		"0": 0, "1": 1, "9": 9, "10": 10, "7": 7, "8": 8, "1234567890": 1234567890, most: api.MaxNumber, strconv.Itoa(api.MaxNumber - 1): api.MaxNumber - 1, strconv.Itoa(api.MaxNumber + 1): 0, strconv.Itoa(math.MaxInt): 0, strconv.Itoa(math.MinInt): 0, strings.Repeat("9", 100): 0, "18446744073709551617": 0, strings.Repeat("1", 500): 0,
		"": 0, "07": 0, "00": 0, "01": 0, "-0": 0, "-1": 0, "+1": 0, " 1": 0, "1 ": 0, "1\n": 0, "1.0": 0, "1e3": 0, "0x1": 0, "1_000": 0, "a": 0, "1a": 0, "\x00": 0, "١": 0, "１": 0, "-": 0, "0" + most: 0,
	} {
		m := having("a=5", "deaths="+text, "died=q 2", "z=6")
		if def := deaths(m); def != want {
			t.Fatalf("by definition, the property deaths %q is %d, want %d", text, def, want)
		}
		if got := dead.Deaths(m); got != want {
			t.Errorf("the property deaths %q is %d, want %d", text, got, want)
		}
		if got := dead.Again(m); got != (want < api.MaxHops) {
			t.Errorf("Again with the property deaths %q = %v", text, got)
		}
	}
	for _, m := range []api.Message{{}, having(), having("Deaths=3", "death=4", "deathss=5", "died=6", "=7"), {Payload: "deaths=3", Seq: 4}} {
		if got := dead.Deaths(m); got != 0 || !dead.Again(m) {
			t.Errorf("Deaths of %+v = %d", m, got)
		}
	}
}

// P28.2
func TestFrom(t *testing.T) {
	name := strings.Repeat("n", api.MaxName)
	for text, want := range map[string]string{
		"q 1": "q", "q 2": "q", "q 3": "q", "q 4": "q", "q-1 4": "q-1", name + " 1": name, "a1- 2": "a1-",
		"": "", "q": "", "q ": "", " 1": "", "1": "", " ": "", "q 0": "", "q 5": "", "q 9": "", "q a": "", "q  1": "", " q 1": "", "q 1 ": "", "q 1 1": "", "q 11": "", "q 01": "", "q +1": "", "q -1": "", "q\t1": "", "q\x001": "", "q1": "", "q 1\n": "", "Q 1": "", "1 1": "", "-q 1": "", name + "n 1": "", "q q 1": "", "q/p 1": "", "q ١": "", "q １": "", "q \xb1": "", "é 1": "", strings.Repeat("q ", 300) + "1": "",
	} {
		m := having("a=x 1", "deaths=2", "died="+text, "z=y 2")
		place, why := from(m)
		if place != want {
			t.Fatalf("by definition, the property died %q is that of the queue %q, want %q", text, place, want)
		}
		if got, reason := dead.From(m); got != place || reason != why {
			t.Errorf("the property died %q is %q, %d, want %q, %d", text, got, reason, place, why)
		}
	}
	for _, m := range []api.Message{{}, having(), having("Died=q 1", "die=q 1", "dieds=q 1", "deaths=q 1", "=q 1")} {
		if got, reason := dead.From(m); got != "" || reason != 0 {
			t.Errorf("From of %+v = %q, %d", m, got, reason)
		}
	}
}

// P28.2, P28.4: of several properties with a key the first one counts, wherever it is, also if it says nothing.
func TestFirstCounts(t *testing.T) {
	for _, c := range []struct {
		m      api.Message
		deaths int
		place  string
		reason int
		again  bool
	}{
		{having("deaths=3", "deaths=9", "died=q 1", "died=p 2"), 3, "q", 1, true},
		{having("died=p 2", "z=1", "deaths=9", "died=q 1", "a=2", "deaths=3"), 9, "p", 2, false},
		{having("deaths=x", "deaths=9", "died=x", "died=p 2"), 0, "", 0, true},
		{having("deaths=", "deaths=9", "died=", "died=p 2"), 0, "", 0, true},
		{having("deaths=8", "deaths=0"), 8, "", 0, false},
	} {
		place, reason := dead.From(c.m)
		if n := dead.Deaths(c.m); n != c.deaths || place != c.place || reason != c.reason {
			t.Errorf("%q: %d deaths, %q, %d, want %+v", listed(c.m.Props), n, place, reason, c)
		}
		if dead.Again(c.m) != c.again {
			t.Errorf("Again of %q = %v", listed(c.m.Props), !c.again)
		}
	}
}

// subset returns the properties of l that the bits of n choose.
func subset(l []string, n int) []string {
	var out []string
	for i, p := range l {
		if n>>i&1 == 1 {
			out = append(out, p)
		}
	}
	return out
}

// P28.3, P28.5: all valid lists of properties among twelve, two of which note deaths; every field stays, but for Expires.
func TestMark(t *testing.T) {
	keys := []string{"-=1", "0=2", "a=3", "death=4", "deaths=5", "deaths-x=6", "die=7", "died=p 4", "died-=8", "e=9", "f=", "zzzzzzzzzzzzzzzz=" + strings.Repeat("v", api.MaxValue)}
	for n := range 1 << len(keys) {
		l := subset(keys, n)
		if len(l) > api.MaxProps {
			continue
		}
		m := checkMark(t, "q", having(l...), reasons()[n%4])
		if len(m.Props) > api.MaxProps || m.Expires != 0 || m.Seq != 12 {
			t.Fatalf("Mark of %q = %+v", l, m)
		}
		again := checkMark(t, "p", m, api.DeadExpired)
		drop := func(p api.Prop) bool { return p.Key == "deaths" || p.Key == "died" }
		if a, b := slices.DeleteFunc(slices.Clone(m.Props), drop), slices.DeleteFunc(slices.Clone(again.Props), drop); !slices.Equal(a, b) {
			t.Fatalf("Mark of %q keeps %q, then %q", l, listed(a), listed(b))
		}
	}
}

// P28.3: how often a message died before, also in a form that does not count; names and reasons
func TestMarkDeaths(t *testing.T) {
	most := strconv.Itoa(api.MaxNumber)
	for text, want := range map[string]string{"0": "1", "1": "2", "7": "8", "8": "9", "9": "10", "99": "100", strconv.Itoa(api.MaxNumber - 2): strconv.Itoa(api.MaxNumber - 1), strconv.Itoa(api.MaxNumber - 1): most, most: most, strconv.Itoa(api.MaxNumber + 1): "1", "": "1", "07": "1", "-1": "1", "-2": "1", "+4": "1", "x": "1", strings.Repeat("9", api.MaxValue): "1"} {
		for _, name := range []string{"q", "a-1", strings.Repeat("n", api.MaxName)} {
			for _, why := range reasons() {
				m := checkMark(t, name, having("a=1", "deaths="+text, "died="+text, "x=2"), why)
				if got := listed(m.Props); !slices.Equal(got, []string{"a=1", "deaths=" + want, "died=" + name + " " + strconv.Itoa(why), "x=2"}) {
					t.Errorf("Mark of deaths %q = %q", text, got)
				}
			}
		}
	}
}

// P28.3: a message of which most fields are zero
func TestMarkPlain(t *testing.T) {
	for _, expires := range []int{0, 1, api.MaxTick} {
		want := api.Message{Topic: "t", Props: []api.Prop{{Key: "deaths", Value: "1"}, {Key: "died", Value: "q 4"}}}
		if got := dead.Mark("q", api.Message{Topic: "t", Expires: expires}, api.DeadAttempts); !message.Same(got, want) {
			t.Errorf("Mark = %+v, want %+v", got, want)
		}
	}
}

// P28.4, P28.6: a message is marked at most MaxHops times.
func TestEnd(t *testing.T) {
	for _, m := range []api.Message{having(), having("a=1", "b=2", "c=3", "d=4", "deaths=x", "e=5", "f=6", "g=7"), having("deaths=0", "z=1")} {
		n := 0
		for dead.Again(m) && n <= api.MaxHops {
			if dead.Deaths(m) != n {
				t.Fatalf("after %d deaths: %q", n, listed(m.Props))
			}
			m = checkMark(t, "q"+strconv.Itoa(n), m, reasons()[n%4])
			n++
		}
		if n != api.MaxHops || dead.Deaths(m) != api.MaxHops {
			t.Errorf("marked %d times: %q", n, listed(m.Props))
		}
	}
	if m := having("deaths=" + strconv.Itoa(api.MaxNumber)); dead.Again(m) || dead.Again(checkMark(t, "q", m, 1)) {
		t.Errorf("Again of %+v", m)
	}
}

// P28.1 to P28.5: entries and messages in no particular order, compared with the definitions
func TestRandomCalls(t *testing.T) {
	r := rand.New(rand.NewSource(28))
	values := []string{"", "0", "3", "8", "03", "-3", "q 1", "p 4", "q 5", "q  1", "Q 1", strconv.Itoa(api.MaxNumber), strconv.Itoa(api.MaxNumber + 1)}
	keys := []string{"a", "deaths", "died", "deaths-", "e", "0", "diee", "f", "g", "h"}
	for range 20000 {
		m := having()
		r.Shuffle(len(keys), func(i, k int) { keys[i], keys[k] = keys[k], keys[i] })
		for _, key := range keys[:r.Intn(api.MaxProps+1)] {
			m.Props = append(m.Props, api.Prop{Key: key, Value: values[r.Intn(len(values))]})
		}
		place, why := from(m)
		got, reason := dead.From(m)
		if n := dead.Deaths(m); n != deaths(m) || got != place || reason != why || dead.Again(m) != (n < 8) {
			t.Fatalf("%q: %d deaths, %q, %d, want %d, %q, %d", listed(m.Props), n, got, reason, deaths(m), place, why)
		}
		sort.Slice(m.Props, func(i, k int) bool { return m.Props[i].Key < m.Props[k].Key })
		checkMark(t, "n", m, reasons()[r.Intn(4)])
	}
}

// R5: the message is not changed, and what Mark returns shares no memory with it.
func TestMemory(t *testing.T) {
	for _, l := range [][]string{nil, {"a=1"}, {"deaths=1", "died=q 1"}, {"a=1", "deaths=1"}, {"died=q 1", "x=1", "z=2"}, {"a=1", "b=2", "c=3", "d=4", "e=5", "f=6", "g=7", "h=8"}, {"a=1", "b=2", "c=3", "d=4", "deaths=5", "died=p 1", "g=7", "h=8"}} {
		m := having(append(slices.Clone(l), "y=1", "z=2")...)
		m.Props = m.Props[:len(l)]
		before := listed(m.Props[:cap(m.Props)])
		dead.Reason(api.Spec{TTL: 1}, api.Entry{Message: m}, 1)
		dead.From(m)
		dead.Again(m)
		out := dead.Mark("q", m, api.DeadRejected)
		clear(out.Props[:cap(out.Props)])
		if after := listed(m.Props[:cap(m.Props)]); !slices.Equal(after, before) || m.Expires != 70000 {
			t.Errorf("Mark changes %q to %q", before, after)
		}
	}
}

// R1: every call returns, also with messages, descriptions and reasons that are not valid
func TestInvalid(t *testing.T) {
	odd := []int{math.MinInt, -1, 0, 1, 2, 9, api.MaxTick, math.MaxInt}
	for i, x := range odd {
		for k, y := range odd {
			m := having("z=1", "deaths="+strconv.Itoa(y), "A=2", "z=3", "died="+strings.Repeat("q", 50*i)+" "+strconv.Itoa(k))
			m.Props = slices.Repeat(m.Props, 1+i)
			dead.Mark(strings.Repeat("q", 30*i), m, x)
			dead.Mark("", api.Message{}, x)
			dead.Deaths(m)
			dead.From(m)
			dead.Again(m)
			dead.Reason(api.Spec{TTL: x, Attempts: y}, api.Entry{Arrived: y, Attempts: x, Message: m}, odd[(i+k)%len(odd)])
		}
	}
}
