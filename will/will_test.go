package will_test

import (
	"math"
	"math/rand"
	"slices"
	"strconv"
	"strings"
	"testing"

	"broker/api"
	"broker/message"
	"broker/will"
)

// full returns a valid message with a number in which no field is zero; its list of properties has room behind its end.
func full(number int) api.Message {
	props := make([]api.Prop, 0, 9)
	props = append(props, api.Prop{Key: "k", Value: strconv.Itoa(number)}, api.Prop{Key: "n", Value: "v"})
	return api.Message{Topic: "a/b", Payload: "p\x00\xff", Level: 2, Retain: true, Priority: 9, Expires: 70000, From: "x-1", Seq: number, Props: props}
}

// after returns a will with a delay and the message of a number.
func after(delay, number int) api.Will {
	return api.Will{Set: true, Delay: delay, Message: full(number)}
}

// due returns an element of a list with the message of a number.
func due(client string, at, number int) api.Due {
	return api.Due{Client: client, At: at, Message: full(number)}
}

// same reports whether two lists are equal.
func same(a, b []api.Due) bool {
	return slices.EqualFunc(a, b, func(x, y api.Due) bool {
		return x.Client == y.Client && x.At == y.At && message.Same(x.Message, y.Message)
	})
}

// show returns a list as a string of clients, instants and numbers of messages.
func show(l []api.Due) string {
	var parts []string
	for _, d := range l {
		parts = append(parts, strconv.Quote(d.Client)+" at "+strconv.Itoa(d.At)+": "+strconv.Itoa(d.Message.Seq))
	}
	return "[" + strings.Join(parts, ", ") + "]"
}

// valid reports whether a list is valid, as the chapter defines it.
func valid(l []api.Due) bool {
	clients := map[string]bool{}
	for i, d := range l {
		if clients[d.Client] || d.At < 0 || d.At > api.MaxTick {
			return false
		}
		clients[d.Client] = true
		if i > 0 && (l[i-1].At > d.At || l[i-1].At == d.At && l[i-1].Client > d.Client) {
			return false
		}
	}
	return true
}

// table has the wills that wait by their clients.
type table map[string]api.Due

func newTable(l []api.Due) table {
	m := table{}
	for _, d := range l {
		m[d.Client] = d
	}
	return m
}

// list returns the wills that keep accepts, in the order of a list.
func (m table) list(keep func(d api.Due) bool) []api.Due {
	var l []api.Due
	for _, d := range m {
		if keep(d) {
			l = append(l, d)
		}
	}
	slices.SortFunc(l, func(a, b api.Due) int {
		switch {
		case a.At < b.At, a.At == b.At && a.Client < b.Client:
			return -1
		}
		return 1
	})
	return l
}

func (m table) all() []api.Due { return m.list(func(api.Due) bool { return true }) }

// arm is Arm as the chapter defines it.
func (m table) arm(client string, w api.Will, now int) []api.Due {
	delete(m, client)
	if w.Set {
		at := now + w.Delay
		if at > api.MaxTick {
			at = api.MaxTick
		}
		m[client] = api.Due{Client: client, At: at, Message: w.Message}
	}
	return m.all()
}

// checkArm compares Arm with its definition. P18.4: the list is valid.
func checkArm(t *testing.T, l []api.Due, client string, w api.Will, now int) []api.Due {
	t.Helper()
	got := will.Arm(l, client, w, now)
	if want := newTable(l).arm(client, w, now); !same(got, want) || !valid(got) {
		t.Fatalf("Arm of %q with the delay %d (set: %v) at %d in %s = %s, want %s", client, w.Delay, w.Set, now, show(l), show(got), show(want))
	}
	checkNext(t, got)
	return got
}

// checkCancel compares Cancel with its definition. P18.4: the list is valid.
func checkCancel(t *testing.T, l []api.Due, client string) ([]api.Due, bool) {
	t.Helper()
	m := newTable(l)
	_, was := m[client]
	delete(m, client)
	got, found := will.Cancel(l, client)
	if want := m.all(); !same(got, want) || found != was || !valid(got) {
		t.Fatalf("Cancel of %q in %s = %s, %v, want %s, %v", client, show(l), show(got), found, show(want), was)
	}
	checkNext(t, got)
	return got, found
}

// checkTake compares Take with its definition. P18.4: the lists are valid, and Next is greater than now.
func checkTake(t *testing.T, l []api.Due, now int) ([]api.Due, []api.Due) {
	t.Helper()
	m := newTable(l)
	early := func(d api.Due) bool { return d.At <= now }
	late := func(d api.Due) bool { return d.At > now }
	taken, others := will.Take(l, now)
	if wantTaken, wantOthers := m.list(early), m.list(late); !same(taken, wantTaken) || !same(others, wantOthers) || !valid(taken) || !valid(others) {
		t.Fatalf("Take at %d from %s = %s, %s, want %s, %s", now, show(l), show(taken), show(others), show(wantTaken), show(wantOthers))
	}
	checkNext(t, others)
	if at, ok := will.Next(others); ok && at <= now {
		t.Fatalf("Next after Take at %d = %d", now, at)
	}
	return taken, others
}

// checkNext compares Next with its definition.
func checkNext(t *testing.T, l []api.Due) {
	t.Helper()
	want := 0
	if len(l) > 0 {
		want = l[0].At
	}
	if at, ok := will.Next(l); at != want || ok != (len(l) > 0) {
		t.Fatalf("Next of %s = %d, %v", show(l), at, ok)
	}
}

// checkList says whether a list is the one that is expected.
func checkList(t *testing.T, what string, got []api.Due, want ...api.Due) {
	t.Helper()
	if !same(got, want) {
		t.Errorf("%s: %s, want %s", what, show(got), show(want))
	}
}

// P18.1 to P18.3, the examples
func TestExamples(t *testing.T) {
	l := checkArm(t, nil, "b", after(5, 1), 10)
	l = checkArm(t, l, "a", after(5, 2), 10)
	checkList(t, "Arm", l, due("a", 15, 2), due("b", 15, 1))
	if at, ok := will.Next(l); at != 15 || !ok {
		t.Errorf("Next = %d, %v", at, ok)
	}
	taken, others := checkTake(t, l, 14)
	checkList(t, "Take at 14", taken)
	checkList(t, "the others of Take at 14", others, l...)
	taken, others = checkTake(t, l, 15)
	checkList(t, "Take at 15", taken, l...)
	checkList(t, "the others of Take at 15", others)

	checkList(t, "Arm again", checkArm(t, l, "a", after(2, 3), 11), due("a", 13, 3), due("b", 15, 1))
	checkList(t, "Arm without a will", checkArm(t, l, "a", api.Will{}, 11), due("b", 15, 1))
	checkList(t, "Arm with a huge delay", checkArm(t, nil, "a", after(1<<40, 4), 1), due("a", 1<<40, 4))

	for _, x := range []struct {
		w    api.Will
		code api.Errno
	}{
		{api.Will{Delay: 1}, api.ErrField}, {api.Will{Message: api.Message{Topic: "t"}}, api.ErrField}, {api.Will{Set: true, Delay: -1}, api.ErrRange}, {api.Will{Set: true}, api.ErrTopic},
	} {
		if code := will.Check(x.w); code != x.code {
			t.Errorf("Check of %+v = %d, want %d", x.w, code, x.code)
		}
	}
}

// P18.1: a will that is not set has no other field.
func TestCheckUnset(t *testing.T) {
	for _, w := range []api.Will{{}, {Message: api.Message{Props: []api.Prop{}}}, {Message: api.Message{Props: make([]api.Prop, 0, 5)}}} {
		if code := will.Check(w); code != api.OK {
			t.Errorf("Check of %+v = %d", w, code)
		}
	}
	for _, delay := range []int{1, -1, api.MaxTick, api.MaxTick + 1, math.MinInt, math.MaxInt} {
		if code := will.Check(api.Will{Delay: delay}); code != api.ErrField {
			t.Errorf("Check of the delay %d of no will = %d", delay, code)
		}
	}
	for _, m := range []api.Message{
		{Topic: "t"}, {Topic: "#"}, {Payload: "p"}, {Payload: strings.Repeat("p", api.MaxPayload+1)}, {Level: 1}, {Level: -1}, {Retain: true}, {Priority: 1}, {Priority: -1}, {Expires: 1}, {Expires: -1}, {From: "f"}, {From: "F"}, {Seq: 1}, {Seq: -1},
		{Props: []api.Prop{{}}}, {Props: []api.Prop{{Key: "k", Value: "v"}}}, full(1),
	} {
		if code := will.Check(api.Will{Message: m}); code != api.ErrField {
			t.Errorf("Check of the message %+v of no will = %d", m, code)
		}
		if code := will.Check(api.Will{Delay: -1, Message: m}); code != api.ErrField {
			t.Errorf("Check of the message %+v and a delay of no will = %d", m, code)
		}
	}
}

// P18.1: a will that is set has a delay in its range, and then a valid message.
func TestCheckSet(t *testing.T) {
	for _, delay := range []int{0, 1, 5, api.MaxTick - 1, api.MaxTick} {
		for _, m := range []api.Message{{Topic: "t"}, full(1), {Topic: "a/b", Payload: strings.Repeat("p", api.MaxPayload), Expires: api.MaxTick, Seq: api.MaxNumber}} {
			if code := will.Check(api.Will{Set: true, Delay: delay, Message: m}); code != api.OK {
				t.Errorf("Check with the delay %d and %+v = %d", delay, m, code)
			}
		}
	}
	invalid := []struct {
		code api.Errno
		make func(m *api.Message)
	}{
		{api.ErrTopic, func(m *api.Message) { m.Topic = "" }}, {api.ErrTopic, func(m *api.Message) { m.Topic = "a/#" }}, {api.ErrTooLong, func(m *api.Message) { m.Payload = strings.Repeat("p", api.MaxPayload+1) }},
		{api.ErrLevel, func(m *api.Message) { m.Level = 3 }}, {api.ErrRange, func(m *api.Message) { m.Priority = api.MaxPriority + 1 }}, {api.ErrRange, func(m *api.Message) { m.Expires = api.MaxTick + 1 }},
		{api.ErrName, func(m *api.Message) { m.From = "X" }}, {api.ErrRange, func(m *api.Message) { m.Seq = -1 }}, {api.ErrProps, func(m *api.Message) { m.Props = []api.Prop{{Key: "b"}, {Key: "a"}} }},
		{api.ErrTooLong, func(m *api.Message) { m.Props = make([]api.Prop, api.MaxProps+1) }},
	}
	for i, x := range invalid {
		m := full(1)
		x.make(&m)
		for delay, want := range map[int]api.Errno{0: x.code, api.MaxTick: x.code, -1: api.ErrRange, api.MaxTick + 1: api.ErrRange, math.MinInt: api.ErrRange, math.MaxInt: api.ErrRange} {
			if code := will.Check(api.Will{Set: true, Delay: delay, Message: m}); code != want || code == api.OK {
				t.Errorf("Check with the delay %d and the defect %d of the message = %d, want %d", delay, i, code, want)
			}
		}
	}
	for _, delay := range []int{-1, -2, api.MaxTick + 1, math.MinInt, math.MaxInt} {
		if code := will.Check(api.Will{Set: true, Delay: delay, Message: full(1)}); code != api.ErrRange {
			t.Errorf("Check with the delay %d = %d", delay, code)
		}
	}
}

// P18.2: the place of a new element, among elements of other instants and of its own one
func TestArmPlace(t *testing.T) {
	l := []api.Due{due("c", 5, 1), due("a", 10, 2), due("c1", 10, 3), due("e", 10, 4), due("d", 11, 5), due("b", 20, 6)}
	for _, client := range []string{"", "0", "a", "a0", "b", "c", "c0", "c1", "c10", "d", "e", "f", "A", "é", "\xff", "a\x00"} {
		for at := range 23 {
			for _, now := range []int{0, at / 2, at} {
				got := checkArm(t, l, client, after(at-now, 7), now)
				i := slices.IndexFunc(got, func(d api.Due) bool { return d.Client == client })
				if i < 0 || got[i].At != at || !message.Same(got[i].Message, full(7)) {
					t.Errorf("Arm of %q at %d with the delay %d = %s", client, now, at-now, show(got))
				}
			}
		}
	}
	checkList(t, "before all", checkArm(t, l, "a0", after(0, 7), 4), slices.Insert(slices.Clone(l), 0, due("a0", 4, 7))...)
	checkList(t, "behind all", checkArm(t, l, "a0", after(1, 7), 20), append(slices.Clone(l), due("a0", 21, 7))...)
	checkList(t, "the second one of an instant", checkArm(t, l, "a0", after(5, 7), 5), slices.Insert(slices.Clone(l), 2, due("a0", 10, 7))...)
	checkList(t, "the same client, later", checkArm(t, l, "c", after(5, 7), 5), due("a", 10, 2), due("c", 10, 7), due("c1", 10, 3), due("e", 10, 4), due("d", 11, 5), due("b", 20, 6))
	checkList(t, "the same client, earlier", checkArm(t, l, "b", after(0, 7), 10), due("c", 5, 1), due("a", 10, 2), due("b", 10, 7), due("c1", 10, 3), due("e", 10, 4), due("d", 11, 5))
	checkList(t, "the same client at the same instant", checkArm(t, l, "e", after(3, 7), 7), due("c", 5, 1), due("a", 10, 2), due("c1", 10, 3), due("e", 10, 7), due("d", 11, 5), due("b", 20, 6))
}

// P18.2: the instant is at most MaxTick.
func TestArmInstant(t *testing.T) {
	for _, x := range []struct{ now, delay, at int }{
		{0, 0, 0}, {0, 1, 1}, {7, 0, 7}, {7, 3, 10}, {0, api.MaxTick, api.MaxTick}, {api.MaxTick, 0, api.MaxTick}, {api.MaxTick - 1, 0, api.MaxTick - 1}, {api.MaxTick - 1, 1, api.MaxTick},
		{api.MaxTick - 1, 2, api.MaxTick}, {1, api.MaxTick, api.MaxTick}, {1, api.MaxTick - 1, api.MaxTick}, {1, api.MaxTick - 2, api.MaxTick - 1}, {api.MaxTick, api.MaxTick, api.MaxTick}, {1 << 39, 1 << 39, api.MaxTick}, {1 << 39, 1<<39 + 1, api.MaxTick},
	} {
		checkList(t, "Arm", checkArm(t, nil, "c", after(x.delay, 1), x.now), due("c", x.at, 1))
		checkArm(t, []api.Due{due("a", 3, 2), due("b", api.MaxTick, 3), due("d", api.MaxTick, 4)}, "c", after(x.delay, 1), x.now)
	}
}

// P18.2: a will that is not set removes the client's element, wherever it stands, and adds none.
func TestArmUnset(t *testing.T) {
	l := []api.Due{due("c", 5, 1), due("a", 10, 2), due("b", 10, 3), due("d", 11, 4)}
	for _, client := range []string{"a", "b", "c", "d", "", "e", "A", "aa"} {
		checkArm(t, l, client, api.Will{}, 7)
	}
	checkList(t, "of an empty list", checkArm(t, nil, "a", api.Will{}, 0))
	checkList(t, "of its only element", checkArm(t, []api.Due{due("a", 0, 1)}, "a", api.Will{}, 0))
}

// P18.2: every field of a message stays; clients need not be names, nor messages valid.
func TestFields(t *testing.T) {
	odd := []api.Due{
		{Client: "", At: 0}, {Client: "A b", At: 0, Message: api.Message{Level: 9, Props: make([]api.Prop, 40)}}, {Client: strings.Repeat("x", 99), At: 1, Message: api.Message{Topic: "#", Payload: strings.Repeat("p", 999), Expires: -1, Seq: -7}},
		{Client: "\xff", At: api.MaxTick, Message: full(3)},
	}
	for _, client := range []string{"", "A b", strings.Repeat("x", 99), "\xff", "c", "\xff\xff"} {
		for _, now := range []int{0, 1, 2, api.MaxTick} {
			l := checkArm(t, odd, client, after(0, 5), now)
			checkTake(t, l, now)
			checkCancel(t, l, client)
			checkArm(t, odd, client, api.Will{Set: true, Message: api.Message{Topic: "t"}}, now)
		}
		checkCancel(t, odd, client)
	}
}

// P18.2: Cancel, of each element and of clients that have none
func TestCancel(t *testing.T) {
	l := []api.Due{due("c", 5, 1), due("a", 10, 2), due("b", 10, 3), due("d", 11, 4)}
	for i, d := range l {
		got, was := checkCancel(t, l, d.Client)
		checkList(t, "Cancel of "+d.Client, got, slices.Delete(slices.Clone(l), i, i+1)...)
		if !was {
			t.Errorf("Cancel of %s finds none", d.Client)
		}
	}
	for _, client := range []string{"", "e", "A", "aa", "a\x00"} {
		got, was := checkCancel(t, l, client)
		checkList(t, "Cancel of "+client, got, l...)
		if was {
			t.Errorf("Cancel of %s finds one", client)
		}
	}
	if got, was := checkCancel(t, nil, "a"); len(got) > 0 || was {
		t.Errorf("Cancel in an empty list = %s, %v", show(got), was)
	}
	if got, was := checkCancel(t, []api.Due{due("a", 1, 1)}, "a"); len(got) > 0 || !was {
		t.Errorf("Cancel of the only element = %s, %v", show(got), was)
	}
}

// P18.3: Take at every instant around those of a list, and at the bounds
func TestTake(t *testing.T) {
	l := []api.Due{due("z", 0, 1), due("c", 5, 2), due("a", 10, 3), due("b", 10, 4), due("d", 11, 5), due("e", api.MaxTick, 6)}
	for _, x := range []struct{ now, n int }{{0, 1}, {1, 1}, {4, 1}, {5, 2}, {6, 2}, {9, 2}, {10, 4}, {11, 5}, {12, 5}, {api.MaxTick - 1, 5}, {api.MaxTick, 6}} {
		taken, others := checkTake(t, l, x.now)
		checkList(t, "Take", taken, l[:x.n]...)
		checkList(t, "the others", others, l[x.n:]...)
		checkTake(t, l[1:], x.now)
		checkTake(t, nil, x.now)
	}
}

// P18.3
func TestNext(t *testing.T) {
	for _, l := range [][]api.Due{nil, {}, {due("a", 0, 1)}, {due("a", 7, 1)}, {due("b", 7, 1), due("c", 7, 2), due("a", 8, 3)}, {due("a", api.MaxTick, 1)}} {
		checkNext(t, l)
	}
	if at, ok := will.Next([]api.Due{due("b", 7, 1), due("a", 9, 2)}); at != 7 || !ok {
		t.Errorf("Next = %d, %v", at, ok)
	}
	if at, ok := will.Next([]api.Due{due("a", 0, 1)}); at != 0 || !ok {
		t.Errorf("Next of a list that begins at 0 = %d, %v", at, ok)
	}
	if at, ok := will.Next(nil); at != 0 || ok {
		t.Errorf("Next of an empty list = %d, %v", at, ok)
	}
}

// P18.4: calls in no particular order; a will is taken at the first Take whose instant is at least its own, once, unless it was canceled or replaced.
func TestCalls(t *testing.T) {
	r := rand.New(rand.NewSource(18))
	for range 200 {
		var l []api.Due
		waits := map[int]int{} // the instants of the wills that wait, by the numbers of their messages
		owner := map[string]int{}
		now := 0
		for number := 1; number <= 80; number++ {
			client := string(rune('a' + r.Intn(8)))
			switch r.Intn(6) {
			case 0:
				l, _ = checkCancel(t, l, client)
				delete(waits, owner[client])
			case 1:
				l = checkArm(t, l, client, api.Will{}, now)
				delete(waits, owner[client])
			case 2:
				taken, others := checkTake(t, l, now)
				for _, d := range taken {
					if at, ok := waits[d.Message.Seq]; !ok || at > now || at != d.At {
						t.Fatalf("Take at %d from %s takes %s", now, show(l), show([]api.Due{d}))
					}
					delete(waits, d.Message.Seq)
				}
				for number, at := range waits {
					if at <= now {
						t.Fatalf("Take at %d from %s does not take %d", now, show(l), number)
					}
				}
				l = others
			default:
				delay := r.Intn(12)
				l = checkArm(t, l, client, after(delay, number), now)
				delete(waits, owner[client])
				waits[number], owner[client] = now+delay, number
			}
			if len(l) != len(waits) {
				t.Fatalf("the list is %s, want %v", show(l), waits)
			}
			now += r.Intn(3)
		}
	}
}

// spoil overwrites all memory of a list, including what lies behind the ends of slices.
func spoil(l []api.Due) {
	l = l[:cap(l)]
	for i := range l {
		spoilProps(l[i].Message.Props)
		l[i] = api.Due{Client: "spoiled", At: -1}
	}
}

func spoilProps(l []api.Prop) {
	l = l[:cap(l)]
	for i := range l {
		l[i] = api.Prop{Key: "spoiled", Value: "spoiled"}
	}
}

// roomy returns a list of n elements, behind whose end there is room with other elements.
func roomy(n int) []api.Due {
	l := make([]api.Due, 0, 20)
	for i := range 15 {
		l = append(l, due(string(rune('a'+i)), 10*i, i))
	}
	return l[:n]
}

// checkIntact says that a list that roomy returned is as it was, also behind its end.
func checkIntact(t *testing.T, what string, l []api.Due) {
	t.Helper()
	if !same(l[:15], roomy(15)) {
		t.Errorf("%s: the list has become %s", what, show(l[:15]))
	}
	for _, d := range l[:15] {
		if rest := d.Message.Props[len(d.Message.Props):cap(d.Message.Props)]; rest[0] != (api.Prop{}) {
			t.Errorf("%s: behind the properties is %v", what, rest)
		}
	}
}

// R5: Arm neither changes nor keeps the list and the will.
func TestArmMemory(t *testing.T) {
	for _, n := range []int{0, 1, 4} {
		for _, client := range []string{"a", "b", "d", "x"} {
			for now := range 40 {
				for _, w := range []api.Will{after(0, 77), {}} {
					l := roomy(n)
					spoil(will.Arm(l, client, w, now))
					checkIntact(t, "Arm", l)
					if w.Set && !message.Same(w.Message, full(77)) {
						t.Fatalf("Arm's list shares memory with the will %+v", w)
					}
					got := will.Arm(l, client, w, now)
					want := newTable(roomy(n)).arm(client, api.Will{Set: w.Set, Message: full(77)}, now)
					spoil(l)
					spoilProps(w.Message.Props)
					checkList(t, "Arm keeps memory", got, want...)
				}
			}
		}
	}
}

// R5: Cancel and Take neither change nor keep the list, and Take's results share no memory.
func TestOtherMemory(t *testing.T) {
	for _, n := range []int{0, 1, 4} {
		for _, client := range []string{"a", "b", "d", "x"} {
			l := roomy(n)
			got, _ := will.Cancel(l, client)
			spoil(got)
			checkIntact(t, "Cancel", l)
			got, _ = will.Cancel(l, client)
			m := newTable(roomy(n))
			delete(m, client)
			spoil(l)
			checkList(t, "Cancel keeps memory", got, m.all()...)
		}
		for _, now := range []int{-1, 0, 15, 30} {
			k := min(n, (now+10)/10)
			l := roomy(n)
			taken, others := will.Take(l, now)
			spoil(taken)
			checkIntact(t, "Take", l)
			checkList(t, "the others share memory with what is taken", others, roomy(n)[k:]...)
			taken, others = will.Take(l, now)
			spoil(others)
			checkIntact(t, "the others of Take", l)
			spoil(l)
			checkList(t, "what is taken shares memory with the others or the list", taken, roomy(n)[:k]...)
			l = roomy(n)
			_, others = will.Take(l, now)
			spoil(l)
			checkList(t, "the others share memory with the list", others, roomy(n)[k:]...)
		}
	}
}

// R5: two lists that were made of one do not overwrite each other's elements.
func TestArmTwice(t *testing.T) {
	l := will.Arm(roomy(3), "x", after(0, 77), 100)
	a, b, c := will.Arm(l, "y", after(0, 78), 101), will.Arm(l, "z", after(0, 79), 102), will.Arm(l, "w", after(0, 80), 5)
	checkList(t, "the list", l, append(roomy(3), due("x", 100, 77))...)
	checkList(t, "with y", a, append(roomy(3), due("x", 100, 77), due("y", 101, 78))...)
	checkList(t, "with z", b, append(roomy(3), due("x", 100, 77), due("z", 102, 79))...)
	checkList(t, "with w", c, due("a", 0, 0), due("w", 5, 80), due("b", 10, 1), due("c", 20, 2), due("x", 100, 77))
}

// R5: the elements of one result share no memory with each other, though those of the argument do.
func TestApart(t *testing.T) {
	m := full(1)
	l := []api.Due{{Client: "a", At: 1, Message: m}, {Client: "b", At: 2, Message: m}, {Client: "c", At: 3, Message: m}}
	checkApart := func(what string, got ...api.Due) {
		t.Helper()
		for i := range got {
			spoilProps(got[i].Message.Props)
			for _, other := range got[i+1:] {
				if !message.Same(other.Message, full(1)) {
					t.Fatalf("%s: messages share memory", what)
				}
			}
		}
		if !message.Same(m, full(1)) {
			t.Fatalf("%s: the message has become %v", what, m)
		}
	}
	checkApart("Arm", will.Arm(l, "d", api.Will{Set: true, Message: m}, 2)...)
	rest, _ := will.Cancel(l, "b")
	checkApart("Cancel", rest...)
	rest, _ = will.Cancel(l, "x")
	checkApart("Cancel of none", rest...)
	taken, others := will.Take(l, 2)
	checkApart("Take", append(taken, others...)...)
}

// R1: nothing is promised for lists that are not valid, and for wills and instants that are not, but an end.
func TestInvalid(t *testing.T) {
	bad := []api.Due{due("b", 9, 1), due("a", -3, 2), due("b", 9, 3), {Client: "c", At: math.MaxInt}, {Client: "a", At: math.MinInt}}
	for _, l := range [][]api.Due{nil, bad, bad[1:], bad[3:]} {
		for _, now := range []int{math.MinInt, -1, 0, 9, math.MaxInt} {
			for _, delay := range []int{math.MinInt, -1, 0, math.MaxInt} {
				for _, client := range []string{"", "a", "b", "x"} {
					will.Arm(l, client, api.Will{Set: true, Delay: delay}, now)
					will.Arm(l, client, api.Will{Delay: delay, Message: full(1)}, now)
					will.Cancel(l, client)
				}
			}
			will.Take(l, now)
		}
		will.Next(l)
	}
}
