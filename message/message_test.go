package message_test

import (
	"bytes"
	"math"
	"reflect"
	"slices"
	"strings"
	"testing"

	"broker/api"
	"broker/message"
	"broker/pack"
	"broker/topic"
)

// props makes properties of keys and values that alternate.
func props(texts ...string) []api.Prop {
	var l []api.Prop
	for i := 0; i < len(texts); i += 2 {
		l = append(l, api.Prop{Key: texts[i], Value: texts[i+1]})
	}
	return l
}

// many returns n properties in canonical order.
func many(n int) []api.Prop {
	var l []api.Prop
	for i := range n {
		l = append(l, api.Prop{Key: "k" + string(rune('a'+i)), Value: strings.Repeat("v", i)})
	}
	return l
}

// full returns a valid message in which no field is zero.
func full() api.Message {
	return api.Message{Topic: "a/b", Payload: "p\x00\xff", Level: 2, Retain: true, Priority: 9, Expires: 70000, From: "x-1", Seq: 300, Props: props("a", "1", "b", "")}
}

// valid returns valid messages, with each field at its bounds.
func valid() []api.Message {
	small := api.Message{Topic: "t"}
	large := api.Message{
		Topic: strings.Repeat("t", api.MaxTopic), Payload: strings.Repeat("\xff", api.MaxPayload), Level: 2, Retain: true, Priority: api.MaxPriority,
		Expires: api.MaxTick, From: strings.Repeat("f", api.MaxName), Seq: api.MaxNumber,
	}
	for i := range api.MaxProps {
		large.Props = append(large.Props, api.Prop{Key: strings.Repeat(string(rune('a'+i)), api.MaxKey), Value: strings.Repeat("v", api.MaxValue)})
	}
	l := []api.Message{small, large, full(), {Topic: "t", Payload: "p", Level: 1, Retain: true, Priority: 2, Expires: 3, From: "x", Seq: 4}}
	for i := range 9 {
		m := small
		switch i {
		case 0:
			m.Payload = "\x00"
		case 1:
			m.Level = 1
		case 2:
			m.Retain = true
		case 3:
			m.Priority = 1
		case 4:
			m.Expires = 64
		case 5:
			m.From = "f"
		case 6:
			m.Seq = 8192
		case 7:
			m.Props = props("-", "")
		case 8:
			m.Props = many(api.MaxProps)
		}
		l = append(l, m)
	}
	return l
}

// defect makes one field of a message invalid.
type defect struct {
	name string
	code api.Errno
	make func(m *api.Message)
}

// defects are in the order in which Check looks for them.
func defects() []defect {
	return []defect{
		{"Topic", api.ErrTopic, func(m *api.Message) { m.Topic = "a/+" }},
		{"Payload", api.ErrTooLong, func(m *api.Message) { m.Payload = strings.Repeat("p", api.MaxPayload+1) }},
		{"Level", api.ErrLevel, func(m *api.Message) { m.Level = 3 }},
		{"Priority", api.ErrRange, func(m *api.Message) { m.Priority = -1 }},
		{"Expires", api.ErrRange, func(m *api.Message) { m.Expires = -1 }},
		{"From", api.ErrName, func(m *api.Message) { m.From = "9" }},
		{"Seq", api.ErrRange, func(m *api.Message) { m.Seq = -1 }},
		{"Props", api.ErrProps, func(m *api.Message) { m.Props = props("b", "", "a", "") }},
	}
}

// P5.1, the examples and the edges
func TestProps(t *testing.T) {
	long, longer := strings.Repeat("v", api.MaxValue), strings.Repeat("v", api.MaxValue+1)
	key := strings.Repeat("k", api.MaxKey)
	for _, x := range []struct {
		l    []api.Prop
		want api.Errno
	}{
		{nil, api.OK}, {[]api.Prop{}, api.OK}, {props("a", "1", "b", "2"), api.OK}, {props("b", "2", "a", "1"), api.ErrProps}, {props("a", "1", "a", "1"), api.ErrProps}, {props("A", ""), api.ErrProps},
		{props(key, ""), api.OK}, {props(key+"k", ""), api.ErrProps}, {props("", ""), api.ErrProps}, {props("a", long), api.OK}, {props("a", longer), api.ErrTooLong},
		{props("-", "", "0", "", "9", "", "9-", "", "a", "", "aa", "", "ab", "", "b", ""), api.OK}, {props("aa", "", "a", ""), api.ErrProps}, {props("a", "", "9", ""), api.ErrProps}, {props("0", "", "-", ""), api.ErrProps},
		{many(api.MaxProps), api.OK}, {many(api.MaxProps + 1), api.ErrTooLong}, {append(props("A", ""), many(api.MaxProps)...), api.ErrTooLong}, {append(many(api.MaxProps), many(1)...), api.ErrTooLong}, {append(many(api.MaxProps-1), many(1)...), api.ErrProps},
		{props("A", longer), api.ErrProps}, {props("a", longer, "A", ""), api.ErrTooLong}, {props("A", "", "a", longer), api.ErrProps},
		{props("b", "", "a", longer), api.ErrTooLong}, {props("b", "", "A", longer), api.ErrProps}, {props("b", "", "a", "", "c", longer), api.ErrProps}, {props("b", longer, "a", ""), api.ErrTooLong},
		{props("a", "", "c", "", "b", ""), api.ErrProps}, {props("a", "", "b", "", "a", ""), api.ErrProps}, {props("a", "\x00\xff"), api.OK},
		{props("é", ""), api.ErrProps}, {props("a\xff", ""), api.ErrProps}, {props("a\x00", ""), api.ErrProps}, {props("a b", ""), api.ErrProps}, {props("a_b", ""), api.ErrProps}, {props("a", "", "", ""), api.ErrProps},
	} {
		if got := message.Props(x.l); got != x.want {
			t.Errorf("Props(%q) = %d, want %d", x.l, got, x.want)
		}
	}
}

// P5.1, the definition of a key, for every byte
func TestKeys(t *testing.T) {
	for c := range 256 {
		want := api.ErrProps
		if strings.IndexByte("abcdefghijklmnopqrstuvwxyz0123456789-", byte(c)) >= 0 {
			want = api.OK
		}
		for _, key := range []string{string([]byte{byte(c)}), string([]byte{'a', byte(c)}), string([]byte{byte(c), 'a'})} {
			if got := message.Props(props(key, "")); got != want {
				t.Errorf("Props with the key %q = %d", key, got)
			}
			if _, got := message.Set(nil, key, ""); got != want {
				t.Errorf("Set of the key %q: %d", key, got)
			}
		}
	}
}

// P5.2
func TestGet(t *testing.T) {
	odd := props("b", "1", "A", "2", "b", "3", "", "4", "a", "", strings.Repeat("k", 99), "5")
	for _, x := range []struct {
		l     []api.Prop
		key   string
		value string
		found bool
	}{
		{nil, "a", "", false}, {nil, "", "", false}, {props("a", "1", "b", "2"), "a", "1", true}, {props("a", "1", "b", "2"), "b", "2", true}, {props("a", "1", "b", "2"), "c", "", false}, {props("a", "1", "b", "2"), "", "", false},
		{odd, "b", "1", true}, {odd, "A", "2", true}, {odd, "", "4", true}, {odd, "a", "", true}, {odd, strings.Repeat("k", 99), "5", true}, {odd, "k", "", false}, {odd, "B", "", false},
		{append(many(20), props("z", "26")...), "z", "26", true},
	} {
		if value, found := message.Get(x.l, x.key); value != x.value || found != x.found {
			t.Errorf("Get(%q, %q) = %q, %v", x.l, x.key, value, found)
		}
	}
}

// P5.3, the examples, the edges and the errors
func TestSet(t *testing.T) {
	long, longer := strings.Repeat("v", api.MaxValue), strings.Repeat("v", api.MaxValue+1)
	eight := many(api.MaxProps)
	other := slices.Clone(eight)
	other[7].Value = "new"
	for _, x := range []struct {
		l          []api.Prop
		key, value string
		want       []api.Prop
		code       api.Errno
	}{
		{props("a", "1", "c", "3"), "b", "2", props("a", "1", "b", "2", "c", "3"), api.OK}, {props("a", "1", "b", "2", "c", "3"), "a", "", props("a", "", "b", "2", "c", "3"), api.OK},
		{nil, "a", "1", props("a", "1"), api.OK}, {props("b", "1"), "a", "2", props("a", "2", "b", "1"), api.OK}, {props("b", "1"), "c", "2", props("b", "1", "c", "2"), api.OK}, {props("b", "1"), "b", "1", props("b", "1"), api.OK},
		{props("a", "1"), "aa", "2", props("a", "1", "aa", "2"), api.OK}, {props("aa", "1"), "a", "2", props("a", "2", "aa", "1"), api.OK}, {props("a", "1"), "9", "2", props("9", "2", "a", "1"), api.OK}, {props("0", "1"), "-", "2", props("-", "2", "0", "1"), api.OK},
		{nil, "a", long, props("a", long), api.OK}, {nil, strings.Repeat("k", api.MaxKey), "", props(strings.Repeat("k", api.MaxKey), ""), api.OK},
		{eight, eight[7].Key, "new", other, api.OK}, {eight[:7], "kz", "", append(slices.Clone(eight[:7]), props("kz", "")...), api.OK},
		{eight, "k", "", nil, api.ErrTooLong}, {eight, "kz", "", nil, api.ErrTooLong}, {eight, "K", "", nil, api.ErrProps}, {eight, "", "", nil, api.ErrProps}, {eight, eight[0].Key, longer, nil, api.ErrTooLong},
		{nil, "A", "1", nil, api.ErrProps}, {nil, "", "1", nil, api.ErrProps}, {nil, strings.Repeat("k", api.MaxKey+1), "", nil, api.ErrProps}, {nil, "A", longer, nil, api.ErrProps}, {nil, "a", longer, nil, api.ErrTooLong}, {props("a", "1"), "a", longer, nil, api.ErrTooLong},
		{props("b", "", "a", ""), "c", "", nil, api.ErrProps}, {props("b", "", "a", ""), "c", longer, nil, api.ErrProps}, {props("a", "", "a", ""), "a", "", nil, api.ErrProps}, {props("a", longer), "a", "", nil, api.ErrTooLong}, {props("a", longer), "A", "", nil, api.ErrTooLong},
		{many(api.MaxProps + 1), "ka", "", nil, api.ErrTooLong}, {many(api.MaxProps + 1), "A", "", nil, api.ErrTooLong},
	} {
		if got, code := message.Set(x.l, x.key, x.value); !slices.Equal(got, x.want) || code != x.code {
			t.Errorf("Set(%q, %q, %q) = %q, %d", x.l, x.key, x.value, got, code)
		}
	}
}

// C5.3, for each key and all lists with some of seven keys
func TestMessageSets(t *testing.T) {
	keys := []string{"-", "0", "a", "a-", "aa", "b", "zz"}
	for subset := range 1 << len(keys) {
		var l []api.Prop
		for i, key := range keys {
			if subset>>i&1 == 1 {
				l = append(l, api.Prop{Key: key, Value: "v" + key})
			}
		}
		before := slices.Clone(l)
		for i, key := range keys {
			got, code := message.Set(l, key, "new")
			if code != api.OK || message.Props(got) != api.OK {
				t.Fatalf("Set(%q, %q) = %q, %d", l, key, got, code)
			}
			size := len(l)
			if subset>>i&1 == 0 {
				size++
			}
			if len(got) != size {
				t.Errorf("Set(%q, %q) = %q", l, key, got)
			}
			for _, k := range keys {
				want, has := message.Get(l, k)
				if k == key {
					want, has = "new", true
				}
				if value, found := message.Get(got, k); value != want || found != has {
					t.Errorf("Set(%q, %q) = %q", l, key, got)
				}
			}
		}
		if !slices.Equal(l, before) {
			t.Errorf("Set modifies %q", before)
		}
	}
}

// R5: Set neither writes into its argument's memory, its capacity included, nor returns it.
func TestSetIsNew(t *testing.T) {
	for _, key := range []string{"a", "b", "c", "d", "e"} {
		room := props("b", "1", "d", "2", "x", "3", "y", "4")
		first, _ := message.Set(room[:2], key, "new")
		kept := slices.Clone(first)
		second, _ := message.Set(room[:2], key, "other")
		_ = append(first, api.Prop{Key: "z"})
		clear(second[:cap(second)])
		if !slices.Equal(room, props("b", "1", "d", "2", "x", "3", "y", "4")) {
			t.Errorf("Set of %q changes its argument: %q", key, room)
		}
		if !slices.Equal(first, kept) {
			t.Errorf("results of Set of %q share memory", key)
		}
		clear(first[:cap(first)])
		if !slices.Equal(room, props("b", "1", "d", "2", "x", "3", "y", "4")) {
			t.Errorf("the result of Set of %q is its argument", key)
		}
	}
}

// P5.4, each field
func TestCheckFields(t *testing.T) {
	for _, m := range valid() {
		if code := message.Check(m); code != api.OK {
			t.Errorf("Check(%+v) = %d", m, code)
		}
	}
	longer := strings.Repeat("v", api.MaxValue+1)
	for _, x := range []struct {
		name string
		make func(m *api.Message)
		want api.Errno
	}{
		{"no Topic", func(m *api.Message) { m.Topic = "" }, api.ErrTopic}, {"# in Topic", func(m *api.Message) { m.Topic = "a/#" }, api.ErrTopic}, {"0 in Topic", func(m *api.Message) { m.Topic = "a\x00" }, api.ErrTopic},
		{"long Topic", func(m *api.Message) { m.Topic = strings.Repeat("t", api.MaxTopic+1) }, api.ErrTopic}, {"deep Topic", func(m *api.Message) { m.Topic = "a/b/c/d/e/f/g/h/i" }, api.ErrTopic}, {"system Topic", func(m *api.Message) { m.Topic = "$sys/a" }, api.OK}, {"Topic of slashes", func(m *api.Message) { m.Topic = "/" }, api.OK},
		{"no Payload", func(m *api.Message) { m.Payload = "" }, api.OK}, {"long Payload", func(m *api.Message) { m.Payload = strings.Repeat("p", api.MaxPayload+1) }, api.ErrTooLong},
		{"Level -1", func(m *api.Message) { m.Level = -1 }, api.ErrLevel}, {"Level 0", func(m *api.Message) { m.Level = 0 }, api.OK}, {"Level 3", func(m *api.Message) { m.Level = 3 }, api.ErrLevel}, {"least Level", func(m *api.Message) { m.Level = math.MinInt }, api.ErrLevel},
		{"Priority -1", func(m *api.Message) { m.Priority = -1 }, api.ErrRange}, {"Priority 0", func(m *api.Message) { m.Priority = 0 }, api.OK}, {"Priority 10", func(m *api.Message) { m.Priority = api.MaxPriority + 1 }, api.ErrRange},
		{"Expires -1", func(m *api.Message) { m.Expires = -1 }, api.ErrRange}, {"Expires 0", func(m *api.Message) { m.Expires = 0 }, api.OK}, {"late Expires", func(m *api.Message) { m.Expires = api.MaxTick + 1 }, api.ErrRange},
		{"no From", func(m *api.Message) { m.From = "" }, api.OK}, {"From 9", func(m *api.Message) { m.From = "9" }, api.ErrName}, {"From A", func(m *api.Message) { m.From = "A" }, api.ErrName}, {"long From", func(m *api.Message) { m.From = strings.Repeat("f", api.MaxName+1) }, api.ErrName},
		{"Seq -1", func(m *api.Message) { m.Seq = -1 }, api.ErrRange}, {"Seq 0", func(m *api.Message) { m.Seq = 0 }, api.OK}, {"large Seq", func(m *api.Message) { m.Seq = api.MaxNumber + 1 }, api.ErrRange}, {"largest Seq", func(m *api.Message) { m.Seq = math.MaxInt }, api.ErrRange},
		{"too many Props", func(m *api.Message) { m.Props = many(api.MaxProps + 1) }, api.ErrTooLong}, {"bad key", func(m *api.Message) { m.Props = props("A", longer) }, api.ErrProps}, {"long value", func(m *api.Message) { m.Props = props("a", longer) }, api.ErrTooLong},
		{"keys that do not ascend", func(m *api.Message) { m.Props = props("b", "", "a", "") }, api.ErrProps}, {"no Props", func(m *api.Message) { m.Props = []api.Prop{} }, api.OK},
	} {
		m := full()
		x.make(&m)
		if code := message.Check(m); code != x.want {
			t.Errorf("Check with %s = %d, want %d", x.name, code, x.want)
		}
	}
	if code := message.Check(api.Message{}); code != api.ErrTopic {
		t.Errorf("Check of the zero message = %d", code)
	}
}

// P5.4, the order of the errors
func TestCheckOrder(t *testing.T) {
	l := defects()
	for i, first := range l {
		for _, second := range l[i:] {
			m := full()
			second.make(&m)
			first.make(&m)
			if code := message.Check(m); code != first.code {
				t.Errorf("Check with %s and %s invalid = %d", first.name, second.name, code)
			}
		}
	}
}

// P5.5
func TestExpired(t *testing.T) {
	for _, x := range []struct {
		expires, now int
		want         bool
	}{
		{5, 4, false}, {5, 5, true}, {5, 6, true}, {5, 0, false}, {5, api.MaxTick, true}, {1, 0, false}, {1, 1, true}, {api.MaxTick, api.MaxTick - 1, false}, {api.MaxTick, api.MaxTick, true},
		{0, 0, false}, {0, 1, false}, {0, api.MaxTick, false}, {0, -1, false}, {0, math.MaxInt, false},
		{-5, -6, false}, {-5, -5, true}, {-5, 0, true}, {math.MaxInt, math.MinInt, false}, {math.MinInt, math.MaxInt, true},
	} {
		m := full()
		m.Expires = x.expires
		if got := message.Expired(m, x.now); got != x.want {
			t.Errorf("Expired with Expires %d at %d = %v", x.expires, x.now, got)
		}
		if got := message.Expired(api.Message{Expires: x.expires}, x.now); got != x.want {
			t.Errorf("Expired of an invalid message with Expires %d at %d = %v", x.expires, x.now, got)
		}
	}
}

// P5.5
func TestSame(t *testing.T) {
	for i, a := range valid() {
		for j, b := range valid() {
			if message.Same(a, b) != (i == j) {
				t.Errorf("Same(%+v, %+v) = %v", a, b, i != j)
			}
		}
	}
	for i, other := range []func(m *api.Message){
		func(m *api.Message) { m.Topic = "A/b" }, func(m *api.Message) { m.Payload = "p" }, func(m *api.Message) { m.Level = 1 }, func(m *api.Message) { m.Retain = false }, func(m *api.Message) { m.Priority = 8 },
		func(m *api.Message) { m.Expires++ }, func(m *api.Message) { m.From = "" }, func(m *api.Message) { m.Seq = -300 },
		func(m *api.Message) { m.Props = nil }, func(m *api.Message) { m.Props = props("a", "1") }, func(m *api.Message) { m.Props = props("a", "1", "b", "", "c", "") },
		func(m *api.Message) { m.Props = props("a", "1", "b", "2") }, func(m *api.Message) { m.Props = props("a", "1", "c", "") }, func(m *api.Message) { m.Props = props("b", "", "a", "1") },
	} {
		m := full()
		other(&m)
		if message.Same(full(), m) || message.Same(m, full()) || !message.Same(m, m) {
			t.Errorf("Same with the change %d", i)
		}
	}
	if !message.Same(api.Message{}, api.Message{Props: []api.Prop{}}) || !message.Same(api.Message{Props: make([]api.Prop, 0, 9)}, api.Message{}) {
		t.Error("no properties and nil are different")
	}
	if !message.Same(api.Message{Level: 9, Props: props("B", "", "A", "")}, api.Message{Level: 9, Props: props("B", "", "A", "")}) {
		t.Error("invalid messages are different")
	}
}

// encoding follows the chapter's definition of the encoding of a message.
func encoding(m api.Message) []byte {
	retain := 0
	if m.Retain {
		retain = 1
	}
	b := pack.PutNum(pack.PutText(pack.PutText(nil, m.Topic), m.Payload), m.Level)
	b = pack.PutNum(pack.PutNum(pack.PutNum(b, retain), m.Priority), m.Expires)
	b = pack.PutNum(pack.PutNum(pack.PutText(b, m.From), m.Seq), len(m.Props))
	for _, p := range m.Props {
		b = pack.PutText(pack.PutText(b, p.Key), p.Value)
	}
	return b
}

// strange returns messages that are not valid.
func strange() []api.Message {
	l := []api.Message{
		{}, {Topic: strings.Repeat("t", 9999), Payload: strings.Repeat("p", 99999), From: strings.Repeat("F", 999)},
		{Level: math.MinInt, Priority: -1, Expires: math.MaxInt, Seq: math.MinInt}, {Props: props("b", "", "b", "1", "", "", "A", strings.Repeat("v", 999))}, {Props: many(100)},
	}
	for _, d := range defects() {
		m := full()
		d.make(&m)
		l = append(l, m)
	}
	return l
}

// P5.6
func TestPut(t *testing.T) {
	example := api.Message{Topic: "t", Payload: "p", Level: 1, Retain: true, Priority: 2, Expires: 3, From: "x", Seq: 4}
	if got := message.Put(nil, example); !bytes.Equal(got, []byte{2, 116, 2, 112, 2, 2, 4, 6, 2, 120, 8, 0}) {
		t.Errorf("the example is %v", got)
	}
	if got := message.Put([]byte{7}, api.Message{Props: props("a", "1", "b", "")}); !bytes.Equal(got, []byte{7, 0, 0, 0, 0, 0, 0, 0, 0, 4, 2, 97, 2, 49, 2, 98, 0}) {
		t.Errorf("properties are encoded as %v", got)
	}
	for _, b := range [][]byte{nil, {}, {0}, {128, 255}, bytes.Repeat([]byte{9}, 1000)} {
		for _, m := range append(valid(), strange()...) {
			if got := message.Put(b, m); !bytes.Equal(got, slices.Concat(b, encoding(m))) {
				t.Errorf("Put of %+v behind %d bytes", m, len(b))
			}
		}
	}
	m := api.Message{Props: many(api.MaxProps)}
	for range 12 {
		m.Props = append(m.Props, m.Props...)
	}
	if got := message.Put(nil, m); len(got) != 8+3+len(m.Props)/8*(8*4+28) {
		t.Errorf("Put of %d properties has %d bytes", len(m.Props), len(got))
	}
}

// R5: what is added goes neither into the argument's capacity nor into that of an earlier result.
func TestPutIsNew(t *testing.T) {
	room := bytes.Repeat([]byte{7}, 200)
	m := full()
	first := message.Put(room[:3], m)
	kept := slices.Clone(first)
	message.Put(room[:3], api.Message{Topic: "other"})
	message.Put(first, m)
	clear(message.Put(first[:2], m))
	if !bytes.Equal(room, bytes.Repeat([]byte{7}, 200)) {
		t.Error("the argument's memory is written")
	}
	if !bytes.Equal(first, kept) {
		t.Error("results share memory")
	}
	clear(first[:cap(first)])
	if !bytes.Equal(room, bytes.Repeat([]byte{7}, 200)) {
		t.Error("the result is the argument's memory")
	}
	if !message.Same(m, full()) {
		t.Error("Put modifies the message")
	}
}

// parts returns an encoding in pieces: one for each string and number, in order.
func parts(m api.Message) [][]byte {
	text := func(s string) []byte { return pack.PutText(nil, s) }
	num := func(n int) []byte { return pack.PutNum(nil, n) }
	l := [][]byte{text(m.Topic), text(m.Payload), num(m.Level), num(pack.Flags([]bool{m.Retain})), num(m.Priority), num(m.Expires), text(m.From), num(m.Seq), num(len(m.Props))}
	for _, p := range m.Props {
		l = append(l, text(p.Key), text(p.Value))
	}
	return l
}

// unreadable is a part of an encoding that cannot be read.
type unreadable struct {
	part int
	b    []byte
	code api.Errno
}

// unreadables are the parts of the encoding of full that are not as they must be.
func unreadables() []unreadable {
	const topicAt, payloadAt, levelAt, retainAt, priorityAt, expiresAt, fromAt, seqAt, countAt, keyAt, valueAt, lastAt = 0, 1, 2, 3, 4, 5, 6, 7, 8, 9, 10, 12
	num := func(n int) []byte { return pack.PutNum(nil, n) }
	text := func(n int) []byte { return pack.PutText(nil, strings.Repeat("x", n)) }
	l := []unreadable{
		{topicAt, num(-1), api.ErrSyntax}, {topicAt, text(api.MaxTopic + 1), api.ErrTooLong}, {payloadAt, num(-2), api.ErrSyntax}, {payloadAt, text(api.MaxPayload + 1), api.ErrTooLong},
		{retainAt, num(2), api.ErrSyntax}, {retainAt, num(-1), api.ErrSyntax}, {retainAt, num(math.MaxInt), api.ErrSyntax}, {retainAt, num(math.MinInt), api.ErrSyntax},
		{fromAt, num(-1), api.ErrSyntax}, {fromAt, text(api.MaxName + 1), api.ErrTooLong},
		{countAt, num(-1), api.ErrSyntax}, {countAt, num(math.MinInt), api.ErrSyntax}, {countAt, num(api.MaxProps + 1), api.ErrTooLong}, {countAt, num(math.MaxInt), api.ErrTooLong},
		{keyAt, num(-1), api.ErrSyntax}, {keyAt, text(api.MaxKey + 1), api.ErrTooLong}, {valueAt, num(-1), api.ErrSyntax}, {valueAt, text(api.MaxValue + 1), api.ErrTooLong},
		{lastAt - 1, text(api.MaxKey + 1), api.ErrTooLong}, {lastAt, text(api.MaxValue + 1), api.ErrTooLong},
	}
	for part := range lastAt + 1 {
		l = append(l, unreadable{part, []byte{128, 0}, api.ErrSyntax})
	}
	for _, part := range []int{levelAt, priorityAt, expiresAt, seqAt} {
		l = append(l, unreadable{part, append(bytes.Repeat([]byte{255}, 9), 2), api.ErrSyntax})
	}
	return l
}

// P5.7, the errors of single fields, whatever follows them; an earlier field counts first, and an invalid topic last
func TestTakeFields(t *testing.T) {
	for _, x := range unreadables() {
		l := parts(full())
		l[x.part] = x.b
		check := func(what string) {
			for end := x.part + 1; end <= len(l); end++ {
				if m, to, code := message.Take(slices.Concat(l[:end]...), 0); code != x.code || to != 0 || !reflect.DeepEqual(m, api.Message{}) {
					t.Fatalf("Take with the part %d = %v, %d parts in all, %s: %+v, %d, %d", x.part, x.b, end, what, m, to, code)
				}
			}
		}
		check("otherwise as it must be")
		for _, y := range unreadables() {
			if y.part > x.part {
				l[y.part] = y.b
				check("and another one that cannot be read")
				l[y.part] = parts(full())[y.part]
			}
		}
		if x.part > 0 {
			l[0] = pack.PutText(nil, "+")
			check("and an invalid topic")
		}
	}
}

// P5.7, the errors of Check, which come last
func TestTakeChecks(t *testing.T) {
	l := defects()
	for i, first := range l {
		for _, second := range l[i:] {
			if first.name == "Payload" || second.name == "Payload" {
				continue // too long to be read
			}
			m := full()
			second.make(&m)
			first.make(&m)
			b := encoding(m)
			if got, to, code := message.Take(b, 0); code != first.code || to != 0 || !reflect.DeepEqual(got, api.Message{}) {
				t.Errorf("Take with %s and %s invalid: %+v, %d, %d", first.name, second.name, got, to, code)
			}
			if _, _, code := message.Take(b[:len(b)-1], 0); code != api.ErrTruncated {
				t.Errorf("Take with %s invalid, torn: %d", first.name, code)
			}
		}
	}
	for _, m := range []api.Message{{}, {Topic: "t", Props: props("A", "")}, {Topic: "t", Props: props("", "")}, {Topic: "t", Props: props("a", "", "a", "")}, {Topic: "t", Seq: math.MinInt}} {
		if _, to, code := message.Take(encoding(m), 0); code != message.Check(m) || code == api.OK || to != 0 {
			t.Errorf("Take of %+v: %d, %d", m, to, code)
		}
	}
}

// P5.7, positions, and C5.1 with every end that comes too early
func TestTakeEnds(t *testing.T) {
	for _, m := range valid() {
		b := append([]byte{200}, encoding(m)...)
		for end := range b {
			if got, to, code := message.Take(b[:end], 1); end > 0 && (code != api.ErrTruncated || to != 0 || !reflect.DeepEqual(got, api.Message{})) {
				t.Fatalf("Take of %d bytes of %+v: %+v, %d, %d", end, m, got, to, code)
			}
		}
		for _, at := range []int{-1, len(b) + 1, math.MinInt, math.MaxInt} {
			if got, to, code := message.Take(b, at); code != api.ErrRange || to != 0 || !reflect.DeepEqual(got, api.Message{}) {
				t.Errorf("Take at %d: %+v, %d, %d", at, got, to, code)
			}
		}
		if _, _, code := message.Take(b, len(b)); code != api.ErrTruncated {
			t.Errorf("Take at the end: %d", code)
		}
	}
	if _, _, code := message.Take(nil, 0); code != api.ErrTruncated {
		t.Errorf("Take of nothing: %d", code)
	}
}

// C5.1
func TestMessageBack(t *testing.T) {
	around := [][]byte{nil, {0}, {128}, {255, 255, 1}, encoding(full())}
	for _, m := range valid() {
		for _, before := range around {
			for _, after := range around {
				b := append(message.Put(before, m), after...)
				kept := slices.Clone(b)
				got, to, code := message.Take(b, len(before))
				if !message.Same(got, m) || to != len(b)-len(after) || code != api.OK {
					t.Errorf("Take of %+v: %+v, %d, %d", m, got, to, code)
				}
				if !bytes.Equal(b, kept) {
					t.Error("Take modifies the buffer")
				}
				clear(b)
				if !message.Same(got, m) {
					t.Error("the message shares memory with the buffer")
				}
			}
		}
	}
}

// C5.2: encodings in which any byte, or any pair of neighbours, is another one
func TestMessageOnly(t *testing.T) {
	accepted := 0
	try := func(b []byte) {
		m, to, code := message.Take(b, 0)
		if code != api.OK {
			return
		}
		accepted++
		if !bytes.Equal(message.Put(nil, m), b[:to]) || message.Check(m) != api.OK || !topic.Valid(m.Topic) {
			t.Fatalf("Take accepts %v as %+v", b, m)
		}
	}
	for _, m := range valid() {
		b := append(encoding(m), 1, 0)
		for i := range min(len(b), 60) {
			for c := range 256 {
				x := slices.Clone(b)
				x[i] = byte(c)
				try(x)
			}
		}
		for i := range min(len(b), 40) - 1 {
			for _, c := range []byte{0, 1, 2, 3, 4, 127, 128, 129, 255} {
				for _, d := range []byte{0, 1, 2, 3, 4, 127, 128, 129, 255} {
					x := slices.Clone(b)
					x[i], x[i+1] = c, d
					try(x)
				}
			}
		}
	}
	if accepted < 1000 {
		t.Errorf("only %d of the changed encodings are accepted", accepted)
	}
}
