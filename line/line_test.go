package line_test

import (
	"math"
	"reflect"
	"slices"
	"strconv"
	"strings"
	"testing"

	"broker/api"
	"broker/line"
	"broker/message"
)

// longest returns the longest name.
func longest() string { return strings.Repeat("n", api.MaxName) }

// note returns a valid message in which no field is zero.
func note() api.Message {
	return api.Message{Topic: "a/b c", Payload: "p\"\x00", Level: 2, Retain: true, Priority: 9, Expires: 70000, From: "x-1", Seq: 300, Props: []api.Prop{{Key: "a", Value: "1=2"}, {Key: "b"}}}
}

// noteFields are the fields of note in a line.
const noteFields = `"a/b\sc" "p\"\x00" 2 yes 9 70000 x-1 300 a="1=2" b=""`

// largest returns a valid message whose fields are as large as possible, and its fields in a line.
func largest() (api.Message, string) {
	m := api.Message{
		Topic: strings.Repeat(" ", api.MaxTopic), Payload: strings.Repeat("\xff", api.MaxPayload), Level: 2, Retain: true, Priority: api.MaxPriority,
		Expires: api.MaxTick, From: longest(), Seq: api.MaxNumber,
	}
	s := `"` + strings.Repeat(`\s`, api.MaxTopic) + `" "` + strings.Repeat(`\xff`, api.MaxPayload) + `" 2 yes 9 1099511627776 ` + longest() + ` 1099511627776`
	for i := range api.MaxProps {
		key := strings.Repeat(string(rune('a'+i)), api.MaxKey)
		m.Props = append(m.Props, api.Prop{Key: key, Value: strings.Repeat(`\`, api.MaxValue)})
		s += ` ` + key + `="` + strings.Repeat(`\\`, api.MaxValue) + `"`
	}
	return m, s
}

func kinds() []int { return []int{1, 2, 3, 4, 5, 6, 7, 8, 9, 10, 11, 12, 13, 14, 15} }

// full returns a valid request of a kind in which no field that the kind uses is zero.
func full(kind int) api.Request {
	r := api.Request{Kind: kind, Conn: 1, Serial: 2}
	switch kind {
	case api.ReqExchange:
		r.Exchange = api.Exchange{Name: "e", Kind: api.Topical, Alternate: "f"}
	case api.ReqQueue:
		r.Spec = api.Spec{Name: "q", Max: 10, TTL: 20, Attempts: 3, Dead: "d"}
	case api.ReqBind, api.ReqUnbind:
		r.Binding = api.Binding{Exchange: "e", Queue: "q", Key: "a.b", All: true, Match: []api.Prop{{Key: "k", Value: "v w"}, {Key: "l"}}}
	case api.ReqPublish:
		r.Name, r.Key, r.Message = "e", "k l", note()
	case api.ReqConsume:
		r.Tag, r.Name, r.Limit = 5, "q", 6
	case api.ReqCancel:
		r.Tag = 5
	case api.ReqAck, api.ReqNack:
		r.Tag, r.Flag = 5, true
	case api.ReqPurge, api.ReqDelete, api.ReqDescribe:
		r.Name = "q"
	}
	return r
}

// fullLine returns the line of full, by hand.
func fullLine(kind int) string {
	return [...]string{
		api.ReqExchange: `exchange 1 2 e topic f`,
		api.ReqQueue:    `queue 1 2 q 10 20 3 d`,
		api.ReqBind:     `bind 1 2 e q "a.b" yes k="v\sw" l=""`,
		api.ReqUnbind:   `unbind 1 2 e q "a.b" yes k="v\sw" l=""`,
		api.ReqPublish:  `publish 1 2 e "k\sl" ` + noteFields,
		api.ReqConsume:  `consume 1 2 5 q 6`,
		api.ReqCancel:   `cancel 1 2 5`,
		api.ReqAck:      `ack 1 2 5 yes`,
		api.ReqNack:     `nack 1 2 5 yes`,
		api.ReqBegin:    `begin 1 2`,
		api.ReqCommit:   `commit 1 2`,
		api.ReqRollback: `rollback 1 2`,
		api.ReqPurge:    `purge 1 2 q`,
		api.ReqDelete:   `delete 1 2 q`,
		api.ReqDescribe: `describe 1 2 q`,
	}[kind]
}

// pair is a valid request and its line.
type pair struct {
	line string
	r    api.Request
}

// valid returns requests of all kinds, with the examples and with fields at their bounds.
func valid() []pair {
	const large = "1099511627776"
	most, mostFields := largest()
	l := []pair{
		{`exchange 1 2 e direct -`, api.Request{Kind: api.ReqExchange, Conn: 1, Serial: 2, Exchange: api.Exchange{Name: "e", Kind: api.Direct}}},
		{`exchange 1 2 e fanout f`, api.Request{Kind: api.ReqExchange, Conn: 1, Serial: 2, Exchange: api.Exchange{Name: "e", Kind: api.Fanout, Alternate: "f"}}},
		{`exchange 1 2 ` + longest() + ` headers ` + longest(), api.Request{Kind: api.ReqExchange, Conn: 1, Serial: 2, Exchange: api.Exchange{Name: longest(), Kind: api.Headers, Alternate: longest()}}},
		{`queue 1 2 q 10 0 3 -`, api.Request{Kind: api.ReqQueue, Conn: 1, Serial: 2, Spec: api.Spec{Name: "q", Max: 10, Attempts: 3}}},
		{`queue 0 0 q 1 0 0 -`, api.Request{Kind: api.ReqQueue, Spec: api.Spec{Name: "q", Max: 1}}},
		{`queue 1 2 q 256 ` + large + ` ` + large + ` d-9`, api.Request{Kind: api.ReqQueue, Conn: 1, Serial: 2, Spec: api.Spec{Name: "q", Max: api.MaxQueue, TTL: api.MaxTick, Attempts: api.MaxNumber, Dead: "d-9"}}},
		{`bind 1 3 e q "a.b" yes k="v"`, api.Request{Kind: api.ReqBind, Conn: 1, Serial: 3, Binding: api.Binding{Exchange: "e", Queue: "q", Key: "a.b", All: true, Match: []api.Prop{{Key: "k", Value: "v"}}}}},
		{`bind 1 3 e q "" no`, api.Request{Kind: api.ReqBind, Conn: 1, Serial: 3, Binding: api.Binding{Exchange: "e", Queue: "q"}}},
		{`unbind 1 3 e q "\"\\\x01\s\xff=" no 9="=="`, api.Request{Kind: api.ReqUnbind, Conn: 1, Serial: 3, Binding: api.Binding{Exchange: "e", Queue: "q", Key: "\"\\\x01 \xff=", Match: []api.Prop{{Key: "9", Value: "=="}}}}},
		{`unbind 0 0 e q "` + strings.Repeat(`\s`, api.MaxTopic) + `" no`, api.Request{Kind: api.ReqUnbind, Binding: api.Binding{Exchange: "e", Queue: "q", Key: strings.Repeat(" ", api.MaxTopic)}}},
		{`publish 0 4 - "q" "t" "p" 1 no 0 0 - 0`, api.Request{Kind: api.ReqPublish, Serial: 4, Key: "q", Message: api.Message{Topic: "t", Payload: "p", Level: 1}}},
		{`publish 0 0 - "" "t" "" 0 no 0 0 - 0`, api.Request{Kind: api.ReqPublish, Message: api.Message{Topic: "t"}}},
		{`publish 0 4 ` + longest() + ` "` + strings.Repeat("k", api.MaxTopic) + `" ` + mostFields, api.Request{Kind: api.ReqPublish, Serial: 4, Name: longest(), Key: strings.Repeat("k", api.MaxTopic), Message: most}},
		{`consume 0 ` + large + ` 0 q ` + large, api.Request{Kind: api.ReqConsume, Serial: api.MaxNumber, Name: "q", Limit: api.MaxNumber}},
		{`consume 0 0 ` + large + ` q 0`, api.Request{Kind: api.ReqConsume, Name: "q", Tag: api.MaxNumber}},
		{`cancel 0 0 0`, api.Request{Kind: api.ReqCancel}},
		{`cancel ` + large + ` 0 ` + large, api.Request{Kind: api.ReqCancel, Conn: api.MaxNumber, Tag: api.MaxNumber}},
		{`ack 1 2 0 no`, api.Request{Kind: api.ReqAck, Conn: 1, Serial: 2}},
		{`nack 10 907 65 no`, api.Request{Kind: api.ReqNack, Conn: 10, Serial: 907, Tag: 65}},
		{`rollback 0 9007199254`, api.Request{Kind: api.ReqRollback, Serial: 9007199254}},
		{`describe 3 4 ` + longest(), api.Request{Kind: api.ReqDescribe, Conn: 3, Serial: 4, Name: longest()}},
	}
	for _, kind := range kinds() {
		l = append(l, pair{fullLine(kind), full(kind)})
	}
	return l
}

// same reports whether two requests are equal, where a list without elements equals nil.
func same(a, b api.Request) bool {
	lists := slices.Equal(a.Binding.Match, b.Binding.Match) && slices.Equal(a.Message.Props, b.Message.Props)
	a.Binding.Match, b.Binding.Match, a.Message.Props, b.Message.Props = nil, nil, nil, nil
	return lists && reflect.DeepEqual(a, b)
}

// parses checks the result of Parse: the request, or the error and no request.
func parses(t *testing.T, s string, want api.Request, code api.Errno) {
	t.Helper()
	got, e := line.Parse(s)
	if e != code || !same(got, want) || e != api.OK && !reflect.DeepEqual(got, api.Request{}) {
		t.Errorf("Parse(%.300q) = %+v, %d, want the error %d", s, got, e, code)
	}
}

// fails checks that Parse returns an error.
func fails(t *testing.T, s string, code api.Errno) {
	t.Helper()
	parses(t, s, api.Request{}, code)
}

// P8.1: Quote, the example and every byte
func TestQuote(t *testing.T) {
	for s, want := range map[string]string{
		"": `""`, "a\"b \n": `"a\"b\s\x0a"`, `\`: `"\\"`, `\s`: `"\\s"`, "  ": `"\s\s"`, "a=b": `"a=b"`, "é": `"\xc3\xa9"`, "\x00\x7f\x80\xff": `"\x00\x7f\x80\xff"`, "!~'-#": `"!~'-#"`, "\t1\x1f2": `"\x091\x1f2"`,
	} {
		if got := line.Quote(s); got != want {
			t.Errorf("Quote(%q) = %s, want %s", s, got, want)
		}
	}
	for c := range 256 {
		want := string([]byte{byte(c)})
		switch {
		case c < 16:
			want = `\x0` + strconv.FormatInt(int64(c), 16)
		case c < 32, c > 126:
			want = `\x` + strconv.FormatInt(int64(c), 16)
		case c == 32:
			want = `\s`
		case c == 34:
			want = `\"`
		case c == 92:
			want = `\\`
		}
		b := []byte{byte(c)}
		if got := line.Quote(string(b)); got != `"`+want+`"` {
			t.Errorf("Quote of the byte %d = %s", c, got)
		}
		if got := line.Quote("a" + string(b) + "b" + string(b)); got != `"a`+want+`b`+want+`"` {
			t.Errorf("Quote of the byte %d among others = %s", c, got)
		}
	}
}

// P8.1: Unquote of what is not a quoted string
func TestUnquoteErrors(t *testing.T) {
	for _, s := range []string{
		``, `"`, `a`, `ab`, `aa`, `a""`, `""a`, ` ""`, `"" `, `"a`, `a"`, `'a'`, `"""`, `"a"b"`, `"" ""`, `"\"`, `"\\\"`, `\"a\"`,
		`" "`, `"a b"`, "\"\n\"", "\"\x00\"", "\"\x7f\"", "\"\x80\"", `"é"`, `"\a"`, `"\n"`, `"\S"`, `"\X0a"`, `"\'"`, `"\0"`,
		`"\x"`, `"\x0"`, `"\x0g"`, `"\xg0"`, `"\x0 "`, `"\x-1"`, `"\x+1"`, `"\x0A"`, `"\xFF"`, `"\xfF"`, `"\x41"`, `"\x61"`, `"\x20"`, `"\x22"`, `"\x5c"`, `"\x21"`, `"\x7e"`, `"\x_1"`, `"\x0x"`, `"\x1`, `"\s`,
	} {
		if got, code := line.Unquote(s); got != "" || code != api.ErrSyntax {
			t.Errorf("Unquote(%q) = %q, %d", s, got, code)
		}
	}
	for c := range 256 {
		for _, form := range []string{`\x%%`, `\x%%a`, `a\x%%`} {
			digits := strconv.FormatInt(int64(256+c), 16)[1:]
			s := `"` + strings.ReplaceAll(form, "%%", digits) + `"`
			want := api.OK
			if c >= 32 && c <= 126 {
				want = api.ErrSyntax
			}
			if _, code := line.Unquote(s); code != want {
				t.Errorf("Unquote(%s): %d", s, code)
			}
		}
	}
}

// P8.1: of all short strings of some bytes, Unquote accepts exactly the quoted ones.
func TestUnquoteOnly(t *testing.T) {
	bytes := []byte("\"\\sx0f2A ")
	short := []string{""}
	for level, from := 0, 0; level < 6; level++ {
		to := len(short)
		for _, s := range short[from:to] {
			for _, c := range bytes {
				short = append(short, s+string([]byte{c}))
			}
		}
		from = to
	}
	quoted := map[string]string{}
	for _, s := range short {
		if len(s) <= 4 {
			quoted[line.Quote(s)] = s
		}
	}
	for c := range 256 {
		s := string([]byte{byte(c)})
		quoted[line.Quote(s)] = s
	}
	for _, s := range short {
		text, is := quoted[s]
		if got, code := line.Unquote(s); got != text || (code == api.OK) != is || !is && code != api.ErrSyntax {
			t.Fatalf("Unquote(%q) = %q, %d, want %q", s, got, code, text)
		}
	}
}

// C8.3
func TestLineQuotes(t *testing.T) {
	var all []byte
	for c := range 256 {
		all = append(all, byte(c))
	}
	texts := []string{"", string(all), strings.Repeat(string(all), 30), strings.Repeat(`\`, 99), strings.Repeat(`"`, 99), strings.Repeat(" ", 99), `\x41`, `\s`, `\x`, `"\"`}
	for _, a := range all {
		for _, b := range all {
			texts = append(texts, string([]byte{a, b}))
		}
	}
	for _, s := range texts {
		q := line.Quote(s)
		for i := range len(q) {
			if q[i] < 33 || q[i] > 126 {
				t.Fatalf("Quote(%q) contains the byte %d", s, q[i])
			}
		}
		if got, code := line.Unquote(q); got != s || code != api.OK {
			t.Fatalf("Unquote(%s) = %q, %d, want %q", q, got, code, s)
		}
	}
}

// field is a field of a request, with a value other than zero.
type field struct {
	name string
	set  func(r *api.Request)
}

func fields() []field {
	return []field{
		{"Tag", func(r *api.Request) { r.Tag = 1 }}, {"Limit", func(r *api.Request) { r.Limit = 1 }}, {"Flag", func(r *api.Request) { r.Flag = true }}, {"Name", func(r *api.Request) { r.Name = "q" }}, {"Name", func(r *api.Request) { r.Name = "-" }}, {"Key", func(r *api.Request) { r.Key = "k" }},
		{"Exchange", func(r *api.Request) { r.Exchange.Name = "e" }}, {"Exchange", func(r *api.Request) { r.Exchange.Kind = 1 }}, {"Exchange", func(r *api.Request) { r.Exchange.Alternate = "e" }},
		{"Spec", func(r *api.Request) { r.Spec.Name = "q" }}, {"Spec", func(r *api.Request) { r.Spec.Max = 1 }}, {"Spec", func(r *api.Request) { r.Spec.TTL = -1 }}, {"Spec", func(r *api.Request) { r.Spec.Attempts = 1 }}, {"Spec", func(r *api.Request) { r.Spec.Dead = "d" }},
		{"Binding", func(r *api.Request) { r.Binding.Exchange = "e" }}, {"Binding", func(r *api.Request) { r.Binding.Queue = "q" }}, {"Binding", func(r *api.Request) { r.Binding.Key = "k" }}, {"Binding", func(r *api.Request) { r.Binding.All = true }}, {"Binding", func(r *api.Request) { r.Binding.Match = []api.Prop{{}} }},
		{"Message", func(r *api.Request) { r.Message.Topic = "t" }}, {"Message", func(r *api.Request) { r.Message.Payload = "p" }}, {"Message", func(r *api.Request) { r.Message.Level = 1 }}, {"Message", func(r *api.Request) { r.Message.Retain = true }}, {"Message", func(r *api.Request) { r.Message.Priority = 1 }},
		{"Message", func(r *api.Request) { r.Message.Expires = 1 }}, {"Message", func(r *api.Request) { r.Message.From = "f" }}, {"Message", func(r *api.Request) { r.Message.Seq = -1 }}, {"Message", func(r *api.Request) { r.Message.Props = []api.Prop{{}} }},
	}
}

// uses is the chapter's table of the fields that each kind uses.
func uses(kind int, name string) bool {
	return slices.Contains(strings.Fields(map[int]string{
		api.ReqExchange: "Exchange", api.ReqQueue: "Spec", api.ReqBind: "Binding", api.ReqUnbind: "Binding", api.ReqPublish: "Name Key Message",
		api.ReqConsume: "Tag Name Limit", api.ReqCancel: "Tag", api.ReqAck: "Tag Flag", api.ReqNack: "Tag Flag",
		api.ReqPurge: "Name", api.ReqDelete: "Name", api.ReqDescribe: "Name",
	}[kind]), name)
}

// P8.2: fields that are not used, whose error comes after those of fields that are used
func TestCheckUnused(t *testing.T) {
	for _, kind := range kinds() {
		for _, f := range fields() {
			if uses(kind, f.name) {
				continue
			}
			r := full(kind)
			f.set(&r)
			if code := line.Check(r); code != api.ErrField {
				t.Errorf("Check of kind %d with %s = %d", kind, f.name, code)
			}
			for _, d := range defects(kind) {
				r := full(kind)
				f.set(&r)
				d.make(&r)
				if code := line.Check(r); code != d.code {
					t.Errorf("Check of kind %d with %s and %s = %d, want %d", kind, f.name, d.name, code, d.code)
				}
			}
		}
	}
}

// P8.2: a list without elements is zero.
func TestCheckEmptyLists(t *testing.T) {
	for _, kind := range kinds() {
		r := full(kind)
		if len(r.Binding.Match) == 0 {
			r.Binding.Match = []api.Prop{}
		}
		if len(r.Message.Props) == 0 {
			r.Message.Props = make([]api.Prop, 0, 4)
		}
		if code := line.Check(r); code != api.OK {
			t.Errorf("Check of kind %d with empty lists = %d", kind, code)
		}
	}
}

// P8.2: kinds, whose error comes before all others
func TestCheckKinds(t *testing.T) {
	for _, x := range valid() {
		if code := line.Check(x.r); code != api.OK {
			t.Errorf("Check of the request of %s = %d", x.line, code)
		}
	}
	for _, kind := range []int{0, -1, 16, 17, 1 << 32, 1<<32 + 1, math.MaxInt, math.MinInt} {
		for _, r := range []api.Request{{Kind: kind}, {Kind: kind, Conn: -1}, {Kind: kind, Name: "Q", Tag: -1}} {
			if code := line.Check(r); code != api.ErrKind {
				t.Errorf("Check(%+v) = %d", r, code)
			}
		}
	}
}

// defect makes a field of a request invalid.
type defect struct {
	name string
	code api.Errno
	make func(r *api.Request)
}

// numberDefects are those of the numbers that are examined for every kind.
func numberDefects() []defect {
	var l []defect
	for _, n := range []int{-1, api.MaxNumber + 1, math.MinInt, math.MaxInt} {
		l = append(l,
			defect{"Conn", api.ErrRange, func(r *api.Request) { r.Conn = n }}, defect{"Serial", api.ErrRange, func(r *api.Request) { r.Serial = n }},
			defect{"Tag", api.ErrRange, func(r *api.Request) { r.Tag = n }}, defect{"Limit", api.ErrRange, func(r *api.Request) { r.Limit = n }})
	}
	return l
}

// nameDefects are those of a name that set writes into a request.
func nameDefects(name string, set func(r *api.Request, s string), bad ...string) []defect {
	var l []defect
	for _, s := range append(bad, "Q", "9", "-", "a b", "é", longest()+"n") {
		l = append(l, defect{name + " " + s, api.ErrName, func(r *api.Request) { set(r, s) }})
	}
	return l
}

// intDefects are those of a number.
func intDefects(name string, set func(r *api.Request, n int), bad ...int) []defect {
	var l []defect
	for _, n := range append(bad, -1, math.MinInt, math.MaxInt) {
		l = append(l, defect{name + " " + strconv.Itoa(n), api.ErrRange, func(r *api.Request) { set(r, n) }})
	}
	return l
}

// keyDefects are those of a routing key; the number of its bytes counts first.
func keyDefects(set func(r *api.Request, s string)) []defect {
	long := strings.Repeat("k", api.MaxTopic+1)
	return []defect{
		{"a long Key", api.ErrTooLong, func(r *api.Request) { set(r, long) }}, {"a long Key with the byte 0", api.ErrTooLong, func(r *api.Request) { set(r, "\x00"+long) }},
		{"the Key of the byte 0", api.ErrTopic, func(r *api.Request) { set(r, "\x00") }}, {"a Key with the byte 0", api.ErrTopic, func(r *api.Request) { set(r, "a\x00b") }},
	}
}

// propDefects are those of properties.
func propDefects(set func(r *api.Request, l []api.Prop)) []defect {
	wide := strings.Repeat("v", api.MaxValue+1)
	return []defect{
		{"too many properties", api.ErrTooLong, func(r *api.Request) { set(r, make([]api.Prop, api.MaxProps+1)) }}, {"a wide property", api.ErrTooLong, func(r *api.Request) { set(r, []api.Prop{{Key: "k", Value: wide}}) }},
		{"a bad key", api.ErrProps, func(r *api.Request) { set(r, []api.Prop{{Key: "K", Value: wide}}) }}, {"keys that do not ascend", api.ErrProps, func(r *api.Request) { set(r, []api.Prop{{Key: "b"}, {Key: "a"}}) }},
	}
}

// defects are those of the fields that a kind uses, in the order of the checks.
func defects(kind int) []defect {
	switch kind {
	case api.ReqExchange:
		kinds := []defect{
			{"Kind 0", api.ErrKind, func(r *api.Request) { r.Exchange.Kind = 0 }}, {"Kind -1", api.ErrKind, func(r *api.Request) { r.Exchange.Kind = -1 }},
			{"Kind 5", api.ErrKind, func(r *api.Request) { r.Exchange.Kind = 5 }}, {"a great Kind", api.ErrKind, func(r *api.Request) { r.Exchange.Kind = math.MaxInt }},
		}
		return slices.Concat(nameDefects("Name", func(r *api.Request, s string) { r.Exchange.Name = s }, ""), kinds, nameDefects("Alternate", func(r *api.Request, s string) { r.Exchange.Alternate = s }))
	case api.ReqQueue:
		return slices.Concat(
			nameDefects("Name", func(r *api.Request, s string) { r.Spec.Name = s }, ""),
			intDefects("Max", func(r *api.Request, n int) { r.Spec.Max = n }, 0, api.MaxQueue+1), intDefects("TTL", func(r *api.Request, n int) { r.Spec.TTL = n }, api.MaxTick+1), intDefects("Attempts", func(r *api.Request, n int) { r.Spec.Attempts = n }, api.MaxNumber+1),
			nameDefects("Dead", func(r *api.Request, s string) { r.Spec.Dead = s }))
	case api.ReqBind, api.ReqUnbind:
		return slices.Concat(
			nameDefects("Exchange", func(r *api.Request, s string) { r.Binding.Exchange = s }, ""), nameDefects("Queue", func(r *api.Request, s string) { r.Binding.Queue = s }, ""),
			keyDefects(func(r *api.Request, s string) { r.Binding.Key = s }), propDefects(func(r *api.Request, l []api.Prop) { r.Binding.Match = l }))
	case api.ReqPublish:
		var notes []defect
		for _, change := range messageDefects() {
			m := note()
			change(&m)
			notes = append(notes, defect{"an invalid message", message.Check(m), func(r *api.Request) { change(&r.Message) }})
		}
		return slices.Concat(nameDefects("Name", func(r *api.Request, s string) { r.Name = s }), keyDefects(func(r *api.Request, s string) { r.Key = s }), notes)
	case api.ReqConsume, api.ReqPurge, api.ReqDelete, api.ReqDescribe:
		return nameDefects("Name", func(r *api.Request, s string) { r.Name = s }, "")
	}
	return nil
}

// messageDefects make a message invalid, in the order in which message.Check looks for them.
func messageDefects() []func(m *api.Message) {
	return []func(m *api.Message){
		func(m *api.Message) { m.Topic = "" }, func(m *api.Message) { m.Topic = "a/#" }, func(m *api.Message) { m.Topic = "\x00" }, func(m *api.Message) { m.Payload = strings.Repeat("p", api.MaxPayload+1) }, func(m *api.Message) { m.Level = 3 },
		func(m *api.Message) { m.Priority = -1 }, func(m *api.Message) { m.Expires = api.MaxTick + 1 }, func(m *api.Message) { m.From = "F" }, func(m *api.Message) { m.From = "-" },
		func(m *api.Message) { m.Seq = -1 }, func(m *api.Message) { m.Props = []api.Prop{{Key: "b"}, {Key: "a"}} }, func(m *api.Message) { m.Props = make([]api.Prop, api.MaxProps+1) },
	}
}

// P8.2: every error, and of two defects the one that is checked first
func TestCheckOrder(t *testing.T) {
	for _, kind := range kinds() {
		l := append(numberDefects(), defects(kind)...)
		for i, first := range l {
			for _, second := range l[i:] {
				r := full(kind)
				second.make(&r)
				first.make(&r)
				if code := line.Check(r); code != first.code || code == api.OK {
					t.Errorf("Check of kind %d with %s and %s = %d, want %d", kind, first.name, second.name, code, first.code)
				}
				if s, code := line.Request(r); s != "" || code != first.code {
					t.Errorf("Request of kind %d with %s and %s = %q, %d", kind, first.name, second.name, s, code)
				}
			}
		}
	}
}

// P8.3
func TestRequest(t *testing.T) {
	for _, x := range valid() {
		if s, code := line.Request(x.r); s != x.line || code != api.OK {
			t.Errorf("Request(%+v) = %q, %d, want %q", x.r, s, code, x.line)
		}
	}
	for _, x := range []struct {
		r    api.Request
		code api.Errno
	}{
		{api.Request{}, api.ErrKind}, {api.Request{Kind: api.ReqBegin, Conn: -1}, api.ErrRange}, {api.Request{Kind: api.ReqBegin, Name: "q"}, api.ErrField}, {api.Request{Kind: api.ReqPurge}, api.ErrName},
	} {
		if s, code := line.Request(x.r); s != "" || code != x.code {
			t.Errorf("Request(%+v) = %q, %d", x.r, s, code)
		}
	}
}

// P8.3: requests are not modified.
func TestRequestKeeps(t *testing.T) {
	for _, kind := range kinds() {
		r := full(kind)
		line.Check(r)
		line.Request(r)
		if !reflect.DeepEqual(r, full(kind)) {
			t.Errorf("a request of kind %d is modified", kind)
		}
	}
}

// P8.4: the examples and other words
func TestParseWords(t *testing.T) {
	fails(t, `begin 1`, api.ErrSyntax)
	fails(t, `begin 1 01`, api.ErrSyntax)
	fails(t, `start 1 2`, api.ErrKind)
	fails(t, `purge 1 2 Q`, api.ErrName)
	fails(t, `consume 1 2 -1 q 0`, api.ErrRange)
	for _, s := range []string{"", " ", "  ", " begin 1 2", " 1 2", "- 1 2", "Begin 1 2", "BEGIN 1 2", "begi 1 2", "beginn 1 2", "begin\t1 2", "begin\n", "\"begin\" 1 2", "1 2", "10 1 2", "done 1 2 0 0", "start", "start 01", "topic 1 2 q", "ready 1 2 q"} {
		fails(t, s, api.ErrKind)
	}
}

// P8.4: the number of fields, which counts before all fields but the first
func TestParseCounts(t *testing.T) {
	for _, kind := range kinds() {
		l := strings.Split(fullLine(kind), " ")
		many := kind == api.ReqBind || kind == api.ReqUnbind || kind == api.ReqPublish
		if many {
			l = l[:len(l)-2]
		}
		for size := 1; size < len(l); size++ {
			fails(t, strings.Join(l[:size], " "), api.ErrSyntax)
			fails(t, l[0]+strings.Repeat(" 99999999999999999999", size-1), api.ErrSyntax)
		}
		for _, more := range []string{" ", " 0", " yes", ` "a"`, "  "} {
			fails(t, strings.Join(l, " ")+more, api.ErrSyntax)
		}
		if !many {
			fails(t, strings.Join(l, " ")+` k="v"`, api.ErrSyntax)
			fails(t, l[0]+strings.Repeat(" 99999999999999999999", len(l)), api.ErrSyntax)
			fails(t, strings.Join(l, " ")+strings.Repeat(` k="v"`, 99), api.ErrSyntax)
		}
	}
}

// forms returns the form of each field behind the word: number, word, optional name, bool, string, kind of an exchange, property.
func forms(kind int) string {
	return "nn" + [...]string{
		api.ReqExchange: "wko", api.ReqQueue: "wnnno", api.ReqBind: "wwtbpp", api.ReqUnbind: "wwtbpp", api.ReqPublish: "ot" + "ttnbnnonpp",
		api.ReqConsume: "nwn", api.ReqCancel: "n", api.ReqAck: "nb", api.ReqNack: "nb", api.ReqBegin: "", api.ReqCommit: "", api.ReqRollback: "", api.ReqPurge: "w", api.ReqDelete: "w", api.ReqDescribe: "w",
	}[kind]
}

// bad is a field that cannot be read.
type bad struct {
	at   int
	s    string
	code api.Errno
}

// bads are the fields of a form that cannot be read.
func bads(at int, form byte) []bad {
	var l []bad
	add := func(code api.Errno, fields ...string) {
		for _, s := range fields {
			l = append(l, bad{at, s, code})
		}
	}
	switch form {
	case 'n':
		add(api.ErrSyntax, "", "-", "x", "+1", "01", "00", "-0", "-01", "--1", "1-", "1.0", "1e3", "0x1", "1_0", "1,0", "1x", "x1", "\"1\"", "१", "1\t", "\n1", "1\x00", "-99999999999999999999x", "099999999999999999999", "yes")
		add(api.ErrRange, "9223372036854775808", "-9223372036854775809", "18446744073709551616", "-99999999999999999999", strings.Repeat("9", 400))
	case 'b':
		add(api.ErrSyntax, "", "Yes", "YES", "No", "y", "n", "true", "false", "1", "0", "-", "yess", "\"yes\"")
	case 't':
		add(api.ErrSyntax, "", "-", "x", "\"", "\"a", "a\"", "\"a\"b\"", "\"\\x41\"", "\"\\x0A\"", "\"\\a\"", "k=\"v\"", "\"\t\"", "\"\xff\"")
	case 'o':
		add(api.ErrName, "")
	case 'k':
		add(api.ErrKind, "", "-", "Direct", "directt", "topical", "1", "3", "\"topic\"", "header")
	case 'p':
		add(api.ErrSyntax, "", "k", "-", "\"v\"", "k:\"v\"", "k=", "k=v", "=", "=v", "k=\"v", "k=v\"", "k==\"v\"", "k=\"\\x41\"", "k=\"v\"x", "k=\"v\"=\"v\"")
	}
	return l
}

// P8.4: a field that cannot be read has its error, whatever stands behind it and whatever Check would say.
func TestParseFields(t *testing.T) {
	for _, kind := range kinds() {
		var all []bad
		for i, form := range []byte(forms(kind)) {
			all = append(all, bads(i+1, form)...)
		}
		for _, x := range all {
			l := strings.Split(fullLine(kind), " ")
			l[x.at] = x.s
			fails(t, strings.Join(l, " "), x.code)
			if x.at > 1 {
				l[1] = "-1"
				fails(t, strings.Join(l, " "), x.code)
				l[1] = "1"
			}
			for _, y := range all {
				if y.at > x.at {
					kept := l[y.at]
					l[y.at] = y.s
					fails(t, strings.Join(l, " "), x.code)
					l[y.at] = kept
				}
			}
		}
	}
}

// P8.4: numbers that can be read, and names, are examined by Check, after all fields.
func TestParseChecks(t *testing.T) {
	for _, kind := range kinds() {
		for i, form := range []byte(forms(kind)) {
			l := strings.Split(fullLine(kind), " ")
			switch form {
			case 'n':
				for _, s := range []string{"-1", "9223372036854775807", "-9223372036854775808"} {
					l[i+1] = s
					want := api.ErrRange
					if kind == api.ReqPublish && i == 6 {
						want = api.ErrLevel
					}
					fails(t, strings.Join(l, " "), want)
				}
			case 'w', 'o':
				for _, s := range []string{"", "-", "Q", "9", "\"q\"", "q\x00", longest() + "n"} {
					if form == 'w' || s != "-" {
						l[i+1] = s
						fails(t, strings.Join(l, " "), api.ErrName)
					}
				}
			}
		}
	}
	for _, x := range []struct {
		s    string
		code api.Errno
	}{
		{`exchange 1 2 E topic F`, api.ErrName},
		{`exchange 1 2 E Topic f`, api.ErrKind},
		{`exchange 1 2 e topical F`, api.ErrKind},
		{`queue 1 2 Q 0 0 0 -`, api.ErrName},
		{`queue 1 2 q 0 0 0 -`, api.ErrRange},
		{`queue 1 2 q 257 0 0 -`, api.ErrRange},
		{`queue 1 2 Q 1 0 x -`, api.ErrSyntax},
		{`bind 1 2 E q "" no`, api.ErrName},
		{`bind 1 2 E q x no`, api.ErrSyntax},
		{`bind 1 2 E q "" no k`, api.ErrSyntax},
		{`bind 1 2 e q "\x00" no`, api.ErrTopic},
		{`bind 1 2 e q "` + strings.Repeat("k", api.MaxTopic+1) + `" no`, api.ErrTooLong},
		{`bind 1 2 e q "" no K=""`, api.ErrProps},
		{`bind 1 2 e q "" no =""`, api.ErrProps},
		{`bind 1 2 e q "" no b="" a=""`, api.ErrProps},
		{`bind 1 2 e q "" no a="" a=""`, api.ErrProps},
		{`unbind 1 2 e q "" no a b=""`, api.ErrSyntax},
		{`unbind 1 2 e q "" no a="" b="" c="" d="" e="" f="" g="" h="" i=""`, api.ErrTooLong},
		{`unbind 1 2 e q "" no` + strings.Repeat(` K=""`, 999), api.ErrTooLong},
		{`unbind 1 2 e q "" no` + strings.Repeat(` K=""`, 999) + ` k=`, api.ErrSyntax},
		{`unbind 1 2 e q "" no k="` + strings.Repeat("v", api.MaxValue+1) + `"`, api.ErrTooLong},
		{`publish 1 2 - "" "" "" 0 no 0 0 - 0`, api.ErrTopic},
		{`publish 1 2 - "" "a/+" "" 3 no 0 0 - 0`, api.ErrTopic},
		{`publish 1 2 - "" "a" "" 3 no 0 0 - 0`, api.ErrLevel},
		{`publish 1 2 - "" "a" "" 0 no 10 0 - 0`, api.ErrRange},
		{`publish 1 2 - "" "a" "" 0 no 0 0 - 0 b="" a=""`, api.ErrProps},
		{`publish 1 2 - "" "a" "" 0 no 0 0 - 0` + strings.Repeat(` k=""`, api.MaxProps+1), api.ErrTooLong},
		{`publish 1 2 - "" "a" "` + strings.Repeat("p", api.MaxPayload+1) + `" 0 no 0 0 - 0`, api.ErrTooLong},
		{`publish 1 2 - "\x00" "a" "" 0 no 0 0 - 0`, api.ErrTopic},
		{`publish 1 2 E "" "" "" 0 no 0 0 - 0`, api.ErrName},
		{`publish 1 2 "e" "" "a" "" 0 no 0 0 - 0`, api.ErrName},
		{`consume 1 2 3 Q -1`, api.ErrRange},
		{`consume 1 2 3 Q 1099511627777`, api.ErrRange},
		{`consume 1 2 3 Q 1`, api.ErrName},
		{`consume 1099511627777 2 3 q 1`, api.ErrRange},
		{`begin 1 1099511627777`, api.ErrRange},
	} {
		fails(t, x.s, x.code)
	}
}

// C8.1, and P8.4 for the lines of requests
func TestLineBack(t *testing.T) {
	for _, x := range valid() {
		parses(t, x.line, x.r, api.OK)
	}
	for _, kind := range kinds() {
		for _, conn := range []int{0, 9, 10, 1000000, api.MaxNumber - 1, api.MaxNumber} {
			r := full(kind)
			r.Conn, r.Serial = conn, api.MaxNumber-conn
			s, code := line.Request(r)
			if code != api.OK {
				t.Errorf("Request(%+v): %d", r, code)
			}
			parses(t, s, r, api.OK)
		}
	}
	for c := range 256 {
		r := full(api.ReqPublish)
		r.Message.Payload = string([]byte{byte(c), 'x', byte(c)})
		r.Message.Props[0].Value = r.Message.Payload
		s, _ := line.Request(r)
		parses(t, s, r, api.OK)
	}
}

// C8.2: lines in which a byte is another one, missing or added
func TestLineOnly(t *testing.T) {
	accepted := 0
	try := func(s string) {
		r, code := line.Parse(s)
		if code != api.OK {
			if !reflect.DeepEqual(r, api.Request{}) {
				t.Fatalf("Parse(%q) = %+v, %d", s, r, code)
			}
			return
		}
		accepted++
		if got, e := line.Request(r); got != s || e != api.OK || line.Check(r) != api.OK {
			t.Fatalf("Parse accepts %q as %+v", s, r)
		}
	}
	for _, x := range valid() {
		for i := range min(len(x.line), 120) {
			try(x.line[:i])
			try(x.line[i:])
			try(x.line[:i] + x.line[i+1:])
			for c := range 256 {
				other := string([]byte{byte(c)})
				try(x.line[:i] + other + x.line[i+1:])
				try(x.line[:i] + other + x.line[i:])
			}
			for _, more := range []string{"00", "-", " ", "  ", `""`, `\x`, `\s`, `\x20`, "+", "yes", ` k="v"`} {
				try(x.line[:i] + more + x.line[i:])
			}
		}
	}
	if accepted < 1000 {
		t.Errorf("only %d of the changed lines are accepted", accepted)
	}
}

// P8.5
func TestReply(t *testing.T) {
	most, mostFields := largest()
	odd := api.Message{Topic: "", Level: -1, Priority: 99, Expires: math.MaxInt, From: "A b", Seq: math.MinInt, Props: []api.Prop{{Key: "K k", Value: "v w"}, {}, {Key: "a=b", Value: "="}}}
	for _, x := range []struct {
		r    api.Reply
		want string
	}{
		{api.Reply{Kind: api.RepDone}, `done 0 0 0 0`}, {api.Reply{Kind: api.RepDone, Conn: 1, Serial: 2, Code: 3, Count: 4}, `done 1 2 3 4`}, {api.Reply{Kind: api.RepDone, Conn: -1, Serial: math.MaxInt, Code: math.MinInt, Count: -5}, `done -1 9223372036854775807 -9223372036854775808 -5`},
		{api.Reply{Kind: api.RepDone, Conn: 1, Serial: 2, Code: 3, Count: 4, Owner: 5, Tag: 6, Again: true, Name: "q", Entry: api.Entry{Number: 7, Message: note()}}, `done 1 2 3 4`},
		{api.Reply{Kind: api.RepDeliver}, `deliver 0 0 0 no - 0 0 0 "" "" 0 no 0 0 - 0`},
		{api.Reply{Kind: api.RepDeliver, Conn: 1, Serial: 2, Code: 3, Count: 4, Owner: 5, Tag: 6, Again: true, Name: "q", Entry: api.Entry{Number: 7, Arrived: 8, Attempts: 9, Message: note()}}, `deliver 1 5 6 yes q 7 8 9 ` + noteFields},
		{api.Reply{Kind: api.RepDeliver, Conn: 1, Owner: 5, Tag: 6, Name: longest(), Entry: api.Entry{Number: 7, Arrived: api.MaxTick, Message: most}}, `deliver 1 5 6 no ` + longest() + ` 7 1099511627776 0 ` + mostFields},
		{api.Reply{Kind: api.RepDeliver, Conn: -1, Owner: -2, Tag: -3, Again: true, Name: "Q \"q", Entry: api.Entry{Number: -4, Arrived: -5, Attempts: -6, Message: odd}}, `deliver -1 -2 -3 yes Q "q -4 -5 -6 "" "" -1 no 99 9223372036854775807 A b -9223372036854775808 K k="v\sw" ="" a=b="="`},
	} {
		if got := line.Reply(x.r); got != x.want {
			t.Errorf("Reply(%+v) = %q, want %q", x.r, got, x.want)
		}
	}
	for _, kind := range []int{0, -1, 3, 4, 1 << 32, 1<<32 + 1, math.MaxInt, math.MinInt} {
		if got := line.Reply(api.Reply{Kind: kind, Conn: 1, Serial: 2, Name: "q", Entry: api.Entry{Message: note()}}); got != "" {
			t.Errorf("Reply of kind %d = %q", kind, got)
		}
	}
	r := api.Reply{Kind: api.RepDeliver, Entry: api.Entry{Message: note()}}
	line.Reply(r)
	if !message.Same(r.Entry.Message, note()) {
		t.Error("Reply modifies its argument")
	}
}
