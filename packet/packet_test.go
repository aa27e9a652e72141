package packet_test

import (
	"math"
	"reflect"
	"slices"
	"strings"
	"testing"

	"broker/api"
	"broker/message"
	"broker/packet"
	"broker/topic"
)

// note returns a valid message of a level in which no other field is zero.
func note(level int) api.Message {
	return api.Message{Topic: "a/b", Payload: "p", Level: level, Retain: true, Priority: 1, Expires: 2, From: "x", Seq: 3, Props: []api.Prop{{Key: "k", Value: "v"}}}
}

// valid returns a valid packet of a kind in which all fields that the kind uses are set, as far as they can be.
func valid(kind int) api.Packet {
	p := api.Packet{Kind: kind}
	switch kind {
	case api.Connect:
		p.Client, p.User, p.Clean, p.Keep, p.Expiry, p.Window = "c", "u", true, 1, 2, 3
		p.Will = api.Will{Set: true, Delay: 4, Message: note(1)}
	case api.Connack:
		p.Code = 9
	case api.Publish:
		p.ID, p.Dup, p.Message = 7, true, note(2)
	case api.Puback, api.Pubrec, api.Pubrel, api.Pubcomp:
		p.ID = 7
	case api.Subscribe:
		p.ID, p.Subs = 7, []api.Sub{{Filter: "a/#", Level: 2, NoLocal: true}, {Filter: "$share/g/+"}}
	case api.Suback, api.Unsuback:
		p.ID, p.Codes = 7, []int{0, 13, 29}
	case api.Unsubscribe:
		p.ID, p.Filters = 7, []string{"a/#", "$share/g/+"}
	case api.Disconnect:
		p.Code = 9
	}
	return p
}

func kinds() []int { return []int{1, 2, 3, 4, 5, 6, 7, 8, 9, 10, 11, 12, 13, 14} }

func others() []int { return []int{0, -1, 15, 16, 28, 1 << 32, math.MaxInt, math.MinInt} }

// field is a field of a packet, with a value other than zero.
type field struct {
	name string
	set  func(p *api.Packet)
}

func fields() []field {
	return []field{
		{"ID", func(p *api.Packet) { p.ID = 1 }}, {"Dup", func(p *api.Packet) { p.Dup = true }},
		{"Message", func(p *api.Packet) { p.Message = note(1) }}, {"Message", func(p *api.Packet) { p.Message.Seq = -1 }}, {"Message", func(p *api.Packet) { p.Message.Props = []api.Prop{{}} }},
		{"Client", func(p *api.Packet) { p.Client = "c" }}, {"User", func(p *api.Packet) { p.User = "u" }}, {"Clean", func(p *api.Packet) { p.Clean = true }},
		{"Keep", func(p *api.Packet) { p.Keep = 1 }}, {"Expiry", func(p *api.Packet) { p.Expiry = 1 }}, {"Window", func(p *api.Packet) { p.Window = 1 }},
		{"Will", func(p *api.Packet) { p.Will.Set = true }}, {"Will", func(p *api.Packet) { p.Will.Delay = 1 }}, {"Will", func(p *api.Packet) { p.Will.Message = note(1) }}, {"Will", func(p *api.Packet) { p.Will.Message.Props = []api.Prop{{}} }},
		{"Present", func(p *api.Packet) { p.Present = true }}, {"Code", func(p *api.Packet) { p.Code = 1 }},
		{"Subs", func(p *api.Packet) { p.Subs = []api.Sub{{Filter: "a"}} }}, {"Subs", func(p *api.Packet) { p.Subs = []api.Sub{{}} }},
		{"Filters", func(p *api.Packet) { p.Filters = []string{"a"} }}, {"Filters", func(p *api.Packet) { p.Filters = []string{""} }},
		{"Codes", func(p *api.Packet) { p.Codes = []int{1} }}, {"Codes", func(p *api.Packet) { p.Codes = []int{0} }},
	}
}

// uses is the chapter's table of the fields that each kind uses.
func uses(kind int, name string) bool {
	return slices.Contains(strings.Fields(map[int]string{
		api.Connect: "Client User Clean Keep Expiry Window Will", api.Connack: "Present Code", api.Publish: "ID Dup Message",
		api.Puback: "ID", api.Pubrec: "ID", api.Pubrel: "ID", api.Pubcomp: "ID",
		api.Subscribe: "ID Subs", api.Suback: "ID Codes", api.Unsuback: "ID Codes", api.Unsubscribe: "ID Filters", api.Disconnect: "Code",
	}[kind]), name)
}

// P6.1: kinds
func TestCheckKinds(t *testing.T) {
	for _, kind := range kinds() {
		if code := packet.Check(valid(kind)); code != api.OK {
			t.Errorf("Check of a packet of kind %d = %d", kind, code)
		}
	}
	for _, kind := range others() {
		if code := packet.Check(api.Packet{Kind: kind}); code != api.ErrKind {
			t.Errorf("Check of a packet of kind %d = %d", kind, code)
		}
		for _, f := range fields() {
			p := api.Packet{Kind: kind}
			f.set(&p)
			if code := packet.Check(p); code != api.ErrKind {
				t.Errorf("Check of a packet of kind %d with %s = %d", kind, f.name, code)
			}
		}
	}
}

// P6.1: fields that are not used count before everything else, those that are used have errors of their own.
func TestCheckUnused(t *testing.T) {
	for _, kind := range kinds() {
		for _, f := range fields() {
			p, bare := valid(kind), api.Packet{Kind: kind}
			f.set(&p)
			f.set(&bare)
			// Of a packet that has only this field, the other ones are zero, so that no pair of them is refused.
			if uses(kind, f.name) {
				if code := packet.Check(bare); code == api.ErrField {
					t.Errorf("kind %d cannot use %s", kind, f.name)
				}
				continue
			}
			if code := packet.Check(p); code != api.ErrField {
				t.Errorf("Check of kind %d with %s = %d", kind, f.name, code)
			}
			if code := packet.Check(bare); code != api.ErrField {
				t.Errorf("Check of kind %d with nothing but %s = %d", kind, f.name, code)
			}
		}
	}
}

// P6.1: a list without elements is zero.
func TestCheckEmptyLists(t *testing.T) {
	for _, kind := range kinds() {
		p := valid(kind)
		if len(p.Subs) == 0 {
			p.Subs = []api.Sub{}
		}
		if len(p.Filters) == 0 {
			p.Filters = make([]string, 0, 4)
		}
		if len(p.Codes) == 0 {
			p.Codes = []int{}
		}
		if len(p.Message.Props) == 0 {
			p.Message.Props = []api.Prop{}
		}
		if len(p.Will.Message.Props) == 0 {
			p.Will.Message.Props = []api.Prop{}
		}
		if code := packet.Check(p); code != api.OK {
			t.Errorf("Check of kind %d with empty lists = %d", kind, code)
		}
	}
	p := valid(api.Connect)
	p.Will = api.Will{Message: api.Message{Props: []api.Prop{}}}
	if code := packet.Check(p); code != api.OK {
		t.Errorf("Check of a will that is not set, with an empty list = %d", code)
	}
}

// defect makes a field of a packet invalid.
type defect struct {
	name string
	code api.Errno
	make func(p *api.Packet)
}

// order checks that of two defects, listed in the order of the checks, the first one counts.
func order(t *testing.T, kind int, l []defect) {
	t.Helper()
	for i, first := range l {
		for _, second := range l[i:] {
			p := valid(kind)
			second.make(&p)
			first.make(&p)
			if code := packet.Check(p); code != first.code {
				t.Errorf("Check of kind %d with %s and %s = %d, want %d", kind, first.name, second.name, code, first.code)
			}
		}
	}
}

// each checks changes of a valid packet, one by one.
func each(t *testing.T, kind int, l []defect) {
	t.Helper()
	for _, d := range l {
		p := valid(kind)
		d.make(&p)
		if code := packet.Check(p); code != d.code {
			t.Errorf("Check of kind %d with %s = %d, want %d", kind, d.name, code, d.code)
		}
	}
}

// P6.2
func TestCheckConnect(t *testing.T) {
	each(t, api.Connect, []defect{
		{"no Client", api.ErrName, func(p *api.Packet) { p.Client = "" }}, {"Client 9", api.ErrName, func(p *api.Packet) { p.Client = "9" }}, {"Client A", api.ErrName, func(p *api.Packet) { p.Client = "A" }},
		{"long Client", api.ErrName, func(p *api.Packet) { p.Client = strings.Repeat("c", api.MaxName+1) }}, {"longest Client", api.OK, func(p *api.Packet) { p.Client = strings.Repeat("c", api.MaxName) }},
		{"no User", api.OK, func(p *api.Packet) { p.User = "" }}, {"User *", api.ErrName, func(p *api.Packet) { p.User = "*" }}, {"long User", api.ErrName, func(p *api.Packet) { p.User = strings.Repeat("u", api.MaxName+1) }},
		{"not Clean", api.OK, func(p *api.Packet) { p.Clean = false }},
		{"Keep -1", api.ErrRange, func(p *api.Packet) { p.Keep = -1 }}, {"Keep 0", api.OK, func(p *api.Packet) { p.Keep = 0 }}, {"largest Keep", api.OK, func(p *api.Packet) { p.Keep = api.MaxTick }}, {"Keep too large", api.ErrRange, func(p *api.Packet) { p.Keep = api.MaxTick + 1 }},
		{"Expiry -1", api.ErrRange, func(p *api.Packet) { p.Expiry = -1 }}, {"Expiry 0", api.OK, func(p *api.Packet) { p.Expiry = 0 }}, {"largest Expiry", api.OK, func(p *api.Packet) { p.Expiry = api.MaxTick }}, {"Expiry too large", api.ErrRange, func(p *api.Packet) { p.Expiry = api.MaxTick + 1 }},
		{"Window -1", api.ErrRange, func(p *api.Packet) { p.Window = -1 }}, {"Window 0", api.ErrRange, func(p *api.Packet) { p.Window = 0 }}, {"Window 1", api.OK, func(p *api.Packet) { p.Window = 1 }}, {"largest Window", api.OK, func(p *api.Packet) { p.Window = api.MaxWindow }}, {"Window too large", api.ErrRange, func(p *api.Packet) { p.Window = api.MaxWindow + 1 }},
		{"no Will", api.OK, func(p *api.Packet) { p.Will = api.Will{} }}, {"Will not set", api.ErrField, func(p *api.Packet) { p.Will.Set = false }},
		{"Delay of no Will", api.ErrField, func(p *api.Packet) { p.Will = api.Will{Delay: 1} }}, {"Delay -1 of no Will", api.ErrField, func(p *api.Packet) { p.Will = api.Will{Delay: -1} }}, {"message of no Will", api.ErrField, func(p *api.Packet) { p.Will = api.Will{Message: api.Message{Topic: "a"}} }},
		{"level of no Will", api.ErrField, func(p *api.Packet) { p.Will = api.Will{Message: api.Message{Level: 9}} }}, {"property of no Will", api.ErrField, func(p *api.Packet) { p.Will = api.Will{Message: api.Message{Props: []api.Prop{{}}}} }},
		{"Delay -1", api.ErrRange, func(p *api.Packet) { p.Will.Delay = -1 }}, {"Delay 0", api.OK, func(p *api.Packet) { p.Will.Delay = 0 }}, {"largest Delay", api.OK, func(p *api.Packet) { p.Will.Delay = api.MaxTick }}, {"Delay too large", api.ErrRange, func(p *api.Packet) { p.Will.Delay = api.MaxTick + 1 }},
		{"zero message", api.ErrTopic, func(p *api.Packet) { p.Will.Message = api.Message{} }}, {"Payload", api.ErrTooLong, func(p *api.Packet) { p.Will.Message.Payload = strings.Repeat("p", api.MaxPayload+1) }}, {"Props", api.ErrProps, func(p *api.Packet) { p.Will.Message.Props = []api.Prop{{}} }},
	})
	will := func(change func(w *api.Will)) func(p *api.Packet) {
		return func(p *api.Packet) { change(&p.Will) }
	}
	l := []defect{
		{"Dup", api.ErrField, func(p *api.Packet) { p.Dup = true }},
		{"Client", api.ErrName, func(p *api.Packet) { p.Client = "" }}, {"User", api.ErrName, func(p *api.Packet) { p.User = "9" }},
		{"Keep", api.ErrRange, func(p *api.Packet) { p.Keep = -1 }}, {"Expiry", api.ErrRange, func(p *api.Packet) { p.Expiry = -1 }}, {"Window", api.ErrRange, func(p *api.Packet) { p.Window = 0 }},
	}
	order(t, api.Connect, append(l,
		defect{"Delay", api.ErrRange, will(func(w *api.Will) { w.Delay = -1 })},
		defect{"Topic", api.ErrTopic, will(func(w *api.Will) { w.Message.Topic = "+" })},
		defect{"Level", api.ErrLevel, will(func(w *api.Will) { w.Message.Level = 3 })}))
	order(t, api.Connect, append(l, defect{"Set", api.ErrField, will(func(w *api.Will) { w.Set, w.Delay, w.Message.Topic = false, -1, "+" })}))
}

// P6.2
func TestCheckCodes(t *testing.T) {
	for code := -3; code < 40; code++ {
		want := api.OK
		if code < 0 || code > 29 {
			want = api.ErrRange
		}
		if got := packet.Check(api.Packet{Kind: api.Disconnect, Code: code}); got != want {
			t.Errorf("Check of Disconnect with Code %d = %d", code, got)
		}
		if got := packet.Check(api.Packet{Kind: api.Connack, Code: code}); got != want {
			t.Errorf("Check of Connack with Code %d = %d", code, got)
		}
		if want == api.OK && code != 0 {
			want = api.ErrField
		}
		if got := packet.Check(api.Packet{Kind: api.Connack, Present: true, Code: code}); got != want {
			t.Errorf("Check of Connack with Present and Code %d = %d", code, got)
		}
	}
	for _, kind := range []int{api.Connack, api.Disconnect} {
		for _, code := range []int{math.MinInt, math.MaxInt, 1 << 32} {
			if got := packet.Check(api.Packet{Kind: kind, Code: code}); got != api.ErrRange {
				t.Errorf("Check of kind %d with Code %d = %d", kind, code, got)
			}
		}
	}
}

// P6.3
func TestCheckPublish(t *testing.T) {
	for _, level := range []int{0, 1, 2} {
		for _, id := range []int{math.MinInt, -1, 0, 1, 2, api.MaxIdent, api.MaxIdent + 1, math.MaxInt} {
			for _, dup := range []bool{false, true} {
				want := api.OK
				switch {
				case level == 0 && id != 0, level > 0 && (id < 1 || id > api.MaxIdent):
					want = api.ErrIdent
				case level == 0 && dup:
					want = api.ErrField
				}
				if code := packet.Check(api.Packet{Kind: api.Publish, ID: id, Dup: dup, Message: note(level)}); code != want {
					t.Errorf("Check of Publish with level %d, ID %d and Dup %v = %d", level, id, dup, code)
				}
			}
		}
	}
	bad := func(change func(m *api.Message)) func(p *api.Packet) {
		return func(p *api.Packet) { change(&p.Message) }
	}
	l := []defect{
		{"Client", api.ErrField, func(p *api.Packet) { p.Client = "c" }},
		{"Topic", api.ErrTopic, bad(func(m *api.Message) { m.Topic = "" })}, {"Payload", api.ErrTooLong, bad(func(m *api.Message) { m.Payload = strings.Repeat("p", api.MaxPayload+1) })}, {"Level", api.ErrLevel, bad(func(m *api.Message) { m.Level = 3 })},
		{"Seq", api.ErrRange, bad(func(m *api.Message) { m.Seq = -1 })}, {"Props", api.ErrProps, bad(func(m *api.Message) { m.Props = []api.Prop{{}} })},
		{"ID", api.ErrIdent, func(p *api.Packet) { p.ID = 0 }},
	}
	order(t, api.Publish, l)
	each(t, api.Publish, append(l, defect{"Level -1", api.ErrLevel, bad(func(m *api.Message) { m.Level = -1 })}, defect{"no Message", api.ErrTopic, func(p *api.Packet) { p.Message = api.Message{} }}))
}

// P6.3
func TestCheckAcknowledgements(t *testing.T) {
	for _, kind := range []int{api.Puback, api.Pubrec, api.Pubrel, api.Pubcomp} {
		for id, want := range map[int]api.Errno{math.MinInt: api.ErrIdent, -1: api.ErrIdent, 0: api.ErrIdent, 1: api.OK, 65535: api.OK, 65536: api.ErrIdent, 1<<32 + 1: api.ErrIdent, math.MaxInt: api.ErrIdent} {
			if code := packet.Check(api.Packet{Kind: kind, ID: id}); code != want {
				t.Errorf("Check of kind %d with ID %d = %d", kind, id, code)
			}
		}
	}
}

// lists makes the list of a packet have n elements, all valid.
func lists(n int) func(p *api.Packet) {
	return func(p *api.Packet) {
		switch p.Kind {
		case api.Subscribe:
			p.Subs = slices.Repeat([]api.Sub{{Filter: "a"}}, n)
		case api.Unsubscribe:
			p.Filters = slices.Repeat([]string{"a"}, n)
		default:
			p.Codes = make([]int, n)
		}
	}
}

// spoil makes the element i of the list of a packet invalid.
func spoil(i int) func(p *api.Packet) {
	return func(p *api.Packet) {
		if i < len(p.Subs) {
			p.Subs[i].Filter = ""
		}
		if i < len(p.Filters) {
			p.Filters[i] = ""
		}
		if i < len(p.Codes) {
			p.Codes[i] = 30
		}
	}
}

// P6.4: identifiers and numbers of elements
func TestCheckLists(t *testing.T) {
	for kind, element := range map[int]api.Errno{api.Subscribe: api.ErrFilter, api.Unsubscribe: api.ErrFilter, api.Suback: api.ErrRange, api.Unsuback: api.ErrRange} {
		each(t, kind, []defect{
			{"ID -1", api.ErrIdent, func(p *api.Packet) { p.ID = -1 }}, {"ID 0", api.ErrIdent, func(p *api.Packet) { p.ID = 0 }}, {"ID 1", api.OK, func(p *api.Packet) { p.ID = 1 }}, {"largest ID", api.OK, func(p *api.Packet) { p.ID = api.MaxIdent }}, {"ID too large", api.ErrIdent, func(p *api.Packet) { p.ID = api.MaxIdent + 1 }},
			{"no element", api.ErrRange, lists(0)}, {"one element", api.OK, lists(1)}, {"32 elements", api.OK, lists(api.MaxList)}, {"33 elements", api.ErrTooLong, lists(api.MaxList + 1)}, {"9999 elements", api.ErrTooLong, lists(9999)},
			{"the first element", element, spoil(0)}, {"the second element", element, spoil(1)},
			{"the last one of 32", element, func(p *api.Packet) { lists(api.MaxList)(p); spoil(api.MaxList - 1)(p) }},
			{"33 elements and the first one", api.ErrTooLong, func(p *api.Packet) { lists(api.MaxList + 1)(p); spoil(0)(p) }},
			{"no ID and the first one", api.ErrIdent, func(p *api.Packet) { p.ID = 0; spoil(0)(p) }},
			{"no ID and no element", api.ErrIdent, func(p *api.Packet) { p.ID = 0; lists(0)(p) }},
			{"no ID and 33 elements", api.ErrIdent, func(p *api.Packet) { p.ID = 0; lists(api.MaxList + 1)(p) }},
			{"Code and no ID", api.ErrField, func(p *api.Packet) { p.ID, p.Code = 0, 1 }},
		})
	}
	for code := -2; code < 40; code++ {
		want := api.OK
		if code < 0 || code > 29 {
			want = api.ErrRange
		}
		for _, kind := range []int{api.Suback, api.Unsuback} {
			if got := packet.Check(api.Packet{Kind: kind, ID: 1, Codes: []int{0, code}}); got != want {
				t.Errorf("Check of kind %d with the code %d = %d", kind, code, got)
			}
		}
	}
}

// filters maps filters to whether a client may ask for them.
func filters() map[string]bool {
	long := strings.Repeat("t", api.MaxTopic)
	return map[string]bool{
		"a": true, "a/+": true, "#": true, "+/a/#": true, "/": true, "$sys/#": true, long: true, "a/b/c/d/e/f/g/h": true,
		"$share": true, "$shared/a": true, "$SHARE/G/a": true, "+/$share/a": true, "a/$share/g/b": true,
		"$share/g/a": true, "$share/g/#": true, "$share/g-1/+/a": true, "$share/g//": true, "$share/g/$sys": true, "$share/g/$share": true,
		"$share/" + strings.Repeat("g", api.MaxName) + "/" + long: true, "$share/g/a/b/c/d/e/f/g/h": true,
		"": false, "a+": false, "#/a": false, "a\x00": false, long + "t": false, "a/b/c/d/e/f/g/h/i": false,
		"$share/": false, "$share/g": false, "$share/g/": false, "$share//a": false, "$share/G/a": false, "$share/+/a": false, "$share/#": false, "$share/9/a": false, "$share/g/a+": false, "$share/g/$share/h/a": false,
		"$share/" + strings.Repeat("g", api.MaxName+1) + "/a": false, "$share/g/" + long + "t": false, "$share/g/a/b/c/d/e/f/g/h/i": false,
	}
}

// P6.4: the elements of Subscribe and Unsubscribe
func TestCheckFilters(t *testing.T) {
	for filter, ok := range filters() {
		_, _, shared := topic.Shared(filter)
		want := api.OK
		if !ok {
			want = api.ErrFilter
		}
		if got := packet.Check(api.Packet{Kind: api.Unsubscribe, ID: 1, Filters: []string{"a", filter}}); got != want {
			t.Errorf("Check of Unsubscribe with %q = %d", filter, got)
		}
		for level := -1; level <= 3; level++ {
			for _, noLocal := range []bool{false, true} {
				want := want
				switch {
				case !ok:
				case level < 0 || level > 2:
					want = api.ErrLevel
				case noLocal && shared:
					want = api.ErrField
				}
				if got := packet.Check(api.Packet{Kind: api.Subscribe, ID: 1, Subs: []api.Sub{{Filter: "a"}, {Filter: filter, Level: level, NoLocal: noLocal}}}); got != want {
					t.Errorf("Check of Subscribe with %q, level %d and NoLocal %v = %d, want %d", filter, level, noLocal, got, want)
				}
			}
		}
	}
	// One element after the other, each completely
	for _, x := range []struct {
		subs []api.Sub
		want api.Errno
	}{
		{[]api.Sub{{Filter: "$share/g/a", NoLocal: true}, {Filter: "", Level: 3}}, api.ErrField}, {[]api.Sub{{Filter: "a", Level: 3}, {Filter: ""}}, api.ErrLevel}, {[]api.Sub{{Filter: ""}, {Filter: "a", Level: 3}}, api.ErrFilter},
		{[]api.Sub{{Filter: "a"}, {Filter: "a"}}, api.OK}, {[]api.Sub{{Filter: "$share/g/a", Level: 3, NoLocal: true}}, api.ErrLevel},
	} {
		if got := packet.Check(api.Packet{Kind: api.Subscribe, ID: 1, Subs: x.subs}); got != x.want {
			t.Errorf("Check of Subscribe with %+v = %d, want %d", x.subs, got, x.want)
		}
	}
}

// The chapter's examples
func TestExamples(t *testing.T) {
	for _, x := range []struct {
		p    api.Packet
		want api.Errno
	}{
		{api.Packet{Kind: api.Ping}, api.OK}, {api.Packet{Kind: api.Ping, ID: 1}, api.ErrField}, {api.Packet{Kind: 15}, api.ErrKind}, {api.Packet{}, api.ErrKind},
		{api.Packet{Kind: api.Publish, Message: note(1)}, api.ErrIdent}, {api.Packet{Kind: api.Publish, Dup: true, Message: note(0)}, api.ErrField},
		{api.Packet{Kind: api.Subscribe, ID: 1}, api.ErrRange}, {api.Packet{Kind: api.Subscribe, ID: 1, Subs: []api.Sub{{Filter: "$share/g/a", NoLocal: true}}}, api.ErrField}, {api.Packet{Kind: api.Subscribe, ID: 1, Subs: []api.Sub{{Filter: "$share/g"}}}, api.ErrFilter},
	} {
		if got := packet.Check(x.p); got != x.want {
			t.Errorf("Check(%+v) = %d, want %d", x.p, got, x.want)
		}
	}
}

// whole returns a packet in which no field is zero.
func whole() api.Packet {
	return api.Packet{
		Kind: 3, ID: 7, Dup: true, Message: note(2), Client: "c", User: "u", Clean: true, Keep: 1, Expiry: 2, Window: 3, Will: api.Will{Set: true, Delay: 4, Message: note(1)},
		Present: true, Code: 5, Subs: []api.Sub{{Filter: "a", Level: 1, NoLocal: true}, {Filter: "b"}}, Filters: []string{"a", "b"}, Codes: []int{1, 2},
	}
}

// P6.5
func TestSame(t *testing.T) {
	v := reflect.ValueOf(whole())
	for i := range v.NumField() {
		if v.Field(i).IsZero() {
			t.Fatalf("the field %d of whole is zero", i)
		}
	}
	for i, change := range []func(p *api.Packet){
		func(p *api.Packet) { p.Kind = 4 }, func(p *api.Packet) { p.ID = 8 }, func(p *api.Packet) { p.Dup = false }, func(p *api.Packet) { p.Client = "d" }, func(p *api.Packet) { p.User = "" }, func(p *api.Packet) { p.Clean = false },
		func(p *api.Packet) { p.Keep = 2 }, func(p *api.Packet) { p.Expiry = 1 }, func(p *api.Packet) { p.Window = -3 }, func(p *api.Packet) { p.Present = false }, func(p *api.Packet) { p.Code = 6 },
		func(p *api.Packet) { p.Message.Topic = "a" }, func(p *api.Packet) { p.Message.Payload = "" }, func(p *api.Packet) { p.Message.Level = 1 }, func(p *api.Packet) { p.Message.Retain = false }, func(p *api.Packet) { p.Message.Priority = 2 }, func(p *api.Packet) { p.Message.Expires = 3 }, func(p *api.Packet) { p.Message.From = "y" }, func(p *api.Packet) { p.Message.Seq = 4 }, func(p *api.Packet) { p.Message.Props = nil }, func(p *api.Packet) { p.Message.Props = []api.Prop{{Key: "k", Value: "w"}} },
		func(p *api.Packet) { p.Will.Set = false }, func(p *api.Packet) { p.Will.Delay = 5 }, func(p *api.Packet) { p.Will.Message.Topic = "b" }, func(p *api.Packet) { p.Will.Message.Seq = 0 }, func(p *api.Packet) { p.Will.Message.Props = []api.Prop{{Key: "l", Value: "v"}} }, func(p *api.Packet) { p.Will.Message = note(2) },
		func(p *api.Packet) { p.Subs = nil }, func(p *api.Packet) { p.Subs = p.Subs[:1] }, func(p *api.Packet) { p.Subs[0].Filter = "b" }, func(p *api.Packet) { p.Subs[0].Level = 2 }, func(p *api.Packet) { p.Subs[1].NoLocal = true }, func(p *api.Packet) { p.Subs[0], p.Subs[1] = p.Subs[1], p.Subs[0] },
		func(p *api.Packet) { p.Filters = nil }, func(p *api.Packet) { p.Filters = p.Filters[:1] }, func(p *api.Packet) { p.Filters[1] = "c" }, func(p *api.Packet) { p.Filters = append(p.Filters, "") },
		func(p *api.Packet) { p.Codes = nil }, func(p *api.Packet) { p.Codes = p.Codes[1:] }, func(p *api.Packet) { p.Codes[1] = 3 }, func(p *api.Packet) { p.Codes = append(p.Codes, 0) },
	} {
		p := whole()
		change(&p)
		if packet.Same(whole(), p) || packet.Same(p, whole()) || !packet.Same(p, p) {
			t.Errorf("Same with the change %d", i)
		}
	}
	for _, f := range fields() {
		var p, q api.Packet
		f.set(&p)
		f.set(&q)
		if packet.Same(p, api.Packet{}) || packet.Same(api.Packet{}, p) || !packet.Same(p, q) {
			t.Errorf("Same with %s", f.name)
		}
	}
	for _, a := range kinds() {
		for _, b := range kinds() {
			if packet.Same(valid(a), valid(b)) != (a == b) {
				t.Errorf("Same of the kinds %d and %d", a, b)
			}
		}
	}
	empty := api.Packet{Subs: []api.Sub{}, Filters: []string{}, Codes: []int{}, Message: api.Message{Props: []api.Prop{}}, Will: api.Will{Message: api.Message{Props: []api.Prop{}}}}
	if !packet.Same(whole(), whole()) || !packet.Same(empty, api.Packet{}) || !packet.Same(api.Packet{}, empty) {
		t.Error("equal packets are different")
	}
}

// R5: the arguments stay as they are.
func TestUnchanged(t *testing.T) {
	for _, kind := range kinds() {
		p := valid(kind)
		packet.Check(p)
		packet.Answer(p)
		packet.Same(p, valid(kind))
		if !reflect.DeepEqual(p, valid(kind)) {
			t.Errorf("a packet of kind %d is modified: %+v", kind, p)
		}
	}
}

// P6.6, for packets that are valid and packets that are not
func TestAnswer(t *testing.T) {
	for _, kind := range append(kinds(), others()...) {
		for _, level := range []int{math.MinInt, -1, 0, 1, 2, 3, math.MaxInt} {
			for _, id := range []int{math.MinInt, -1, 0, 1, 7, api.MaxIdent, api.MaxIdent + 1} {
				answer := 0
				switch {
				case kind == api.Publish && level == 1:
					answer = api.Puback
				case kind == api.Publish && level == 2:
					answer = api.Pubrec
				case kind == api.Pubrec:
					answer = api.Pubrel
				case kind == api.Pubrel:
					answer = api.Pubcomp
				case kind == api.Ping:
					answer = api.Pong
				}
				want := api.Packet{}
				if answer != 0 {
					want = api.Packet{Kind: answer, ID: id}
				}
				full := whole()
				full.Kind, full.ID, full.Message.Level = kind, id, level
				for _, p := range []api.Packet{{Kind: kind, ID: id, Message: api.Message{Level: level}}, full} {
					if got, ok := packet.Answer(p); ok != (answer != 0) || !reflect.DeepEqual(got, want) {
						t.Errorf("Answer(%+v) = %+v, %v", p, got, ok)
					}
				}
			}
		}
	}
}

// P6.7
func TestSenders(t *testing.T) {
	clients := []int{api.Connect, api.Publish, api.Puback, api.Pubrec, api.Pubrel, api.Pubcomp, api.Subscribe, api.Unsubscribe, api.Ping, api.Disconnect}
	brokers := []int{api.Connack, api.Publish, api.Puback, api.Pubrec, api.Pubrel, api.Pubcomp, api.Suback, api.Unsuback, api.Pong, api.Disconnect}
	for _, kind := range append(kinds(), others()...) {
		if got := packet.Client(kind); got != slices.Contains(clients, kind) {
			t.Errorf("Client(%d) = %v", kind, got)
		}
		if got := packet.Broker(kind); got != slices.Contains(brokers, kind) {
			t.Errorf("Broker(%d) = %v", kind, got)
		}
	}
}

// C6.1
func TestPacketAnswers(t *testing.T) {
	answered := 0
	for _, kind := range kinds() {
		for _, level := range []int{0, 1, 2} {
			p := valid(kind)
			if kind == api.Publish {
				p.Message.Level = level
			}
			if kind == api.Publish && level == 0 {
				p.ID, p.Dup = 0, false
			}
			if code := packet.Check(p); code != api.OK {
				t.Fatalf("%+v is not valid: %d", p, code)
			}
			answer, ok := packet.Answer(p)
			if !ok {
				continue
			}
			answered++
			if code := packet.Check(answer); code != api.OK {
				t.Errorf("the answer %+v is not valid: %d", answer, code)
			}
			// What clients send brokers receive, and the other way round.
			if packet.Client(kind) && !packet.Broker(answer.Kind) || packet.Broker(kind) && !packet.Client(answer.Kind) {
				t.Errorf("whoever receives the kind %d cannot send the kind %d", kind, answer.Kind)
			}
		}
	}
	if answered != 2+3*3 {
		t.Errorf("%d packets are answered", answered)
	}
}

// C6.2
func TestPacketHandshake(t *testing.T) {
	for level, want := range [][]int{nil, {api.Puback}, {api.Pubrec, api.Pubrel, api.Pubcomp}} {
		for _, id := range []int{1, 7, api.MaxIdent} {
			p := api.Packet{Kind: api.Publish, ID: id, Message: note(level)}
			var got []int
			for len(got) < 9 {
				answer, ok := packet.Answer(p)
				if !ok {
					break
				}
				if !packet.Same(answer, api.Packet{Kind: answer.Kind, ID: id}) || !message.Same(answer.Message, api.Message{}) {
					t.Errorf("the answer is %+v", answer)
				}
				got = append(got, answer.Kind)
				p = answer
			}
			if !slices.Equal(got, want) {
				t.Errorf("level %d: the answers are %v", level, got)
			}
		}
	}
}
