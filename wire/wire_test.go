package wire_test

import (
	"bytes"
	"math"
	"reflect"
	"slices"
	"strings"
	"testing"

	"broker/api"
	"broker/message"
	"broker/pack"
	"broker/packet"
	"broker/wire"
)

const maxFilter = api.MaxTopic + api.MaxName + 8

func num(n int) []byte { return pack.PutNum(nil, n) }

func text(s string) []byte { return pack.PutText(nil, s) }

// note returns a valid message of a level in which no other field is zero.
func note(level int) api.Message {
	return api.Message{Topic: "a/b", Payload: "p\x00\xff", Level: level, Retain: true, Priority: 9, Expires: 70000, From: "x-1", Seq: 300, Props: []api.Prop{{Key: "a", Value: "1"}, {Key: "b"}}}
}

// largest returns a valid message with as many bytes as possible.
func largest() api.Message {
	m := api.Message{
		Topic: strings.Repeat("t", api.MaxTopic), Payload: strings.Repeat("\xff", api.MaxPayload), Level: 2, Retain: true, Priority: api.MaxPriority,
		Expires: api.MaxTick, From: strings.Repeat("f", api.MaxName), Seq: api.MaxNumber,
	}
	for i := range api.MaxProps {
		m.Props = append(m.Props, api.Prop{Key: strings.Repeat(string(rune('a'+i)), api.MaxKey), Value: strings.Repeat("v", api.MaxValue)})
	}
	return m
}

// longest returns the longest filter of a shared subscription.
func longest() string {
	return "$share/" + strings.Repeat("g", api.MaxName) + "/" + strings.Repeat("f", api.MaxTopic)
}

func kinds() []int { return []int{1, 2, 3, 4, 5, 6, 7, 8, 9, 10, 11, 12, 13, 14} }

// full returns a valid packet of a kind in which all fields that the kind uses are set, as far as they can be.
func full(kind int) api.Packet {
	p := api.Packet{Kind: kind}
	switch kind {
	case api.Connect:
		p.Client, p.User, p.Clean, p.Keep, p.Expiry, p.Window = "c", "u", true, 1, 200, 3
		p.Will = api.Will{Set: true, Delay: 4, Message: note(1)}
	case api.Connack:
		p.Code = 9
	case api.Publish:
		p.ID, p.Dup, p.Message = 7, true, note(2)
	case api.Puback, api.Pubrec, api.Pubrel, api.Pubcomp:
		p.ID = 7
	case api.Subscribe:
		p.ID, p.Subs = 7, []api.Sub{{Filter: "a/#", Level: 2, NoLocal: true}, {Filter: "$share/g/+", Level: 1}}
	case api.Suback, api.Unsuback:
		p.ID, p.Codes = 7, []int{0, 13, 29}
	case api.Unsubscribe:
		p.ID, p.Filters = 7, []string{"a/#", "$share/g/+"}
	case api.Disconnect:
		p.Code = 9
	}
	return p
}

// valid returns valid packets: of each kind a full one, small ones and large ones.
func valid() []api.Packet {
	var l []api.Packet
	for _, kind := range kinds() {
		l = append(l, full(kind))
	}
	name := strings.Repeat("n", api.MaxName)
	l = append(l,
		api.Packet{Kind: api.Connect, Client: "c", Window: 1},
		api.Packet{Kind: api.Connect, Client: "c", Window: 1, Clean: true},
		api.Packet{Kind: api.Connect, Client: "c", Window: 1, Will: api.Will{Set: true, Message: api.Message{Topic: "t"}}},
		api.Packet{Kind: api.Connect, Client: name, User: name, Clean: true, Keep: api.MaxTick, Expiry: api.MaxTick, Window: api.MaxWindow, Will: api.Will{Set: true, Delay: api.MaxTick, Message: largest()}},
		api.Packet{Kind: api.Connack}, api.Packet{Kind: api.Connack, Present: true}, api.Packet{Kind: api.Connack, Code: 29},
		api.Packet{Kind: api.Publish, Message: api.Message{Topic: "t"}},
		api.Packet{Kind: api.Publish, ID: 1, Message: api.Message{Topic: "t", Level: 1}},
		api.Packet{Kind: api.Publish, ID: api.MaxIdent, Dup: true, Message: largest()},
		api.Packet{Kind: api.Puback, ID: api.MaxIdent}, api.Packet{Kind: api.Pubcomp, ID: 64},
		api.Packet{Kind: api.Subscribe, ID: 1, Subs: []api.Sub{{Filter: "#"}}},
		api.Packet{Kind: api.Subscribe, ID: api.MaxIdent, Subs: slices.Repeat([]api.Sub{{Filter: longest(), Level: 2}}, api.MaxList)},
		api.Packet{Kind: api.Suback, ID: 1, Codes: slices.Repeat([]int{29}, api.MaxList)},
		api.Packet{Kind: api.Unsubscribe, ID: 1, Filters: slices.Repeat([]string{longest()}, api.MaxList)},
		api.Packet{Kind: api.Unsuback, ID: 1, Codes: []int{0}},
		api.Packet{Kind: api.Disconnect},
	)
	return l
}

// invalid returns packets that are not valid, in many ways.
func invalid() []api.Packet {
	l := []api.Packet{
		{}, {Kind: 15}, {Kind: -1}, {Kind: math.MaxInt}, {Kind: api.Connect}, {Kind: api.Connack, Code: 30}, {Kind: api.Connack, Present: true, Code: 1},
		{Kind: api.Publish}, {Kind: api.Publish, ID: 1, Message: api.Message{Topic: "t"}}, {Kind: api.Puback}, {Kind: api.Pubrec, ID: api.MaxIdent + 1}, {Kind: api.Pubrel, ID: -1},
		{Kind: api.Subscribe, ID: 1}, {Kind: api.Subscribe, ID: 1, Subs: []api.Sub{{Filter: "a"}, {Filter: "a#"}}}, {Kind: api.Subscribe, ID: 1, Subs: []api.Sub{{Filter: "a", Level: 3}}}, {Kind: api.Subscribe, ID: 1, Subs: []api.Sub{{Filter: "$share/g/a", NoLocal: true}}},
		{Kind: api.Suback, ID: 1}, {Kind: api.Suback, ID: 1, Codes: make([]int, api.MaxList+1)}, {Kind: api.Unsuback, ID: 1, Codes: []int{-1}}, {Kind: api.Unsubscribe, ID: 1, Filters: []string{""}}, {Kind: api.Disconnect, Code: -1},
	}
	for _, kind := range kinds() {
		p := full(kind)
		p.Present = true
		p.Keep = -1
		l = append(l, p)
	}
	return l
}

// parts returns the values of a packet in its chapter's order, each one encoded: the kind, and then those of the table. The packet need not be valid.
func parts(p api.Packet) [][]byte {
	flags := func(l ...bool) []byte { return num(pack.Flags(l)) }
	l := [][]byte{num(p.Kind)}
	switch p.Kind {
	case api.Connect:
		l = append(l, text(p.Client), text(p.User), flags(p.Clean, p.Will.Set), num(p.Keep), num(p.Expiry), num(p.Window))
		if p.Will.Set {
			l = append(l, num(p.Will.Delay), message.Put(nil, p.Will.Message))
		}
	case api.Connack:
		l = append(l, flags(p.Present), num(p.Code))
	case api.Publish:
		l = append(l, num(p.ID), flags(p.Dup), message.Put(nil, p.Message))
	case api.Puback, api.Pubrec, api.Pubrel, api.Pubcomp:
		l = append(l, num(p.ID))
	case api.Subscribe:
		l = append(l, num(p.ID), num(len(p.Subs)))
		for _, s := range p.Subs {
			l = append(l, text(s.Filter), num(s.Level), flags(s.NoLocal))
		}
	case api.Suback, api.Unsuback:
		l = append(l, num(p.ID), num(len(p.Codes)))
		for _, c := range p.Codes {
			l = append(l, num(c))
		}
	case api.Unsubscribe:
		l = append(l, num(p.ID), num(len(p.Filters)))
		for _, f := range p.Filters {
			l = append(l, text(f))
		}
	case api.Disconnect:
		l = append(l, num(p.Code))
	}
	return l
}

// form follows the chapter's definition of the binary form.
func form(p api.Packet) []byte { return slices.Concat(parts(p)...) }

// joint follows the chapter's definition of the joint form.
func joint(l []api.Packet) []byte {
	var b []byte
	for _, p := range l {
		b = slices.Concat(b, num(len(form(p))), form(p))
	}
	return b
}

// decodes checks the result of Decode: the packet, or the error and no packet.
func decodes(t *testing.T, what string, b []byte, want api.Packet, code api.Errno) {
	t.Helper()
	kept := slices.Clone(b)
	got, e := wire.Decode(b)
	if e != code {
		t.Errorf("Decode of %s (%.40v): error %d, want %d", what, b, e, code)
	} else if code != api.OK && !reflect.DeepEqual(got, api.Packet{}) {
		t.Errorf("Decode of %s: error %d, with %+v", what, e, got)
	} else if code == api.OK && !packet.Same(got, want) {
		t.Errorf("Decode of %s: %+v, want %+v", what, got, want)
	}
	if !bytes.Equal(b, kept) {
		t.Errorf("Decode of %s modifies its argument", what)
	}
}

// fails checks that Decode returns an error.
func fails(t *testing.T, what string, b []byte, code api.Errno) {
	t.Helper()
	decodes(t, what, b, api.Packet{}, code)
}

// P7.1 and P7.2, the examples
func TestExamples(t *testing.T) {
	for _, x := range []struct {
		p api.Packet
		b []byte
	}{
		{api.Packet{Kind: api.Ping}, []byte{24}}, {api.Packet{Kind: api.Pong}, []byte{26}},
		{api.Packet{Kind: api.Puback, ID: 1}, []byte{8, 2}},
		{api.Packet{Kind: api.Publish, ID: 1, Message: api.Message{Topic: "a", Level: 1}}, []byte{6, 2, 0, 2, 97, 0, 2, 0, 0, 0, 0, 0, 0}},
		{api.Packet{Kind: api.Subscribe, ID: 1, Subs: []api.Sub{{Filter: "a/#", Level: 2}}}, []byte{16, 2, 2, 6, 97, 47, 35, 4, 0}},
		{api.Packet{Kind: api.Connect, Client: "c", User: "u", Window: 1}, []byte{2, 2, 99, 2, 117, 0, 0, 0, 2}},
		{api.Packet{Kind: api.Connect, Client: "c", Clean: true, Keep: 3, Expiry: 64, Window: 2}, []byte{2, 2, 99, 0, 2, 6, 128, 1, 4}},
		{api.Packet{Kind: api.Connect, Client: "c", Window: 1, Will: api.Will{Set: true, Delay: 5, Message: api.Message{Topic: "a", Retain: true}}}, []byte{2, 2, 99, 0, 4, 0, 0, 2, 10, 2, 97, 0, 0, 2, 0, 0, 0, 0, 0}},
		{api.Packet{Kind: api.Connack, Present: true}, []byte{4, 2, 0}}, {api.Packet{Kind: api.Connack, Code: 9}, []byte{4, 0, 18}},
		{api.Packet{Kind: api.Publish, ID: 2, Dup: true, Message: api.Message{Topic: "a", Level: 2}}, []byte{6, 4, 2, 2, 97, 0, 4, 0, 0, 0, 0, 0, 0}},
		{api.Packet{Kind: api.Suback, ID: 1, Codes: []int{0, 13}}, []byte{18, 2, 4, 0, 26}}, {api.Packet{Kind: api.Unsuback, ID: 1, Codes: []int{8}}, []byte{22, 2, 2, 16}},
		{api.Packet{Kind: api.Unsubscribe, ID: 1, Filters: []string{"a", "+/b"}}, []byte{20, 2, 4, 2, 97, 6, 43, 47, 98}},
		{api.Packet{Kind: api.Subscribe, ID: 1, Subs: []api.Sub{{Filter: "a", NoLocal: true}}}, []byte{16, 2, 2, 2, 97, 0, 2}},
		{api.Packet{Kind: api.Disconnect, Code: 29}, []byte{28, 58}}, {api.Packet{Kind: api.Pubrel, ID: 65535}, []byte{12, 254, 255, 7}},
	} {
		if got, code := wire.Encode(x.p); !bytes.Equal(got, x.b) || code != api.OK {
			t.Errorf("Encode(%+v) = %v, %d", x.p, got, code)
		}
		decodes(t, "an example", x.b, x.p, api.OK)
	}
	fails(t, "24, 0", []byte{24, 0}, api.ErrSyntax)
	fails(t, "8", []byte{8}, api.ErrTruncated)
	fails(t, "8, 0", []byte{8, 0}, api.ErrIdent)
	fails(t, "30", []byte{30}, api.ErrKind)
	fails(t, "4, 4, 0", []byte{4, 4, 0}, api.ErrSyntax)
}

// P7.1
func TestEncode(t *testing.T) {
	for _, p := range valid() {
		got, code := wire.Encode(p)
		if !bytes.Equal(got, form(p)) || code != api.OK {
			t.Errorf("Encode(%+v) = %v, %d", p, got, code)
		}
		if len(got) > api.MaxPacket {
			t.Errorf("the form of kind %d has %d bytes", p.Kind, len(got))
		}
	}
	for _, p := range invalid() {
		want := packet.Check(p)
		if got, code := wire.Encode(p); len(got) != 0 || code != want || want == api.OK {
			t.Errorf("Encode(%+v) = %v, %d, want the error %d", p, got, code, want)
		}
	}
}

// P7.1: results are new, and arguments as they were.
func TestEncodeIsNew(t *testing.T) {
	for _, p := range valid() {
		first, _ := wire.Encode(p)
		second, _ := wire.Encode(p)
		clear(first[:cap(first)])
		if !bytes.Equal(second, form(p)) {
			t.Errorf("two forms of kind %d share memory", p.Kind)
		}
	}
	for _, kind := range kinds() {
		p := full(kind)
		wire.Encode(p)
		wire.EncodeAll([]api.Packet{p})
		if !reflect.DeepEqual(p, full(kind)) {
			t.Errorf("Encode modifies a packet of kind %d", kind)
		}
	}
}

// P7.1: EncodeAll
func TestEncodeAll(t *testing.T) {
	two := []api.Packet{{Kind: api.Ping}, {Kind: api.Ping}}
	if got, code := wire.EncodeAll(two); !bytes.Equal(got, []byte{2, 24, 2, 24}) || code != api.OK {
		t.Errorf("EncodeAll of two Ping packets = %v, %d", got, code)
	}
	lists := [][]api.Packet{nil, {}, two, valid(), slices.Repeat(two, 500), {full(api.Publish)}}
	for _, l := range lists {
		if got, code := wire.EncodeAll(l); !bytes.Equal(got, joint(l)) || code != api.OK {
			t.Errorf("EncodeAll of %d packets: %d bytes, %d", len(l), len(got), code)
		}
	}
	for _, first := range invalid() {
		for _, l := range [][]api.Packet{{first}, append(valid(), first), {full(api.Ping), first, {Kind: 15}, {Kind: api.Puback}}} {
			if got, code := wire.EncodeAll(l); len(got) != 0 || code != packet.Check(first) {
				t.Errorf("EncodeAll with %+v: %v, %d", first, got, code)
			}
		}
	}
}

// P7.2: the number of bytes counts before everything else.
func TestDecodeLength(t *testing.T) {
	for _, first := range [][]byte{{24}, {30}, {128, 0}, form(largestPacket())} {
		b := append(slices.Clone(first), make([]byte, api.MaxPacket)...)
		fails(t, "too many bytes", b, api.ErrTooLong)
		fails(t, "too many bytes by one", b[:api.MaxPacket+1], api.ErrTooLong)
		if _, code := wire.Decode(b[:api.MaxPacket]); code == api.ErrTooLong || code == api.OK {
			t.Errorf("Decode of MaxPacket bytes that begin with %v: %d", first, code)
		}
	}
	fails(t, "MaxPacket bytes", append([]byte{24}, make([]byte, api.MaxPacket-1)...), api.ErrSyntax)
}

func largestPacket() api.Packet {
	return api.Packet{Kind: api.Publish, ID: api.MaxIdent, Message: largest()}
}

// P7.2: the kind
func TestDecodeKind(t *testing.T) {
	fails(t, "nothing", nil, api.ErrTruncated)
	fails(t, "an empty slice", []byte{}, api.ErrTruncated)
	fails(t, "half a number", []byte{128}, api.ErrTruncated)
	fails(t, "a long zero", []byte{128, 0}, api.ErrSyntax)
	fails(t, "a number of more than 64 bits", append(bytes.Repeat([]byte{255}, 9), 2), api.ErrSyntax)
	fails(t, "a kind in two bytes", []byte{152, 0}, api.ErrSyntax)
	for _, kind := range []int{0, -1, 15, 16, 24, 1 << 32, 1<<32 + 12, math.MaxInt, math.MinInt} {
		fails(t, "an unknown kind", num(kind), api.ErrKind)
		fails(t, "an unknown kind and more", append(num(kind), 128, 0), api.ErrKind)
	}
}

// bad is an encoded value that cannot be read.
type bad struct {
	part int
	b    []byte
	code api.Errno
}

// badNums are encodings that cannot be read as any number.
func badNums(part int) []bad {
	return []bad{{part, []byte{128, 0}, api.ErrSyntax}, {part, []byte{255, 128, 0}, api.ErrSyntax}, {part, append(bytes.Repeat([]byte{255}, 9), 2), api.ErrSyntax}, {part, bytes.Repeat([]byte{128}, 11), api.ErrSyntax}}
}

// badFlags are those of a number of bools.
func badFlags(part, bools int) []bad {
	l := badNums(part)
	for _, n := range []int{1 << bools, 1<<bools + 1, -1, -2, math.MinInt, math.MaxInt, 1 << 32} {
		l = append(l, bad{part, num(n), api.ErrSyntax})
	}
	return l
}

// badTexts are those of a string of at most limit bytes.
func badTexts(part, limit int) []bad {
	return append(badNums(part), bad{part, num(-1), api.ErrSyntax}, bad{part, num(math.MinInt), api.ErrSyntax}, bad{part, text(strings.Repeat("x", limit+1)), api.ErrTooLong}, bad{part, num(math.MaxInt), api.ErrTooLong})
}

// badCounts are those of the number of elements of a list.
func badCounts(part int) []bad {
	return append(badNums(part), bad{part, num(-1), api.ErrSyntax}, bad{part, num(math.MinInt), api.ErrSyntax}, bad{part, num(api.MaxList + 1), api.ErrTooLong}, bad{part, num(math.MaxInt), api.ErrTooLong})
}

// badMessages are those of a message, whose own tests are those of layer 5.
func badMessages(part int) []bad {
	var l []bad
	m := note(2)
	m.Topic = strings.Repeat("t", api.MaxTopic+1)
	l = append(l, bad{part, message.Put(nil, m), api.ErrTooLong})
	m = note(2)
	m.Payload = strings.Repeat("p", api.MaxPayload+1)
	l = append(l, bad{part, message.Put(nil, m), api.ErrTooLong})
	m = note(2)
	m.From = strings.Repeat("f", api.MaxName+1)
	l = append(l, bad{part, message.Put(nil, m), api.ErrTooLong})
	m = note(2)
	m.Props[0].Key = strings.Repeat("k", api.MaxKey+1)
	l = append(l, bad{part, message.Put(nil, m), api.ErrTooLong})
	m = note(2)
	m.Props[1].Value = strings.Repeat("v", api.MaxValue+1)
	l = append(l, bad{part, message.Put(nil, m), api.ErrTooLong})
	m = note(2)
	m.Props = slices.Repeat(m.Props, 5)
	l = append(l, bad{part, message.Put(nil, m), api.ErrTooLong})
	return append(l, bad{part, []byte{1}, api.ErrSyntax}, bad{part, []byte{0, 128, 0}, api.ErrSyntax}, bad{part, []byte{0, 0, 0, 4}, api.ErrSyntax}, bad{part, []byte{0, 0, 0, 1}, api.ErrSyntax}, bad{part, []byte{0, 0, 0, 0, 0, 0, 0, 0, 1}, api.ErrSyntax})
}

// bads are the values of a full packet of a kind that cannot be read, after the kind itself.
func bads(kind int) []bad {
	switch kind {
	case api.Connect:
		return slices.Concat(badTexts(1, api.MaxName), badTexts(2, api.MaxName), badFlags(3, 2), badNums(4), badNums(5), badNums(6), badNums(7), badMessages(8))
	case api.Connack:
		return slices.Concat(badFlags(1, 1), badNums(2))
	case api.Publish:
		return slices.Concat(badNums(1), badFlags(2, 1), badMessages(3))
	case api.Puback, api.Pubrec, api.Pubrel, api.Pubcomp, api.Disconnect:
		return badNums(1)
	case api.Subscribe:
		return slices.Concat(badNums(1), badCounts(2), badTexts(3, maxFilter), badNums(4), badFlags(5, 1), badTexts(6, maxFilter), badNums(7), badFlags(8, 1))
	case api.Suback, api.Unsuback:
		return slices.Concat(badNums(1), badCounts(2), badNums(3), badNums(4), badNums(5))
	case api.Unsubscribe:
		return slices.Concat(badNums(1), badCounts(2), badTexts(3, maxFilter), badTexts(4, maxFilter))
	}
	return nil
}

// P7.2: a value that cannot be read counts, whatever follows it, before other values that cannot be read, bytes that remain, and values that are not valid.
func TestDecodeValues(t *testing.T) {
	for _, kind := range kinds() {
		for _, x := range bads(kind) {
			l := parts(full(kind))
			l[x.part] = x.b
			for end := x.part + 1; end <= len(l); end++ {
				fails(t, "a bad value", slices.Concat(l[:end]...), x.code)
			}
			fails(t, "a bad value and more bytes", append(slices.Concat(l...), 0), x.code)
			for _, y := range bads(kind) {
				if y.part > x.part {
					l[y.part] = y.b
					fails(t, "two bad values", slices.Concat(l...), x.code)
					l[y.part] = parts(full(kind))[y.part]
				}
			}
			if x.part > 1 {
				l[1] = num(0) // no identifier, no name
				if kind == api.Connack {
					l[2] = num(-1)
				}
				l[x.part] = x.b
				fails(t, "a bad value behind one that is not valid", slices.Concat(l...), x.code)
			}
		}
	}
}

// P7.2: strings and lists may be as long as the limits, and not longer; what is too long for its place is then an error of packet.Check.
func TestDecodeLimits(t *testing.T) {
	subscribe := func(filter string) []byte {
		return form(api.Packet{Kind: api.Subscribe, ID: 1, Subs: []api.Sub{{Filter: filter}}})
	}
	unsubscribe := func(filter string) []byte {
		return form(api.Packet{Kind: api.Unsubscribe, ID: 1, Filters: []string{filter}})
	}
	connect := func(client, user string) []byte {
		return form(api.Packet{Kind: api.Connect, Client: client, User: user, Window: 1})
	}
	for size, code := range map[int]api.Errno{0: api.ErrFilter, api.MaxTopic: api.OK, api.MaxTopic + 1: api.ErrFilter, api.MaxList + 1: api.OK, maxFilter: api.ErrFilter, maxFilter + 1: api.ErrTooLong, 1000: api.ErrTooLong} {
		filter := strings.Repeat("f", size)
		decodes(t, "a Subscribe packet with a long filter", subscribe(filter), api.Packet{Kind: api.Subscribe, ID: 1, Subs: []api.Sub{{Filter: filter}}}, code)
		decodes(t, "an Unsubscribe packet with a long filter", unsubscribe(filter), api.Packet{Kind: api.Unsubscribe, ID: 1, Filters: []string{filter}}, code)
	}
	decodes(t, "the longest filter", subscribe(longest()), api.Packet{Kind: api.Subscribe, ID: 1, Subs: []api.Sub{{Filter: longest()}}}, api.OK)
	for size, code := range map[int]api.Errno{0: api.ErrName, 1: api.OK, api.MaxName: api.OK, api.MaxName + 1: api.ErrTooLong} {
		name := strings.Repeat("n", size)
		decodes(t, "a Connect packet with a long Client", connect(name, ""), api.Packet{Kind: api.Connect, Client: name, Window: 1}, code)
		if size > 0 {
			decodes(t, "a Connect packet with a long User", connect("c", name), api.Packet{Kind: api.Connect, Client: "c", User: name, Window: 1}, code)
		}
	}
	for size, code := range map[int]api.Errno{0: api.ErrRange, 1: api.OK, api.MaxList: api.OK, api.MaxList + 1: api.ErrTooLong} {
		for _, p := range []api.Packet{
			{Kind: api.Subscribe, ID: 1, Subs: slices.Repeat([]api.Sub{{Filter: "a"}}, size)}, {Kind: api.Unsubscribe, ID: 1, Filters: slices.Repeat([]string{"a"}, size)},
			{Kind: api.Suback, ID: 1, Codes: make([]int, size)}, {Kind: api.Unsuback, ID: 1, Codes: make([]int, size)},
		} {
			decodes(t, "a list", form(p), p, code)
		}
	}
	decodes(t, "the largest packet", form(largestPacket()), largestPacket(), api.OK)
}

// P7.2: bytes that remain, before the errors of packet.Check
func TestDecodeRemains(t *testing.T) {
	for _, p := range append(valid(), unsound()...) {
		for _, more := range [][]byte{{0}, {24}, {128}, {128, 0}, make([]byte, 9), form(p)} {
			if len(form(p))+len(more) <= api.MaxPacket {
				fails(t, "a packet and more bytes", append(form(p), more...), api.ErrSyntax)
			}
		}
	}
}

// unsound returns packets that can be read and are not valid.
func unsound() []api.Packet {
	l := []api.Packet{
		{Kind: api.Connack, Code: 30}, {Kind: api.Connack, Code: math.MinInt}, {Kind: api.Connack, Present: true, Code: 1}, {Kind: api.Disconnect, Code: -1}, {Kind: api.Disconnect, Code: 30},
		{Kind: api.Publish}, {Kind: api.Publish, ID: 1, Message: api.Message{Topic: "t"}}, {Kind: api.Publish, Dup: true, Message: api.Message{Topic: "t"}}, {Kind: api.Publish, ID: -1, Message: note(2)}, {Kind: api.Publish, ID: -1},
		{Kind: api.Subscribe}, {Kind: api.Subscribe, ID: 1}, {Kind: api.Subscribe, ID: 1, Subs: []api.Sub{{Filter: "a"}, {Filter: "a#", Level: 3}}}, {Kind: api.Subscribe, ID: 1, Subs: []api.Sub{{Filter: "a", Level: 3}}}, {Kind: api.Subscribe, ID: 1, Subs: []api.Sub{{Filter: "$share/g/a", NoLocal: true}}},
		{Kind: api.Unsubscribe, Filters: []string{"a#"}}, {Kind: api.Unsubscribe, ID: 1, Filters: []string{"a", "$share/g"}}, {Kind: api.Suback, ID: 1, Codes: []int{1, 30}}, {Kind: api.Unsuback, ID: math.MaxInt, Codes: []int{-1}},
	}
	for _, kind := range []int{api.Puback, api.Pubrec, api.Pubrel, api.Pubcomp} {
		for _, id := range []int{0, -1, api.MaxIdent + 1, math.MinInt} {
			l = append(l, api.Packet{Kind: kind, ID: id})
		}
	}
	for _, change := range connectDefects() {
		p := full(api.Connect)
		change(&p)
		l = append(l, p)
	}
	for _, change := range messageDefects() {
		p := full(api.Publish)
		change(&p.Message)
		l = append(l, p)
		p.ID = 0
		l = append(l, p)
	}
	return l
}

// connectDefects make a Connect packet invalid, in the order in which packet.Check looks for them.
func connectDefects() []func(p *api.Packet) {
	l := []func(p *api.Packet){
		func(p *api.Packet) { p.Client = "" }, func(p *api.Packet) { p.User = "U" }, func(p *api.Packet) { p.Keep = -1 }, func(p *api.Packet) { p.Expiry = api.MaxTick + 1 },
		func(p *api.Packet) { p.Window = 0 }, func(p *api.Packet) { p.Will.Delay = -1 },
	}
	for _, change := range messageDefects() {
		l = append(l, func(p *api.Packet) { change(&p.Will.Message) })
	}
	return l
}

// messageDefects make a message invalid that can be read, in the order in which message.Check looks for them.
func messageDefects() []func(m *api.Message) {
	return []func(m *api.Message){
		func(m *api.Message) { m.Topic = "a/#" }, func(m *api.Message) { m.Topic = "" }, func(m *api.Message) { m.Level = 3 }, func(m *api.Message) { m.Level = math.MinInt }, func(m *api.Message) { m.Priority = -1 },
		func(m *api.Message) { m.Expires = api.MaxTick + 1 }, func(m *api.Message) { m.From = "9" }, func(m *api.Message) { m.Seq = -1 },
		func(m *api.Message) { m.Props = []api.Prop{{Key: "b"}, {Key: "a"}} }, func(m *api.Message) { m.Props = []api.Prop{{}} },
	}
}

// P7.2: the errors of packet.Check come last; those of a message do not come earlier.
func TestDecodeChecks(t *testing.T) {
	for _, p := range unsound() {
		want := packet.Check(p)
		if want == api.OK {
			t.Fatalf("%+v is valid", p)
		}
		b := form(p)
		fails(t, "a packet that is not valid", b, want)
		fails(t, "a packet that is not valid, torn", b[:len(b)-1], api.ErrTruncated)
	}
	for _, first := range connectDefects() {
		for _, second := range connectDefects() {
			p := full(api.Connect)
			first(&p)
			second(&p)
			fails(t, "a Connect packet with two defects", form(p), packet.Check(p))
			fails(t, "a Connect packet with two defects and more bytes", append(form(p), 0), api.ErrSyntax)
		}
	}
}

// messageErrors returns the error of a Publish packet of which only the message, valid or not, is in question: that of message.Take,
// where one of message.Check comes after the bytes that remain. The end of an invalid message is where it is no longer torn.
func messageErrors(b []byte) api.Errno {
	_, end, code := message.Take(b, 0)
	switch code {
	case api.ErrTruncated, api.ErrSyntax, api.ErrTooLong:
		return code
	case api.OK:
	default:
		for torn := true; torn; end++ {
			_, _, e := message.Take(b[:end+1], 0)
			torn = e == api.ErrTruncated
		}
	}
	if end < len(b) {
		return api.ErrSyntax
	}
	return code
}

// P7.2: messages have the errors of message.Take, at the places of the chapter: messages in which any byte is another one
func TestDecodeMessages(t *testing.T) {
	counts := map[api.Errno]int{}
	head := []byte{6, 14, 0}
	try := func(b []byte) {
		want := messageErrors(b)
		_, code := wire.Decode(append(slices.Clone(head), b...))
		if want == api.OK && code == api.ErrIdent {
			return // the level is 0 now
		}
		if code != want {
			t.Fatalf("Decode of a Publish packet with the message %v: %d, want %d", b, code, want)
		}
		counts[code]++
	}
	whole := message.Put(nil, note(2))
	for i := range whole {
		for c := range 256 {
			b := slices.Clone(whole)
			b[i] = byte(c)
			try(b)
			try(b[:len(b)-1])
			try(append(b, 0))
		}
	}
	for _, code := range []api.Errno{api.OK, api.ErrTruncated, api.ErrSyntax, api.ErrTooLong, api.ErrTopic, api.ErrLevel, api.ErrRange, api.ErrName, api.ErrProps} {
		if counts[code] == 0 {
			t.Errorf("no message has the error %d", code)
		}
	}
}

// P7.3
func TestDecodeAll(t *testing.T) {
	for _, b := range [][]byte{nil, {}} {
		if l, code := wire.DecodeAll(b); len(l) != 0 || code != api.OK {
			t.Errorf("DecodeAll of nothing: %v, %d", l, code)
		}
	}
	large := form(largestPacket())
	ping := []byte{2, 24}
	for _, x := range []struct {
		name string
		b    []byte
		code api.Errno
	}{
		{"two pings", []byte{2, 24, 2, 24}, api.OK}, {"half a length", []byte{128}, api.ErrTruncated}, {"a long length", []byte{130, 0, 24}, api.ErrSyntax}, {"a length of more than 64 bits", bytes.Repeat([]byte{255}, 10), api.ErrSyntax},
		{"a negative length", []byte{1, 24}, api.ErrSyntax}, {"the least length", num(math.MinInt), api.ErrSyntax}, {"the greatest length", num(math.MaxInt), api.ErrTooLong},
		{"too great a length and nothing", num(api.MaxPacket + 1), api.ErrTooLong}, {"too great a length", append(num(api.MaxPacket+1), make([]byte, api.MaxPacket+1)...), api.ErrTooLong}, {"the length MaxPacket and nothing", num(api.MaxPacket), api.ErrTruncated}, {"the length MaxPacket", append(num(api.MaxPacket), make([]byte, api.MaxPacket)...), api.ErrKind},
		{"a length and nothing", []byte{2}, api.ErrTruncated}, {"a length and too little", []byte{4, 24}, api.ErrTruncated}, {"too little, of no kind", []byte{4, 30}, api.ErrTruncated}, {"the length 0", []byte{0}, api.ErrTruncated}, {"the length 0 and a packet", []byte{0, 2, 24}, api.ErrTruncated},
		{"a packet that goes on", []byte{4, 24, 0}, api.ErrSyntax}, {"a packet of no kind", []byte{2, 30}, api.ErrKind}, {"a packet that is not valid", []byte{4, 8, 0}, api.ErrIdent}, {"a torn packet and a packet", []byte{2, 8, 2, 24}, api.ErrTruncated},
		{"a large packet", append(num(len(large)), large...), api.OK}, {"a large packet, torn", append(num(len(large)), large[:len(large)-1]...), api.ErrTruncated}, {"a large packet with a smaller length", append(num(len(large)-1), large...), api.ErrTruncated},
	} {
		for before := range 3 {
			for _, after := range [][]byte{nil, {2, 30}, {128, 0}} {
				b := slices.Concat(bytes.Repeat(ping, before), x.b)
				if x.code != api.OK && x.code != api.ErrTruncated {
					b = append(b, after...)
				}
				l, code := wire.DecodeAll(b)
				if code != x.code || code != api.OK && len(l) != 0 || code == api.OK && len(l) < before+1 {
					t.Errorf("DecodeAll of %s behind %d packets: %v, %d", x.name, before, l, code)
				}
			}
		}
	}
}

// P7.3 and C7.1: the joint form
func TestJointBack(t *testing.T) {
	for _, l := range [][]api.Packet{{{Kind: api.Ping}}, valid(), slices.Repeat(valid(), 20), {full(api.Subscribe), full(api.Subscribe)}} {
		b, _ := wire.EncodeAll(l)
		kept := slices.Clone(b)
		got, code := wire.DecodeAll(b)
		if code != api.OK || !slices.EqualFunc(got, l, packet.Same) {
			t.Errorf("DecodeAll of %d packets: %d, %d", len(l), len(got), code)
		}
		if !bytes.Equal(b, kept) {
			t.Error("DecodeAll modifies its argument")
		}
		clear(b)
		if !slices.EqualFunc(got, l, packet.Same) {
			t.Error("the packets share memory with the bytes")
		}
	}
	b := joint(valid())
	ends := map[int]int{}
	for i := range len(valid()) {
		ends[len(joint(valid()[:i]))] = i
	}
	for end := range b {
		got, code := wire.DecodeAll(b[:end])
		whole, atEnd := ends[end]
		if atEnd && (code != api.OK || !slices.EqualFunc(got, valid()[:whole], packet.Same)) || !atEnd && (code != api.ErrTruncated || len(got) != 0) {
			t.Fatalf("DecodeAll of the first %d bytes: %d packets, %d", end, len(got), code)
		}
	}
}

// C7.1: packets are recovered, and nothing is shared or kept.
func TestWireBack(t *testing.T) {
	for _, p := range valid() {
		b, _ := wire.Encode(p)
		decodes(t, "a form", b, p, api.OK)
		got, _ := wire.Decode(b)
		clear(b)
		if !packet.Same(got, p) {
			t.Errorf("the packet of kind %d shares memory with the bytes", p.Kind)
		}
	}
	b := form(full(api.Subscribe))
	first, _ := wire.Decode(b)
	second, _ := wire.Decode(b)
	clear(first.Subs[:cap(first.Subs)])
	if !packet.Same(second, full(api.Subscribe)) {
		t.Error("two packets share memory")
	}
}

// C7.1: forms in which any byte, or any pair of neighbours, is another one
func TestWireOnly(t *testing.T) {
	accepted := 0
	try := func(b []byte) {
		p, code := wire.Decode(b)
		if code != api.OK {
			if !reflect.DeepEqual(p, api.Packet{}) {
				t.Fatalf("Decode of %v: %+v, %d", b, p, code)
			}
			return
		}
		accepted++
		if got, e := wire.Encode(p); !bytes.Equal(got, b) || e != api.OK {
			t.Fatalf("Decode accepts %v as %+v", b, p)
		}
		if l, e := wire.DecodeAll(append(num(len(b)), b...)); e != api.OK || len(l) != 1 || !packet.Same(l[0], p) {
			t.Fatalf("DecodeAll does not accept %v", b)
		}
	}
	for _, p := range valid() {
		b := form(p)
		for i := range min(len(b), 60) {
			for c := range 256 {
				x := slices.Clone(b)
				x[i] = byte(c)
				try(x)
			}
		}
		for i := range min(len(b), 40) - 1 {
			for _, c := range []byte{0, 1, 2, 3, 4, 127, 128, 129, 255} {
				for _, d := range []byte{0, 1, 2, 3, 4, 127, 128, 129, 255} {
					x := slices.Clone(b)
					x[i], x[i+1] = c, d
					try(x)
				}
			}
		}
	}
	if accepted < 1000 {
		t.Errorf("only %d of the changed forms are accepted", accepted)
	}
}

// C7.2
func TestWireTorn(t *testing.T) {
	for _, p := range append(valid(), unsound()...) {
		b := form(p)
		for end := range b {
			fails(t, "a torn form", b[:end], api.ErrTruncated)
		}
	}
}
