package record_test

import (
	"bytes"
	"encoding/binary"
	"fmt"
	"hash/fnv"
	"math"
	"math/rand"
	"slices"
	"strings"
	"testing"

	"broker/api"
	"broker/record"
)

// text returns n bytes, among them zeros and bytes that are not of a rune.
func text(n int) string {
	b := make([]byte, n)
	for i := range b {
		b[i] = byte(i*7 + i/256)
	}
	return string(b)
}

// put returns a RecPut.
func put(offset int, key, value string) api.Record {
	return api.Record{Offset: offset, Kind: api.RecPut, Key: key, Value: value}
}

// num returns the encoding of a number as another implementation writes it.
func num(n int) []byte { return binary.AppendVarint(nil, int64(n)) }

// str returns the encoding of a string.
func str(s string) []byte { return append(num(len(s)), s...) }

// wrap returns the frame with this payload.
func wrap(payload []byte) []byte {
	h := fnv.New32a()
	h.Write(payload)
	return append(binary.BigEndian.AppendUint32(num(len(payload)), h.Sum32()), payload...)
}

// payload follows the chapter's definition, whether the record is valid or not.
func payload(r api.Record) []byte {
	return slices.Concat(num(r.Offset), num(r.Kind), str(r.Key), str(r.Value))
}

// framed is the framed form by definition.
func framed(r api.Record) []byte { return wrap(payload(r)) }

// valid returns records of all kinds with the edges of all fields.
func valid() []api.Record {
	keys := []string{"a", "\x00", "\xff\xfe", "a b/ü", text(31), text(32), text(63), text(api.MaxTopic)}
	values := []string{"", "v", "\x00", "\xff", text(31), text(32), text(63), text(64), text(65), text(4095), text(api.MaxPacket)}
	var l []api.Record
	for i, offset := range []int{0, 1, 63, 64, 8191, 8192, 1 << 31, 1 << 32, api.MaxNumber - 1, api.MaxNumber} {
		for j, key := range keys {
			l = append(l, put(offset, key, values[(i+j)%len(values)]), api.Record{Offset: offset, Kind: api.RecDelete, Key: key}, api.Record{Offset: offset, Kind: api.RecMark, Key: key})
		}
	}
	for _, value := range values {
		l = append(l, put(5, "k", value))
	}
	return l
}

// invalid is a record with its first error.
type invalid struct {
	r    api.Record
	code api.Errno
}

// offsets are not offsets of records.
func offsets() []int { return []int{-1, api.MaxNumber + 1, math.MinInt, math.MaxInt, -api.MaxNumber} }

// kinds are not kinds of records.
func kinds() []int { return []int{0, 4, -1, -2, 257, 1 << 32, math.MinInt, math.MaxInt} }

// broken returns records that are not valid; where several errors apply, the first one counts.
func broken() []invalid {
	long, large := text(api.MaxTopic+1), text(api.MaxPacket+1)
	var l []invalid
	for _, offset := range offsets() {
		l = append(l, invalid{put(offset, "k", "v"), api.ErrRange}, invalid{api.Record{Offset: offset, Kind: 4, Key: long, Value: large}, api.ErrRange})
	}
	for _, kind := range kinds() {
		l = append(l, invalid{api.Record{Kind: kind, Key: "k", Value: "v"}, api.ErrKind}, invalid{api.Record{Kind: kind}, api.ErrKind}, invalid{api.Record{Kind: kind, Key: long, Value: large}, api.ErrKind})
	}
	for _, kind := range []int{api.RecPut, api.RecDelete, api.RecMark} {
		l = append(l, invalid{api.Record{Kind: kind}, api.ErrRange}, invalid{api.Record{Kind: kind, Value: "v"}, api.ErrRange}, invalid{api.Record{Kind: kind, Value: large}, api.ErrRange})
		l = append(l, invalid{api.Record{Kind: kind, Key: long}, api.ErrTooLong}, invalid{api.Record{Kind: kind, Key: "k", Value: large}, api.ErrTooLong}, invalid{api.Record{Kind: kind, Key: long, Value: "v"}, api.ErrTooLong})
	}
	for _, kind := range []int{api.RecDelete, api.RecMark} {
		l = append(l, invalid{api.Record{Kind: kind, Key: "k", Value: "v"}, api.ErrField}, invalid{api.Record{Kind: kind, Key: "k", Value: "\x00"}, api.ErrField}, invalid{api.Record{Offset: api.MaxNumber, Kind: kind, Key: text(api.MaxTopic), Value: text(api.MaxPacket)}, api.ErrField})
	}
	return l
}

// short prints a record without the rest of long strings.
func short(r api.Record) string {
	return fmt.Sprintf("{%d %d %.9q(%d) %.9q(%d)}", r.Offset, r.Kind, r.Key, len(r.Key), r.Value, len(r.Value))
}

// P31.1
func TestCheck(t *testing.T) {
	for _, r := range valid() {
		if code := record.Check(r); code != api.OK {
			t.Errorf("Check(%s) = %d", short(r), code)
		}
	}
	for _, x := range broken() {
		if code := record.Check(x.r); code != x.code {
			t.Errorf("Check(%s) = %d, want %d", short(x.r), code, x.code)
		}
	}
}

// P31.1, the second example
func TestCheckExample(t *testing.T) {
	if code := record.Check(api.Record{Kind: api.RecDelete, Key: "a", Value: "v"}); code != api.ErrField {
		t.Errorf("Check of a deletion with a value = %d", code)
	}
	if code := record.Check(api.Record{Kind: 4}); code != api.ErrKind {
		t.Errorf("Check of the kind 4 without a key = %d", code)
	}
}

// P31.2, the first example
func TestEncodeExample(t *testing.T) {
	got, code := record.Encode(put(0, "a", "v"))
	if code != api.OK || len(got) != 11 || got[0] != 12 || !bytes.Equal(got[5:], []byte{0, 2, 2, 97, 2, 118}) {
		t.Errorf("Encode = %v, %d", got, code)
	}
	if n := record.Size(put(0, "a", "v")); n != 11 {
		t.Errorf("Size = %d", n)
	}
}

// P31.2
func TestEncode(t *testing.T) {
	for _, r := range valid() {
		got, code := record.Encode(r)
		if code != api.OK || !bytes.Equal(got, framed(r)) {
			t.Errorf("Encode(%s) = %.20v, %d", short(r), got, code)
		}
		if n := record.Size(r); n != len(framed(r)) {
			t.Errorf("Size(%s) = %d", short(r), n)
		}
	}
	for _, x := range broken() {
		if got, code := record.Encode(x.r); len(got) != 0 || code != x.code {
			t.Errorf("Encode(%s) = %.20v, %d, want %d", short(x.r), got, code, x.code)
		}
		if n := record.Size(x.r); n != 0 {
			t.Errorf("Size(%s) = %d", short(x.r), n)
		}
	}
}

// R5: two framed forms share no memory.
func TestEncodedIsNew(t *testing.T) {
	r := put(3, "k", "v")
	one, _ := record.Encode(r)
	two, _ := record.Encode(r)
	clear(one[:cap(one)])
	clear(append(one, 1, 2, 3))
	if !bytes.Equal(two, framed(r)) {
		t.Error("framed forms share memory")
	}
}

// damage is bytes, the index at which Decode begins, and the error.
type damage struct {
	name string
	b    []byte
	at   int
	code api.Errno
}

// checkDamage checks that Decode returns the error of each one, and nothing else.
func checkDamage(t *testing.T, l []damage) {
	t.Helper()
	for _, x := range l {
		if r, end, code := record.Decode(x.b, x.at); r != (api.Record{}) || end != 0 || code != x.code {
			t.Errorf("%s: Decode = %s, %d, %d, want %d", x.name, short(r), end, code, x.code)
		}
	}
}

// P31.3: the errors of the frame, whatever the payload would be.
func TestDecodeFrame(t *testing.T) {
	whole := framed(put(0, "a", "v"))
	other := slices.Clone(whole)
	other[len(other)-1] ^= 1
	bad := wrap([]byte{128, 0})
	bad[len(bad)-1] = 1
	checkDamage(t, []damage{
		{"before the bytes", whole, -1, api.ErrRange}, {"behind the bytes", whole, 12, api.ErrRange}, {"far before", whole, math.MinInt, api.ErrRange}, {"far behind", whole, math.MaxInt, api.ErrRange}, {"behind no bytes", nil, 1, api.ErrRange},
		{"at the end", whole, 11, api.ErrTruncated}, {"no bytes", nil, 0, api.ErrTruncated}, {"only the length", whole[:1], 0, api.ErrTruncated}, {"half a length", []byte{128}, 0, api.ErrTruncated}, {"without the last byte", whole[:10], 0, api.ErrTruncated},
		{"a longer length", []byte{140, 0, 1, 1, 1, 1}, 0, api.ErrSyntax}, {"a negative length", []byte{1, 0, 0, 0, 0}, 0, api.ErrSyntax},
		{"too long", num(api.MaxBytes + 1), 0, api.ErrTooLong}, {"much too long", num(math.MaxInt), 0, api.ErrTooLong}, {"long and torn", num(api.MaxBytes), 0, api.ErrTruncated},
		{"damaged", other, 0, api.ErrChecksum}, {"damaged, and not a record", bad, 0, api.ErrChecksum},
	})
}

// P31.3: the errors of the payload, each before those of what follows it.
func TestDecodePayload(t *testing.T) {
	long, large := text(api.MaxTopic+1), text(api.MaxPacket+1)
	cat := slices.Concat[[]byte]
	wrong := bytes.Repeat([]byte{128}, 10)
	l := []damage{
		{"empty", nil, 0, api.ErrTruncated},
		{"half an offset", []byte{128}, 0, api.ErrTruncated}, {"a longer offset", cat([]byte{128, 0}, num(1), str("k"), str("v")), 0, api.ErrSyntax}, {"an endless offset", wrong, 0, api.ErrSyntax},
		{"no kind", num(7), 0, api.ErrTruncated}, {"a bad offset without a kind", num(-7), 0, api.ErrTruncated},
		{"half a kind", cat(num(7), []byte{130}), 0, api.ErrTruncated}, {"a longer kind", cat(num(7), []byte{130, 0}, str("k"), str("v")), 0, api.ErrSyntax}, {"an endless kind", cat(num(7), wrong), 0, api.ErrSyntax},
		{"no key", cat(num(7), num(1)), 0, api.ErrTruncated}, {"a bad kind without a key", cat(num(7), num(9)), 0, api.ErrTruncated},
		{"a longer length of a key", cat(num(7), num(1), []byte{130, 0}, []byte("k"), str("v")), 0, api.ErrSyntax}, {"a negative length of a key", cat(num(7), num(1), num(-1), str("v")), 0, api.ErrSyntax},
		{"a long key", cat(num(7), num(1), str(long), str("v")), 0, api.ErrTooLong}, {"a long key that is torn", cat(num(7), num(1), num(api.MaxTopic+1)), 0, api.ErrTooLong}, {"a long key before a bad value", cat(num(7), num(1), str(long), []byte{130, 0}), 0, api.ErrTooLong}, {"a long key behind a bad offset and kind", cat(num(-1), num(4), str(long), str("v")), 0, api.ErrTooLong},
		{"a torn key", cat(num(7), num(1), num(2), []byte("k")), 0, api.ErrTruncated}, {"a key of 64 bytes that is torn", cat(num(7), num(1), num(api.MaxTopic)), 0, api.ErrTruncated},
		{"no value", cat(num(7), num(1), str("k")), 0, api.ErrTruncated}, {"no key and no value", cat(num(7), num(1), str("")), 0, api.ErrTruncated},
		{"a longer length of a value", cat(num(7), num(1), str("k"), []byte{130, 0}, []byte("v")), 0, api.ErrSyntax}, {"a negative length of a value", cat(num(7), num(1), str("k"), num(-1)), 0, api.ErrSyntax},
		{"a long value", cat(num(7), num(1), str("k"), str(large)), 0, api.ErrTooLong}, {"a long value of a deletion", cat(num(7), num(2), str("k"), str(large)), 0, api.ErrTooLong}, {"a long value behind an empty key", cat(num(7), num(1), str(""), str(large)), 0, api.ErrTooLong}, {"a long value before other bytes", cat(num(7), num(1), str("k"), str(large), num(0)), 0, api.ErrTooLong},
		{"a torn value", cat(num(7), num(1), str("k"), num(2), []byte("v")), 0, api.ErrTruncated}, {"a value of 4096 bytes that is torn", cat(num(7), num(1), str("k"), num(api.MaxPacket)), 0, api.ErrTruncated},
		{"another byte", append(payload(put(7, "k", "v")), 0), 0, api.ErrSyntax}, {"other bytes", append(payload(put(7, "k", "")), payload(put(8, "k", ""))...), 0, api.ErrSyntax},
	}
	for i, x := range l {
		// What follows the frame would complete what is torn in it.
		l[i].b = cat(wrap(x.b), []byte{2, 2, 'k', 2, 'v'})
	}
	checkDamage(t, l)
}

// P31.3: the errors of Check, after all others.
func TestDecodeCheck(t *testing.T) {
	var l []damage
	for _, x := range broken() {
		code := x.code
		if len(x.r.Key) > api.MaxTopic || len(x.r.Value) > api.MaxPacket {
			code = api.ErrTooLong
		}
		l = append(l, damage{short(x.r), framed(x.r), 0, code})
		if code == x.code && code != api.ErrTooLong {
			l = append(l, damage{short(x.r) + " and another byte", wrap(append(payload(x.r), 7)), 0, api.ErrSyntax})
		}
	}
	checkDamage(t, l)
}

// P31.3, C31.1: whatever precedes and follows a framed form.
func TestRecordBack(t *testing.T) {
	for _, before := range [][]byte{nil, {1}, framed(put(4, "x", "y")), []byte(text(300))} {
		for _, after := range [][]byte{nil, {1}, {128}, framed(put(6, "x", "y")), []byte(text(300))} {
			for _, r := range valid() {
				form, _ := record.Encode(r)
				b := slices.Concat(before, form, after)
				kept := slices.Clone(b)
				got, end, code := record.Decode(b, len(before))
				if got != r || end != len(before)+len(form) || code != api.OK {
					t.Fatalf("Decode of %s behind %d bytes = %s, %d, %d", short(r), len(before), short(got), end, code)
				}
				if !bytes.Equal(b, kept) {
					t.Fatal("Decode modifies its argument")
				}
			}
		}
	}
}

// R5: a record stays when the buffer changes.
func TestDecodedIsNew(t *testing.T) {
	b := framed(put(3, "key", "value"))
	r, _, _ := record.Decode(b, 0)
	clear(b)
	if r != put(3, "key", "value") {
		t.Errorf("the record shares the buffer: %s", short(r))
	}
}

// pieces returns the parts of which payloads are made in TestRecordOnly.
func pieces() [][]byte {
	return [][]byte{num(0), num(1), num(2), num(3), num(4), num(-1), {128, 0}, {130, 0}, str("k"), str(""), {132, 0, 'k', 'v'}, str("kv"), {2}, num(api.MaxNumber), num(api.MaxNumber + 1)}
}

// C31.2: of all payloads of four pieces and fewer, and of random ones, only framed forms are accepted.
func TestRecordOnly(t *testing.T) {
	accepted := map[bool]int{}
	try := func(payload []byte) {
		b := wrap(payload)
		r, end, code := record.Decode(b, 0)
		accepted[code == api.OK]++
		if code == api.OK && (record.Check(r) != api.OK || end != len(b) || !bytes.Equal(framed(r), b)) {
			t.Errorf("Decode of the payload %v = %s, %d", payload, short(r), end)
		}
	}
	lists := [][]byte{nil}
	for range 4 {
		var longer [][]byte
		for _, head := range lists {
			for _, piece := range pieces() {
				longer = append(longer, slices.Concat(head, piece))
			}
		}
		lists = longer
		for _, p := range lists {
			try(p)
		}
	}
	random := rand.New(rand.NewSource(31))
	for range 20000 {
		p := make([]byte, random.Intn(9))
		for i := range p {
			p[i] = byte(random.Intn(8))
		}
		try(p)
	}
	if accepted[true] < 50 || accepted[false] < 50 {
		t.Errorf("accepted and not: %v", accepted)
	}
}

// C31.3
func TestRecordTorn(t *testing.T) {
	for _, r := range []api.Record{put(0, "a", "v"), put(api.MaxNumber, text(api.MaxTopic), text(90)), {Offset: 70, Kind: api.RecDelete, Key: "k"}, {Offset: 3, Kind: api.RecMark, Key: strings.Repeat("m", 40)}} {
		b := framed(r)
		for end := range b {
			checkDamage(t, []damage{{fmt.Sprintf("%s up to %d", short(r), end), b[:end], 0, api.ErrTruncated}})
		}
		head := len(num(len(payload(r))))
		for i := head; i < len(b); i++ {
			for change := 1; change < 256; change++ {
				b[i] ^= byte(change)
				checkDamage(t, []damage{{fmt.Sprintf("%s with another byte %d", short(r), i), b, 0, api.ErrChecksum}})
				b[i] ^= byte(change)
			}
		}
	}
}
