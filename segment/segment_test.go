package segment_test

import (
	"bytes"
	"encoding/binary"
	"fmt"
	"hash/fnv"
	"math"
	"math/rand"
	"slices"
	"strings"
	"testing"

	"broker/api"
	"broker/record"
	"broker/segment"
)

// put returns a RecPut.
func put(offset int, key, value string) api.Record {
	return api.Record{Offset: offset, Kind: api.RecPut, Key: key, Value: value}
}

// frames returns the framed forms of records, one after the other; they must be valid.
func frames(l ...api.Record) []byte {
	var b []byte
	for _, r := range l {
		form, code := record.Encode(r)
		if code != api.OK {
			panic(fmt.Sprintf("record %v: %d", r, code))
		}
		b = append(b, form...)
	}
	return b
}

// wrap returns the frame with this payload, which need not be that of a valid record.
func wrap(payload []byte) []byte {
	h := fnv.New32a()
	h.Write(payload)
	return append(binary.BigEndian.AppendUint32(binary.AppendVarint(nil, int64(len(payload))), h.Sum32()), payload...)
}

// behind returns the frame of a RecPut of k with an offset behind the last one.
func behind() []byte {
	return wrap(append(binary.AppendVarint(nil, api.MaxNumber+1), 2, 2, 'k', 0))
}

// run returns n records of all kinds and several sizes, with consecutive offsets from base on.
func run(base, n int) []api.Record {
	var l []api.Record
	for i := range n {
		r := api.Record{Offset: base + i, Kind: []int{api.RecPut, api.RecDelete, api.RecPut, api.RecMark}[i%4], Key: strings.Repeat("k", 1+i*5%60)}
		if r.Kind == api.RecPut {
			r.Value = strings.Repeat("\x00v\xff", i*17%90)
		}
		l = append(l, r)
	}
	return l
}

// of returns the segment with these records, by definition; its bytes have room behind their end.
func of(base int, l ...api.Record) api.Segment {
	return api.Segment{Base: base, Next: base + len(l), Bytes: append(make([]byte, 0, 1<<17), frames(l...)...)}
}

// filled returns records with consecutive offsets from base on whose framed forms have this number of bytes in all, more than MaxPacket.
func filled(base, size int) []api.Record {
	var l []api.Record
	r := put(base, "k", strings.Repeat("v", 4000))
	for size > api.MaxPacket {
		l = append(l, r)
		size -= record.Size(r)
		r.Offset++
	}
	// At least 79 bytes remain: with so many, each byte of the value is one of the framed form.
	r.Value = strings.Repeat("v", api.MaxPacket)
	r.Value = r.Value[record.Size(r)-size:]
	return append(l, r)
}

// same reports whether two segments are equal; nil and no bytes are.
func same(a, b api.Segment) bool {
	return a.Base == b.Base && a.Next == b.Next && bytes.Equal(a.Bytes, b.Bytes)
}

// short prints a segment without the rest of its bytes.
func short(s api.Segment) string {
	return fmt.Sprintf("{%d %d %.12v(%d)}", s.Base, s.Next, s.Bytes[:min(len(s.Bytes), 12)], len(s.Bytes))
}

// bases are bases of valid segments; behind each one there is room for records.
func bases() []int { return []int{0, 1, 5, 63, 64, 1 << 32, api.MaxNumber - 100} }

// outside are not bases of valid segments.
func outside() []int { return []int{-1, api.MaxNumber + 1, math.MinInt, math.MaxInt, math.MinInt + 1} }

// P32.1
func TestNew(t *testing.T) {
	for _, base := range slices.Concat(bases(), outside(), []int{api.MaxNumber}) {
		if got := segment.New(base); !same(got, api.Segment{Base: base, Next: base}) {
			t.Errorf("New(%d) = %s", base, short(got))
		}
	}
}

// P32.2: valid segments.
func TestCheckValid(t *testing.T) {
	l := []api.Segment{{}, segment.New(api.MaxNumber), of(api.MaxNumber, put(api.MaxNumber, "k", "v")), of(api.MaxNumber-1, put(api.MaxNumber-1, "k", "v"), put(api.MaxNumber, "k", ""))}
	for _, base := range bases() {
		l = append(l, segment.New(base), of(base, run(base, 1)...), of(base, run(base, 60)...), of(base, filled(base, api.MaxBytes)...), of(base, filled(base, api.MaxBytes-1)...))
	}
	for _, s := range l {
		if code := segment.Check(s); code != api.OK {
			t.Errorf("Check(%s) = %d", short(s), code)
		}
	}
}

// P32.2: the errors, each before those that follow it.
func TestCheckErrors(t *testing.T) {
	two := run(5, 2)
	damaged := frames(two...)
	damaged[len(damaged)-1] ^= 1
	large := make([]byte, api.MaxBytes+1)
	over := frames(filled(5, api.MaxBytes+1)...)
	type row struct {
		name string
		s    api.Segment
		code api.Errno
	}
	l := []row{
		{"too long", api.Segment{Base: 5, Next: 5, Bytes: large}, api.ErrTooLong}, {"records that are too long", api.Segment{Base: 5, Next: 5 + len(filled(5, api.MaxBytes+1)), Bytes: over}, api.ErrTooLong},
		{"a torn record", api.Segment{Base: 5, Next: 6, Bytes: frames(two...)[:len(frames(two...))-1]}, api.ErrTruncated}, {"a torn length", api.Segment{Base: 5, Next: 7, Bytes: append(frames(two...), 128)}, api.ErrTruncated}, {"a torn record, and a wrong Next", api.Segment{Base: 5, Next: 9, Bytes: append(frames(two...), 2)}, api.ErrTruncated},
		{"a damaged record", api.Segment{Base: 5, Next: 7, Bytes: damaged}, api.ErrChecksum}, {"no frame", api.Segment{Base: 5, Next: 7, Bytes: append(frames(two...), 1)}, api.ErrSyntax}, {"a long frame", api.Segment{Base: 5, Next: 7, Bytes: append(frames(two...), binary.AppendVarint(nil, api.MaxBytes+1)...)}, api.ErrTooLong},
		{"a frame that is no record", api.Segment{Base: 5, Next: 7, Bytes: append(frames(two...), wrap(nil)...)}, api.ErrTruncated}, {"a record of another kind", api.Segment{Base: 5, Next: 6, Bytes: wrap([]byte{10, 8, 2, 'k', 0})}, api.ErrKind}, {"a record without a key", api.Segment{Base: 5, Next: 6, Bytes: wrap([]byte{10, 2, 0, 0})}, api.ErrRange}, {"a mark with a value", api.Segment{Base: 5, Next: 6, Bytes: wrap([]byte{10, 6, 2, 'k', 2, 'v'})}, api.ErrField},
		{"an offset behind the last one", api.Segment{Base: api.MaxNumber, Next: api.MaxNumber + 2, Bytes: append(frames(put(api.MaxNumber, "k", "")), behind()...)}, api.ErrRange},
		{"another first offset", of(5, put(6, "k", "v")), api.ErrOrder}, {"a smaller first offset", of(5, put(4, "k", "v")), api.ErrOrder}, {"a gap", of(5, put(5, "k", "v"), put(7, "k", "v")), api.ErrOrder}, {"the same offset", of(5, put(5, "k", "v"), put(5, "k", "v")), api.ErrOrder}, {"descending offsets", of(5, put(5, "k", "v"), put(4, "k", "v")), api.ErrOrder}, {"a gap, and back", of(5, put(5, "k", "v"), put(7, "k", "v"), put(7, "k", "v")), api.ErrOrder},
		{"an order before damage", api.Segment{Base: 4, Next: 6, Bytes: damaged}, api.ErrOrder}, {"damage before an order", api.Segment{Base: 5, Next: 8, Bytes: append(damaged, frames(put(9, "k", ""))...)}, api.ErrChecksum}, {"an order before a wrong Next", api.Segment{Base: 5, Next: 9, Bytes: frames(put(6, "k", ""))}, api.ErrOrder}, {"a kind before an order", api.Segment{Base: 5, Next: 6, Bytes: wrap([]byte{12, 8, 2, 'k', 0})}, api.ErrKind},
	}
	for _, base := range outside() {
		l = append(l, row{"the base", segment.New(base), api.ErrRange}, row{"the base of long bytes", api.Segment{Base: base, Bytes: large}, api.ErrRange}, row{"the base of no records", api.Segment{Base: base, Bytes: []byte{1}}, api.ErrRange}, row{"the base of other offsets", api.Segment{Base: base, Next: base + 1, Bytes: frames(put(0, "k", ""))}, api.ErrRange})
	}
	for _, next := range []int{4, 5, 6, 8, -1, 0, 2, math.MinInt, math.MaxInt} {
		l = append(l, row{"another Next", api.Segment{Base: 5, Next: next, Bytes: frames(two...)}, api.ErrRange})
	}
	l = append(l, row{"Next of no records", api.Segment{Base: 5}, api.ErrRange}, row{"Next of no records", api.Segment{Base: 5, Next: 6}, api.ErrRange})
	for _, x := range l {
		if code := segment.Check(x.s); code != x.code {
			t.Errorf("%s: Check(%s) = %d, want %d", x.name, short(x.s), code, x.code)
		}
	}
}

// P32.3, the first example
func TestAppendExample(t *testing.T) {
	s, offset, code := segment.Append(segment.New(5), api.RecPut, "a", "v")
	if offset != 5 || code != api.OK || s.Base != 5 || s.Next != 6 || len(s.Bytes) != 11 {
		t.Errorf("Append = %s, %d, %d", short(s), offset, code)
	}
}

// P32.3, P32.4, C32.1: records that are appended one after the other.
func TestAppend(t *testing.T) {
	for _, base := range bases() {
		s := segment.New(base)
		l := run(base, 60)
		for i, r := range l {
			next, offset, code := segment.Append(s, r.Kind, r.Key, r.Value)
			if offset != base+i || code != api.OK || !same(next, of(base, l[:i+1]...)) {
				t.Fatalf("Append %d to %s = %s, %d, %d", i, short(s), short(next), offset, code)
			}
			if code := segment.Check(next); code != api.OK {
				t.Errorf("Check of the segment with %d records = %d", i+1, code)
			}
			if got := segment.Records(next); !slices.Equal(got, l[:i+1]) {
				t.Errorf("Records of the segment with %d records = %v", i+1, got)
			}
			s = next
		}
	}
}

// P32.3: the errors of record.Check, before ErrFull.
func TestAppendErrors(t *testing.T) {
	long, large := strings.Repeat("k", api.MaxTopic+1), strings.Repeat("v", api.MaxPacket+1)
	full := of(5, filled(5, api.MaxBytes)...)
	last := of(api.MaxNumber, put(api.MaxNumber, "k", "v"))
	for _, x := range []struct {
		name       string
		s          api.Segment
		kind       int
		key, value string
		code       api.Errno
	}{
		{"the kind 0", segment.New(5), 0, "k", "v", api.ErrKind}, {"the kind 4 without a key", segment.New(5), 4, "", "v", api.ErrKind}, {"the kind -1", segment.New(5), -1, long, large, api.ErrKind},
		{"no key", segment.New(5), api.RecPut, "", "v", api.ErrRange}, {"a long key", segment.New(5), api.RecMark, long, "v", api.ErrTooLong}, {"a long value", segment.New(5), api.RecPut, "k", large, api.ErrTooLong}, {"a long value of a deletion", segment.New(5), api.RecDelete, "k", large, api.ErrTooLong},
		{"a deletion with a value", segment.New(5), api.RecDelete, "k", "v", api.ErrField}, {"a mark with a value", of(5, run(5, 3)...), api.RecMark, "k", "v", api.ErrField},
		{"no offset is left", last, api.RecPut, "k", "v", api.ErrRange}, {"no offset is left, another kind", last, 4, "", "", api.ErrRange},
		{"full", full, api.RecPut, "k", "v", api.ErrFull}, {"full, a deletion", full, api.RecDelete, "k", "", api.ErrFull}, {"full, the kind 0", full, 0, "k", "v", api.ErrKind}, {"full, no key", full, api.RecPut, "", "v", api.ErrRange}, {"full, a long value", full, api.RecPut, "k", large, api.ErrTooLong}, {"full, a mark with a value", full, api.RecMark, "k", "v", api.ErrField},
	} {
		if got, offset, code := segment.Append(x.s, x.kind, x.key, x.value); !same(got, api.Segment{}) || offset != 0 || code != x.code {
			t.Errorf("%s: Append = %s, %d, %d, want %d", x.name, short(got), offset, code, x.code)
		}
	}
}

// P32.3: the last byte may be used, and none behind it.
func TestAppendFull(t *testing.T) {
	for _, base := range bases() {
		l := filled(base, api.MaxBytes)
		last := l[len(l)-1]
		s := of(base, l[:len(l)-1]...)
		got, offset, code := segment.Append(s, last.Kind, last.Key, last.Value)
		if !same(got, of(base, l...)) || len(got.Bytes) != api.MaxBytes || offset != last.Offset || code != api.OK {
			t.Errorf("Append up to the last byte = %s, %d, %d", short(got), offset, code)
		}
		if got, offset, code = segment.Append(s, last.Kind, last.Key, last.Value+"v"); !same(got, api.Segment{}) || offset != 0 || code != api.ErrFull {
			t.Errorf("Append behind the last byte = %s, %d, %d", short(got), offset, code)
		}
	}
}

// P32.3: the last offset may be used.
func TestAppendLastOffset(t *testing.T) {
	s, offset, code := segment.Append(segment.New(api.MaxNumber), api.RecMark, "k", "")
	if offset != api.MaxNumber || code != api.OK || s.Next != api.MaxNumber+1 || segment.Check(s) != api.OK {
		t.Errorf("Append of the last offset = %s, %d, %d", short(s), offset, code)
	}
}

// P32.4
func TestRecords(t *testing.T) {
	for _, base := range append(bases(), api.MaxNumber) {
		if got := segment.Records(segment.New(base)); len(got) != 0 {
			t.Errorf("Records of no bytes = %v", got)
		}
	}
	for _, l := range [][]api.Record{run(5, 1), run(0, 60), filled(7, api.MaxBytes), {put(api.MaxNumber, "k", "v")}} {
		if got := segment.Records(of(l[0].Offset, l...)); !slices.Equal(got, l) {
			t.Errorf("Records of %d records = %d records", len(l), len(got))
		}
	}
}

// checkRecover checks that Recover returns these records, and nothing else.
func checkRecover(t *testing.T, name string, b []byte, base int, want ...api.Record) {
	t.Helper()
	got, n := segment.Recover(b, base)
	if w := of(base, want...); !same(got, w) || n != len(w.Bytes) {
		t.Errorf("%s: Recover(%d bytes, %d) = %s, %d, want %s", name, len(b), base, short(got), n, short(w))
	}
}

// P32.5, the second example
func TestRecoverExample(t *testing.T) {
	b := frames(put(5, "a", "v"))
	checkRecover(t, "whole", b, 5, put(5, "a", "v"))
	checkRecover(t, "another base", b, 4)
	checkRecover(t, "torn", b[:10], 5)
}

// P32.5: any bytes and any base.
func TestRecover(t *testing.T) {
	three := run(5, 3)
	damaged := frames(three...)
	damaged[len(frames(three[:1]...))+6] ^= 1
	checkRecover(t, "no bytes", nil, 5)
	checkRecover(t, "no bytes", []byte{}, 0)
	checkRecover(t, "a smaller base", frames(three...), 4)
	checkRecover(t, "a greater base", frames(three...), 6)
	checkRecover(t, "damaged", damaged, 5, three[0])
	checkRecover(t, "a gap", frames(three[0], three[2]), 5, three[0])
	checkRecover(t, "the same offset", frames(three[0], three[0], three[1]), 5, three[0])
	checkRecover(t, "a record of another kind", append(frames(three[0]), wrap([]byte{12, 8, 2, 'k', 0})...), 5, three[0])
	checkRecover(t, "a frame that is no record", append(frames(three[0]), wrap(nil)...), 5, three[0])
	checkRecover(t, "not at the beginning", append([]byte{0}, frames(three...)...), 5)
	checkRecover(t, "the last offset", append(frames(put(api.MaxNumber, "k", "")), behind()...), api.MaxNumber, put(api.MaxNumber, "k", ""))
	for _, base := range outside() {
		checkRecover(t, "no base", nil, base)
		checkRecover(t, "no base", frames(put(0, "k", "v")), base)
		checkRecover(t, "no base", frames(put(api.MaxNumber, "k", "v")), base)
		checkRecover(t, "a frame with this offset", wrap(append(binary.AppendVarint(nil, int64(base)), 2, 2, 'k', 0)), base)
	}
}

// P32.5: no more than MaxBytes bytes, whatever follows.
func TestRecoverLong(t *testing.T) {
	full := filled(5, api.MaxBytes)
	next := 5 + len(full)
	checkRecover(t, "full", frames(full...), 5, full...)
	checkRecover(t, "a record behind full ones", frames(append(slices.Clone(full), put(next, "k", ""))...), 5, full...)
	checkRecover(t, "many records", append(frames(full...), frames(filled(next, api.MaxBytes)...)...), 5, full...)
	for _, size := range []int{api.MaxBytes + 1, api.MaxBytes + 2, api.MaxBytes + 50} {
		l := filled(5, size)
		checkRecover(t, "a record across the limit", append(frames(l...), frames(put(5+len(l), "k", ""))...), 5, l[:len(l)-1]...)
	}
}

// P32.6, the third example
func TestTruncateExample(t *testing.T) {
	l := run(5, 3)
	for from, n := range map[int]int{7: 2, 3: 0, 9: 3} {
		if got := segment.Truncate(of(5, l...), from); !same(got, of(5, l[:n]...)) {
			t.Errorf("Truncate from %d = %s", from, short(got))
		}
	}
}

// P32.6
func TestTruncate(t *testing.T) {
	for _, base := range append(bases(), api.MaxNumber-39) {
		l := run(base, 40)
		for _, n := range []int{0, 1, 2, 40} {
			s := of(base, l[:n]...)
			for _, from := range []int{math.MinInt, -1, 0, base - 1, base, base + 1, base + 2, base + 20, base + 39, base + 40, base + 41, api.MaxNumber + 1, math.MaxInt} {
				keep := min(max(0, from-base), n)
				if from < base {
					keep = 0
				}
				if got := segment.Truncate(s, from); !same(got, of(base, l[:keep]...)) {
					t.Errorf("Truncate of %d records from %d - %d on = %s", n, from, base, short(got))
				}
			}
		}
	}
	full := filled(5, api.MaxBytes)
	if got := segment.Truncate(of(5, full...), 5+len(full)-1); !same(got, of(5, full[:len(full)-1]...)) {
		t.Errorf("Truncate of a full segment = %s", short(got))
	}
}

// R5: arguments stay as they are, also behind the end of their bytes, and results share no memory.
func TestSegmentsAreNew(t *testing.T) {
	l := run(5, 4)
	s := of(5, l[:3]...)
	room := s.Bytes[:cap(s.Bytes)]
	for i := len(s.Bytes); i < len(room); i++ {
		room[i] = 7
	}
	kept := slices.Clone(room)
	results := map[string]func() api.Segment{
		"Append":           func() api.Segment { r, _, _ := segment.Append(s, l[3].Kind, l[3].Key, l[3].Value); return r },
		"Recover":          func() api.Segment { r, _ := segment.Recover(s.Bytes, 5); return r },
		"Truncate":         func() api.Segment { return segment.Truncate(s, 7) },
		"Truncate of none": func() api.Segment { return segment.Truncate(s, 9) },
		"Truncate of all":  func() api.Segment { return segment.Truncate(s, 5) },
	}
	for name, result := range results {
		want := result()
		want.Bytes = slices.Clone(want.Bytes)
		one, two := result(), result()
		clear(append(one.Bytes, 1, 2, 3))
		clear(one.Bytes[:cap(one.Bytes)])
		if !bytes.Equal(room, kept) {
			t.Fatalf("%s shares or modifies its argument", name)
		}
		if !same(two, want) {
			t.Errorf("%s returns the same memory twice", name)
		}
	}
	records := segment.Records(s)
	clear(segment.Records(s))
	empty := segment.New(5)
	clear(append(empty.Bytes, 1)[:1])
	if !slices.Equal(records, l[:3]) || !bytes.Equal(room, kept) || segment.Check(s) != api.OK {
		t.Error("Records shares or modifies memory")
	}
}

// R5: two extensions of one segment do not influence each other.
func TestAppendTwice(t *testing.T) {
	s, _, _ := segment.Append(segment.New(0), api.RecPut, "a", "1")
	one, _, _ := segment.Append(s, api.RecPut, "b", "2")
	two, _, _ := segment.Append(s, api.RecDelete, "c", "")
	if !slices.Equal(segment.Records(one), []api.Record{put(0, "a", "1"), put(1, "b", "2")}) || !slices.Equal(segment.Records(two), []api.Record{put(0, "a", "1"), {Offset: 1, Kind: api.RecDelete, Key: "c"}}) {
		t.Errorf("extensions %s and %s", short(one), short(two))
	}
}

// R1: for segments that are not valid nothing is promised, but that the functions return.
func TestAnySegment(t *testing.T) {
	for _, b := range [][]byte{nil, {1}, {128}, frames(run(5, 3)...), append(frames(run(5, 3)...), 7), wrap(nil), behind(), make([]byte, api.MaxBytes+1), bytes.Repeat([]byte{255}, 99)} {
		for _, base := range append(outside(), 0, 5, 6) {
			for _, next := range append(outside(), 0, 5, 8) {
				s := api.Segment{Base: base, Next: next, Bytes: b}
				segment.Append(s, api.RecPut, "k", "v")
				segment.Records(s)
				for _, from := range append(outside(), 0, 6) {
					segment.Truncate(s, from)
				}
			}
		}
	}
}

// C32.2: a segment that ends anywhere, and what follows the whole records.
func TestSegmentTorn(t *testing.T) {
	for _, base := range []int{0, 64, api.MaxNumber - 7} {
		l := run(base, 8)
		b := frames(l...)
		whole := 0
		for end := range len(b) + 1 {
			if whole < len(l) && len(frames(l[:whole+1]...)) == end {
				whole++
			}
			checkRecover(t, fmt.Sprintf("up to %d", end), b[:end], base, l[:whole]...)
		}
		next := base + len(l)
		for _, tail := range [][]byte{{0}, {1}, {128}, frames(l...), frames(l[7]), frames(put(max(0, next-2), "k", "")), wrap(nil), wrap([]byte{1, 2, 3}), bytes.Repeat([]byte{255}, 99), make([]byte, 999)} {
			checkRecover(t, fmt.Sprintf("before %.9v", tail), slices.Concat(b, tail), base, l...)
		}
	}
}

// longest is Recover by definition: it tries all beginnings.
func longest(b []byte, base int) (api.Segment, int) {
	for n := min(len(b), api.MaxBytes); n > 0; n-- {
		for next := base + 1; next <= base+9; next++ {
			if s := (api.Segment{Base: base, Next: next, Bytes: b[:n]}); segment.Check(s) == api.OK {
				return s, n
			}
		}
	}
	return segment.New(base), 0
}

// P32.5, P32.2: what Recover returns is the longest beginning that is valid, of records in no particular order, some of them damaged.
func TestRecoverLongest(t *testing.T) {
	random := rand.New(rand.NewSource(32))
	lengths := map[int]int{}
	for range 3000 {
		var b []byte
		offset := random.Intn(3)
		for range random.Intn(6) {
			b = append(b, frames(put(offset, "k", strings.Repeat("v", random.Intn(3))))...)
			if offset++; random.Intn(4) == 0 {
				offset = random.Intn(4)
			}
		}
		if len(b) > 0 && random.Intn(3) == 0 {
			b[random.Intn(len(b))] ^= byte(1 << random.Intn(8))
		}
		base := random.Intn(3)
		want, n := longest(b, base)
		got, m := segment.Recover(b, base)
		if !same(got, want) || m != n {
			t.Fatalf("Recover(%v, %d) = %s, %d, want %s, %d", b, base, short(got), m, short(want), n)
		}
		lengths[got.Next-base]++
	}
	if len(lengths) < 5 {
		t.Errorf("few different lengths: %v", lengths)
	}
}
