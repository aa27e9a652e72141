package seglog_test

import (
	"bytes"
	"fmt"
	"math"
	"slices"
	"strings"
	"testing"

	"broker/api"
	"broker/record"
	"broker/seglog"
	"broker/segment"
)

// put returns a RecPut.
func put(offset int, key, value string) api.Record {
	return api.Record{Offset: offset, Kind: api.RecPut, Key: key, Value: value}
}

// run returns n records of 11 to 13 bytes each, with consecutive offsets from base on; if the offsets are below 64 and the base is not, they have 11.
func run(base, n int) []api.Record {
	var l []api.Record
	for i := range n {
		l = append(l, put(base+i, "k", string(rune('a'+i%26))))
	}
	return l
}

// of returns the segment with these records, which must be valid, by definition.
func of(base int, l ...api.Record) api.Segment {
	s := api.Segment{Base: base, Next: base + len(l)}
	for _, r := range l {
		b, code := record.Encode(r)
		if code != api.OK {
			panic(fmt.Sprintf("record %v: %d", r, code))
		}
		s.Bytes = append(s.Bytes, b...)
	}
	return s
}

// same reports whether two lists of segments are equal; nil and no bytes are.
func same(a, b []api.Segment) bool {
	return slices.EqualFunc(a, b, func(a, b api.Segment) bool {
		return a.Base == b.Base && a.Next == b.Next && bytes.Equal(a.Bytes, b.Bytes)
	})
}

// short prints segments with the number of their bytes.
func short(l []api.Segment) string {
	var b strings.Builder
	for _, s := range l {
		fmt.Fprintf(&b, "{%d %d (%d)}", s.Base, s.Next, len(s.Bytes))
	}
	return b.String()
}

// open returns the log of segments, which must be possible.
func open(t *testing.T, limit int, l ...api.Segment) *seglog.Log {
	t.Helper()
	log, code := seglog.Open(limit, l)
	if log == nil || code != api.OK {
		t.Fatalf("Open(%d, %s) = %v, %d", limit, short(l), log, code)
	}
	return log
}

// checkLog checks that a log consists of these segments.
func checkLog(t *testing.T, name string, log *seglog.Log, want ...api.Segment) {
	t.Helper()
	if got := log.Segments(); !same(got, want) {
		t.Fatalf("%s: Segments = %s, want %s", name, short(got), short(want))
	}
	first, next := want[0].Base, want[len(want)-1].Next
	if log.First() != first || log.Next() != next {
		t.Fatalf("%s: First = %d, Next = %d, want %d, %d", name, log.First(), log.Next(), first, next)
	}
	var records []api.Record
	for _, s := range want {
		records = append(records, segment.Records(s)...)
	}
	if got, code := log.Read(first, math.MaxInt); !slices.Equal(got, records) || code != api.OK {
		t.Fatalf("%s: Read = %v, %d, want %v", name, got, code, records)
	}
}

// appendAll appends records, whose offsets must be the next ones.
func appendAll(t *testing.T, log *seglog.Log, l ...api.Record) {
	t.Helper()
	for _, r := range l {
		if offset, code := log.Append(r.Kind, r.Key, r.Value); offset != r.Offset || code != api.OK {
			t.Fatalf("Append(%d, %q, %q) = %d, %d, want %d", r.Kind, r.Key, r.Value, offset, code, r.Offset)
		}
	}
}

// P34.1 to P34.7: the examples, one after the other.
func TestExamples(t *testing.T) {
	l := run(0, 6)
	log, code := seglog.New(64)
	if code != api.OK {
		t.Fatalf("New = %d", code)
	}
	appendAll(t, log, l...)
	checkLog(t, "six records", log, of(0, l[:5]...), of(5, l[5]))
	if got := log.Segments(); len(got[0].Bytes) != 55 || len(got[1].Bytes) != 11 {
		t.Errorf("Segments = %s", short(got))
	}
	if got := log.Drop(4); got != 0 {
		t.Errorf("Drop(4) = %d", got)
	}
	checkLog(t, "Drop(4)", log, of(0, l[:5]...), of(5, l[5]))
	if got := log.Drop(5); got != 5 || log.First() != 5 {
		t.Errorf("Drop(5) = %d, First = %d", got, log.First())
	}
	if got, code := log.Read(4, 1); len(got) != 0 || code != api.ErrRange {
		t.Errorf("Read(4, 1) = %v, %d", got, code)
	}
	if got, code := log.Read(6, 1); len(got) != 0 || code != api.OK {
		t.Errorf("Read(6, 1) = %v, %d", got, code)
	}
	if code := log.Cut(5); code != api.OK {
		t.Errorf("Cut(5) = %d", code)
	}
	checkLog(t, "Cut(5)", log, of(5))
	appendAll(t, log, put(5, "k", "v"))
}

// P34.1, P34.2: limits.
func TestLimit(t *testing.T) {
	for _, limit := range []int{64, 65, 1000, api.MaxBytes - 1, api.MaxBytes} {
		log, code := seglog.New(limit)
		if log == nil || code != api.OK {
			t.Fatalf("New(%d) = %v, %d", limit, log, code)
		}
		checkLog(t, "New", log, of(0))
		checkLog(t, "Open of nil", open(t, limit), of(0))
		checkLog(t, "Open of a segment", open(t, limit, of(5, run(5, 9)...)), of(5, run(5, 9)...))
		log, code = seglog.Open(limit, []api.Segment{})
		if code != api.OK {
			t.Fatalf("Open(%d) of no segments = %d", limit, code)
		}
		checkLog(t, "Open of no segments", log, of(0))
	}
	for _, limit := range []int{63, api.MaxBytes + 1, 0, 1, -1, -64, math.MinInt, math.MaxInt} {
		if log, code := seglog.New(limit); log != nil || code != api.ErrRange {
			t.Errorf("New(%d) = %v, %d", limit, log, code)
		}
		for _, l := range [][]api.Segment{nil, {of(0)}, {{Base: 1}}, {{Bytes: []byte{128}}}, {of(0), of(1)}} {
			if log, code := seglog.Open(limit, l); log != nil || code != api.ErrRange {
				t.Errorf("Open(%d, %s) = %v, %d", limit, short(l), log, code)
			}
		}
	}
}

// parts returns n segments of size records each, from base on.
func parts(base, n, size int) []api.Segment {
	var l []api.Segment
	for i := range n {
		l = append(l, of(base+i*size, run(base+i*size, size)...))
	}
	return l
}

// P34.2: logs.
func TestOpen(t *testing.T) {
	for name, l := range map[string][]api.Segment{
		"an empty segment": {of(0)}, "an empty segment with a base": {of(7)}, "an empty segment with the last base": {of(api.MaxNumber)},
		"one segment": parts(0, 1, 3), "three segments": parts(7, 3, 5), "an empty one behind another one": append(parts(7, 1, 2), of(9)), "an empty one behind others": append(parts(0, 3, 1), of(3)),
		"more bytes than the limit": parts(0, 2, 50), "the last offset": {of(api.MaxNumber-1, run(api.MaxNumber-1, 1)...), of(api.MaxNumber, run(api.MaxNumber, 1)...)},
		"MaxRecords records": parts(3, 8, api.MaxRecords/8), "MaxRecords segments": parts(0, api.MaxRecords, 1), "an empty one behind MaxRecords segments": append(parts(0, api.MaxRecords, 1), of(api.MaxRecords)), "MaxRecords records in one segment": parts(0, 1, api.MaxRecords),
	} {
		checkLog(t, name, open(t, 64, l...), l...)
	}
}

// P34.2: the errors, each before those that follow it.
func TestOpenErrors(t *testing.T) {
	a, b := of(5, run(5, 2)...), of(7, run(7, 2)...)
	damaged := of(7, run(7, 2)...)
	damaged.Bytes[len(damaged.Bytes)-1] ^= 1
	torn := api.Segment{Base: 7, Next: 9, Bytes: b.Bytes[:len(b.Bytes)-1]}
	for _, x := range []struct {
		name string
		l    []api.Segment
		code api.Errno
	}{
		{"a negative base", []api.Segment{of(-1)}, api.ErrRange}, {"a base behind the last one", []api.Segment{of(api.MaxNumber + 1)}, api.ErrRange}, {"a wrong Next", []api.Segment{{Base: 5, Next: 6}}, api.ErrRange}, {"a wrong Next of records", []api.Segment{{Base: 5, Next: 8, Bytes: a.Bytes}}, api.ErrRange}, {"too many bytes", []api.Segment{{Bytes: make([]byte, api.MaxBytes+1)}}, api.ErrTooLong},
		{"a torn segment", []api.Segment{torn}, api.ErrTruncated}, {"a damaged segment", []api.Segment{damaged}, api.ErrChecksum}, {"other offsets", []api.Segment{{Base: 6, Next: 8, Bytes: a.Bytes}}, api.ErrOrder},
		{"a torn one behind another one", []api.Segment{a, torn}, api.ErrTruncated}, {"a damaged one behind another one", []api.Segment{a, damaged}, api.ErrChecksum}, {"a damaged one before another one", []api.Segment{damaged, of(9)}, api.ErrChecksum},
		{"a gap", []api.Segment{a, of(8, run(8, 1)...)}, api.ErrOrder}, {"an overlap", []api.Segment{a, of(6, run(6, 2)...)}, api.ErrOrder}, {"the same segment twice", []api.Segment{a, a}, api.ErrOrder}, {"descending segments", []api.Segment{b, a}, api.ErrOrder}, {"an empty one behind a gap", []api.Segment{a, of(8)}, api.ErrOrder}, {"an empty one too early", []api.Segment{a, of(6)}, api.ErrOrder},
		{"an empty one first", []api.Segment{of(5), a}, api.ErrOrder}, {"an empty one in between", []api.Segment{a, of(7), b}, api.ErrOrder}, {"two empty ones", []api.Segment{of(0), of(0)}, api.ErrOrder}, {"two empty ones behind another one", []api.Segment{a, of(7), of(7)}, api.ErrOrder}, {"a gap at the end", []api.Segment{a, b, of(10)}, api.ErrOrder},
		{"a gap before damage", []api.Segment{a, of(8), damaged}, api.ErrOrder}, {"damage behind an empty one", []api.Segment{a, of(7), damaged}, api.ErrChecksum}, {"damage behind a gap", []api.Segment{of(5, run(5, 1)...), damaged, b}, api.ErrChecksum},
		{"no offset is left for a segment", []api.Segment{of(api.MaxNumber, run(api.MaxNumber, 1)...), of(api.MaxNumber + 1)}, api.ErrRange},
		{"too many records", append(parts(3, 8, api.MaxRecords/8), of(3+api.MaxRecords, run(3+api.MaxRecords, 1)...)), api.ErrFull}, {"too many segments", parts(0, api.MaxRecords+1, 1), api.ErrFull}, {"too many records in one segment", parts(0, 1, api.MaxRecords+1), api.ErrFull}, {"too many records, and damage", append(parts(3, 1, api.MaxRecords+1), api.Segment{Base: 4 + api.MaxRecords, Next: 5 + api.MaxRecords, Bytes: []byte{128}}), api.ErrTruncated}, {"too many records, and a gap", append(parts(3, 1, api.MaxRecords+1), of(5+api.MaxRecords)), api.ErrOrder},
	} {
		if log, code := seglog.Open(64, x.l); log != nil || code != x.code {
			t.Errorf("%s: Open(64, %s) = %v, %d, want %d", x.name, short(x.l), log, code, x.code)
		}
	}
}

// P34.3: the errors of record.Check, which change nothing.
func TestAppendErrors(t *testing.T) {
	long, large := strings.Repeat("k", api.MaxTopic+1), strings.Repeat("v", api.MaxPacket+1)
	for _, l := range [][]api.Segment{{of(0)}, {of(5, run(5, 2)...)}, {of(5, run(5, 5)...)}, {of(5, run(5, 5)...), of(10)}, parts(0, 2, api.MaxRecords/2)} {
		log := open(t, 64, l...)
		for _, x := range []struct {
			kind       int
			key, value string
			code       api.Errno
		}{
			{0, "k", "v", api.ErrKind}, {4, "", large, api.ErrKind}, {-1, long, "", api.ErrKind}, {api.RecPut, "", large, api.ErrRange}, {api.RecMark, "", "v", api.ErrRange},
			{api.RecPut, long, "", api.ErrTooLong}, {api.RecDelete, long, "v", api.ErrTooLong}, {api.RecPut, "k", large, api.ErrTooLong}, {api.RecMark, "k", large, api.ErrTooLong}, {api.RecDelete, "k", "v", api.ErrField}, {api.RecMark, "k", "v", api.ErrField},
		} {
			if offset, code := log.Append(x.kind, x.key, x.value); offset != 0 || code != x.code {
				t.Errorf("Append(%d, %.9q, %.9q) to %.60s = %d, %d, want %d", x.kind, x.key, x.value, short(l), offset, code, x.code)
			}
		}
		checkLog(t, "after errors", log, l...)
	}
}

// P34.3: MaxRecords records, in one segment and in many; what is removed makes room.
func TestAppendFull(t *testing.T) {
	l := run(0, api.MaxRecords)
	for _, limit := range []int{64, 1000, api.MaxBytes} {
		log := open(t, limit)
		appendAll(t, log, l...)
		before := log.Segments()
		for _, kind := range []int{api.RecPut, api.RecDelete, api.RecMark} {
			if offset, code := log.Append(kind, "k", ""); offset != 0 || code != api.ErrFull {
				t.Errorf("Append of the kind %d to a full log = %d, %d", kind, offset, code)
			}
		}
		checkLog(t, "full", log, before...)
		if code := log.Cut(api.MaxRecords - 1); code != api.OK {
			t.Errorf("Cut of the last record = %d", code)
		}
		appendAll(t, log, l[api.MaxRecords-1])
		if offset, code := log.Append(api.RecPut, "k", ""); offset != 0 || code != api.ErrFull {
			t.Errorf("Append to a log that is full again = %d, %d", offset, code)
		}
		n := log.Drop(before[0].Next)
		appendAll(t, log, run(api.MaxRecords, n)...)
		if offset, code := log.Append(api.RecPut, "k", ""); n == 0 || offset != 0 || code != api.ErrFull {
			t.Errorf("Append to a log with %d other records = %d, %d", n, offset, code)
		}
	}
}

// P34.3: no offset is left, also in a full log.
func TestAppendLastOffset(t *testing.T) {
	log := open(t, 64, of(api.MaxNumber-1))
	appendAll(t, log, run(api.MaxNumber-1, 2)...)
	for name, log := range map[string]*seglog.Log{"short": log, "full": open(t, 64, parts(api.MaxNumber-api.MaxRecords+1, 1, api.MaxRecords)...)} {
		if offset, code := log.Append(api.RecPut, "k", "v"); offset != 0 || code != api.ErrRange {
			t.Errorf("%s: Append behind the last offset = %d, %d", name, offset, code)
		}
		if offset, code := log.Append(4, "k", "v"); offset != 0 || code != api.ErrRange || log.Next() != api.MaxNumber+1 {
			t.Errorf("%s: Append of another kind behind the last offset = %d, %d; Next = %d", name, offset, code, log.Next())
		}
		if got, code := log.Read(api.MaxNumber+1, 1); len(got) != 0 || code != api.OK {
			t.Errorf("%s: Read behind the last offset = %v, %d", name, got, code)
		}
	}
	if code := log.Cut(api.MaxNumber); code != api.OK {
		t.Errorf("Cut(MaxNumber) = %d", code)
	}
	appendAll(t, log, put(api.MaxNumber, "k", "w"))
	if n := log.Drop(math.MaxInt); n != 2 || log.First() != api.MaxNumber+1 || log.Next() != api.MaxNumber+1 {
		t.Errorf("Drop = %d, First = %d, Next = %d", n, log.First(), log.Next())
	}
}

// sized returns the RecPut whose framed form has this many bytes, from 10 to 73; the offset must be below 64.
func sized(t *testing.T, offset, size int) api.Record {
	t.Helper()
	r := put(offset, "k", strings.Repeat("v", size-10))
	for record.Size(r) > size {
		r.Value = r.Value[1:]
	}
	if record.Size(r) != size {
		t.Fatalf("no record has %d bytes", size)
	}
	return r
}

// P34.3: where a record is added.
func TestAppendWhere(t *testing.T) {
	small, large := put(0, "k", "v"), put(0, "k", strings.Repeat("v", api.MaxPacket))
	log := open(t, 64)
	appendAll(t, log, sized(t, 0, 53), sized(t, 1, 11))
	checkLog(t, "up to the limit", log, of(0, sized(t, 0, 53), sized(t, 1, 11)))
	appendAll(t, log, sized(t, 2, 10))
	checkLog(t, "behind the limit", log, of(0, sized(t, 0, 53), sized(t, 1, 11)), of(2, sized(t, 2, 10)))
	log = open(t, 64)
	appendAll(t, log, sized(t, 0, 53), sized(t, 1, 12))
	checkLog(t, "one byte more", log, of(0, sized(t, 0, 53)), of(1, sized(t, 1, 12)))
	log = open(t, 65)
	appendAll(t, log, sized(t, 0, 53), sized(t, 1, 12))
	checkLog(t, "another limit", log, of(0, sized(t, 0, 53), sized(t, 1, 12)))

	log = open(t, 64)
	appendAll(t, log, large)
	checkLog(t, "a large record first", log, of(0, large))
	second, third := small, large
	second.Offset, third.Offset = 1, 2
	appendAll(t, log, second, third)
	checkLog(t, "large records", log, of(0, large), of(1, second), of(2, third))

	log = open(t, 64, of(0, run(0, 7)...))
	appendAll(t, log, run(7, 1)...)
	checkLog(t, "behind a long segment", log, of(0, run(0, 7)...), of(7, run(7, 1)...))
	log = open(t, 64, of(0, run(0, 2)...), of(2))
	appendAll(t, log, run(2, 1)...)
	checkLog(t, "into an empty segment", log, of(0, run(0, 2)...), of(2, run(2, 1)...))
	log = open(t, 64, of(0, run(0, 1)...), of(1))
	large.Offset = 1
	appendAll(t, log, large)
	checkLog(t, "a large record into an empty segment", log, of(0, run(0, 1)...), of(1, large))
	log = open(t, 64, of(0, run(0, 2)...))
	appendAll(t, log, run(0, 3)[2])
	checkLog(t, "into an opened segment", log, of(0, run(0, 3)...))
}

// P34.3: the largest limit is the size of the largest segment.
func TestAppendLargest(t *testing.T) {
	log := open(t, api.MaxBytes)
	large := strings.Repeat("v", api.MaxPacket)
	var l []api.Record
	for i := range 15 {
		l = append(l, put(i, "k", large)) // 4108 bytes each
	}
	appendAll(t, log, l...)
	fits := put(15, "k", large[:3904]) // 3916 bytes
	appendAll(t, log, fits)
	if got := log.Segments(); len(got) != 1 || len(got[0].Bytes) != api.MaxBytes {
		t.Errorf("Segments = %s", short(got))
	}
	if code := log.Cut(15); code != api.OK {
		t.Errorf("Cut = %d", code)
	}
	next := put(15, "k", large[:3905])
	appendAll(t, log, next)
	checkLog(t, "one byte more", log, of(0, l...), of(15, next))
}

// P34.4: by definition.
func TestRead(t *testing.T) {
	for _, l := range [][]api.Segment{{of(0)}, {of(9)}, parts(0, 1, 4), parts(9, 3, 1), parts(9, 3, 4), append(parts(9, 2, 2), of(13)), {of(60, run(60, 3)...), of(63, run(63, 1)...), of(64, run(64, 3)...)}} {
		log := open(t, 64, l...)
		first, next := l[0].Base, l[len(l)-1].Next
		for _, n := range []int{math.MinInt, -1, 0, 1, 2, 3, 4, 5, 8, 11, 12, 13, math.MaxInt} {
			for offset := first; offset <= next; offset++ {
				var want []api.Record
				for _, s := range l {
					for _, r := range segment.Records(s) {
						if r.Offset >= offset && len(want) < n {
							want = append(want, r)
						}
					}
				}
				if got, code := log.Read(offset, n); !slices.Equal(got, want) || code != api.OK {
					t.Errorf("Read(%d, %d) of %s = %v, %d, want %v", offset, n, short(l), got, code, want)
				}
			}
			for _, offset := range []int{first - 1, next + 1, -1, math.MinInt, math.MaxInt, api.MaxNumber + 1} {
				if got, code := log.Read(offset, n); len(got) != 0 || code != api.ErrRange {
					t.Errorf("Read(%d, %d) of %s = %v, %d", offset, n, short(l), got, code)
				}
			}
		}
	}
}

// P34.5
func TestDrop(t *testing.T) {
	three := parts(5, 3, 2)
	for _, x := range []struct {
		name   string
		l      []api.Segment
		before int
		n      int
		want   []api.Segment
	}{
		{"below the first offset", three, 4, 0, three}, {"nothing", three, 5, 0, three}, {"a part of the first segment", three, 6, 0, three}, {"the first segment", three, 7, 2, three[1:]}, {"a part of the second segment", three, 8, 2, three[1:]}, {"two segments", three, 9, 4, three[2:]}, {"a part of the last segment", three, 10, 4, three[2:]}, {"all", three, 11, 6, []api.Segment{of(11)}}, {"more than all", three, 12, 6, []api.Segment{of(11)}}, {"any offset", three, math.MaxInt, 6, []api.Segment{of(11)}}, {"no offset", three, math.MinInt, 0, three}, {"a negative offset", three, -1, 0, three},
		{"all but an empty one", append(parts(5, 2, 2), of(9)), 9, 4, []api.Segment{of(9)}}, {"all, before an empty one", append(parts(5, 2, 2), of(9)), math.MaxInt, 4, []api.Segment{of(9)}}, {"the first one, before an empty one", append(parts(5, 2, 2), of(9)), 8, 2, []api.Segment{of(7, run(7, 2)...), of(9)}},
		{"an empty one", []api.Segment{of(5)}, 5, 0, []api.Segment{of(5)}}, {"an empty one, and more", []api.Segment{of(5)}, 99, 0, []api.Segment{of(5)}}, {"the only segment", parts(5, 1, 3), 8, 3, []api.Segment{of(8)}}, {"a part of the only segment", parts(5, 1, 3), 7, 0, parts(5, 1, 3)}, {"the first one of the log", parts(0, 2, 1), 1, 1, []api.Segment{of(1, run(1, 1)...)}}, {"the offset 0", parts(0, 2, 1), 0, 0, parts(0, 2, 1)},
	} {
		log := open(t, 64, x.l...)
		next := log.Next()
		if got := log.Drop(x.before); got != x.n {
			t.Errorf("%s: Drop(%d) of %s = %d, want %d", x.name, x.before, short(x.l), got, x.n)
		}
		checkLog(t, x.name, log, x.want...)
		if got := log.Drop(x.before); got != 0 {
			t.Errorf("%s: Drop(%d) again = %d", x.name, x.before, got)
		}
		checkLog(t, x.name+", again", log, x.want...)
		appendAll(t, log, put(next, "k", "v"))
	}
}

// P34.6
func TestCut(t *testing.T) {
	three, open3 := parts(5, 3, 2), append(parts(5, 2, 2), of(9))
	for _, x := range []struct {
		name string
		l    []api.Segment
		from int
		want []api.Segment
	}{
		{"nothing", three, 11, three}, {"a part of the last segment", three, 10, []api.Segment{three[0], three[1], of(9, run(9, 1)...)}}, {"the last segment", three, 9, three[:2]}, {"a part of the second segment", three, 8, []api.Segment{three[0], of(7, run(7, 1)...)}}, {"two segments", three, 7, three[:1]}, {"a part of the first segment", three, 6, []api.Segment{of(5, run(5, 1)...)}}, {"all", three, 5, []api.Segment{of(5)}},
		{"nothing, with an empty one", open3, 9, open3}, {"a record, with an empty one", open3, 8, []api.Segment{three[0], of(7, run(7, 1)...)}}, {"a segment, with an empty one", open3, 7, three[:1]}, {"all, with an empty one", open3, 5, []api.Segment{of(5)}},
		{"nothing of an empty one", []api.Segment{of(5)}, 5, []api.Segment{of(5)}}, {"nothing of a new one", []api.Segment{of(0)}, 0, []api.Segment{of(0)}}, {"all from 0 on", parts(0, 2, 1), 0, []api.Segment{of(0)}}, {"a part of a long segment", parts(0, 1, 60), 50, []api.Segment{of(0, run(0, 50)...)}},
	} {
		log := open(t, 64, x.l...)
		if code := log.Cut(x.from); code != api.OK {
			t.Errorf("%s: Cut(%d) of %s = %d", x.name, x.from, short(x.l), code)
		}
		checkLog(t, x.name, log, x.want...)
		if code := log.Cut(x.from); code != api.OK {
			t.Errorf("%s: Cut(%d) again = %d", x.name, x.from, code)
		}
		checkLog(t, x.name+", again", log, x.want...)
		appendAll(t, log, put(x.from, "k", "v"))
	}
}

// P34.6: offsets that the log does not reach; nothing changes.
func TestCutErrors(t *testing.T) {
	for _, l := range [][]api.Segment{{of(0)}, {of(5)}, parts(5, 3, 2), append(parts(5, 1, 2), of(7))} {
		log := open(t, 64, l...)
		for _, from := range []int{l[0].Base - 1, l[len(l)-1].Next + 1, -1, math.MinInt, math.MaxInt, api.MaxNumber + 1} {
			if code := log.Cut(from); code != api.ErrRange {
				t.Errorf("Cut(%d) of %s = %d", from, short(l), code)
			}
		}
		checkLog(t, "after errors", log, l...)
	}
	log := open(t, 64, parts(5, 3, 2)...)
	log.Drop(7)
	if code := log.Cut(6); code != api.ErrRange {
		t.Errorf("Cut of what was dropped = %d", code)
	}
}

// P34.5, P34.6: what was cut and dropped is gone, also for what is appended then.
func TestCutAndAppend(t *testing.T) {
	log := open(t, 64)
	appendAll(t, log, run(0, 12)...)
	if code := log.Cut(7); code != api.OK {
		t.Fatalf("Cut = %d", code)
	}
	if n := log.Drop(5); n != 5 {
		t.Fatalf("Drop = %d", n)
	}
	others := []api.Record{put(7, "other", "1"), {Offset: 8, Kind: api.RecDelete, Key: "other"}, {Offset: 9, Kind: api.RecMark, Key: "other"}}
	appendAll(t, log, others...)
	checkLog(t, "other records", log, of(5, append(run(0, 7)[5:], others[:2]...)...), of(9, others[2]))
}

// R5: arguments are not retained, and results share no memory with the log or each other.
func TestSegmentsAreNew(t *testing.T) {
	// room is memory behind the end of the bytes of every segment.
	room := func(l []api.Segment) []api.Segment {
		for i := range l {
			l[i].Bytes = append(make([]byte, 0, 4096), l[i].Bytes...)
		}
		return l
	}
	want := parts(5, 3, 2)
	l := room(parts(5, 3, 2))
	log := open(t, 64, l...)
	spoil(l)
	checkLog(t, "after Open", log, want...)
	one, two := log.Segments(), log.Segments()
	spoil(one)
	checkLog(t, "after Segments", log, want...)
	if !same(two, want) {
		t.Errorf("Segments returns the same memory twice: %s", short(two))
	}
	records, _ := log.Read(6, 3)
	clear(records[:cap(records)])
	checkLog(t, "after Read", log, want...)

	l = room(parts(5, 3, 2))
	kept := room(parts(5, 3, 2))
	log = open(t, 64, l...)
	appendAll(t, log, put(11, "k", "v"))
	if code := log.Cut(8); code != api.OK {
		t.Errorf("Cut = %d", code)
	}
	appendAll(t, log, put(8, "k", "other"))
	log.Drop(7)
	for i := range l {
		if l[i].Base != kept[i].Base || l[i].Next != kept[i].Next || !bytes.Equal(l[i].Bytes[:4096], kept[i].Bytes[:4096]) {
			t.Errorf("the segment %d that was opened is modified", i)
		}
	}
	before := log.Segments()
	copies := log.Segments()
	appendAll(t, log, put(9, "k", "v"))
	log.Cut(8)
	if !same(before, copies) {
		t.Error("Segments returned what the log modifies")
	}
}

// spoil overwrites segments, their bytes, and what is behind them.
func spoil(l []api.Segment) {
	for i := range l {
		b := l[i].Bytes[:cap(l[i].Bytes)]
		for j := range b {
			b[j] = 7
		}
		l[i].Base, l[i].Next = 1, 2
	}
}

// R9: two logs of the same segments do not influence each other.
func TestTwoLogs(t *testing.T) {
	l := parts(0, 2, 2)
	one, two := open(t, 64, l...), open(t, 64, l...)
	appendAll(t, one, put(4, "k", "one"))
	appendAll(t, two, put(4, "k", "two"), put(5, "k", "two"))
	one.Drop(2)
	checkLog(t, "one", one, of(2, append(run(2, 2), put(4, "k", "one"))...))
	checkLog(t, "two", two, l[0], of(2, append(run(2, 2), put(4, "k", "two"), put(5, "k", "two"))...))
}
