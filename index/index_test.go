package index_test

import (
	"bytes"
	"fmt"
	"math"
	"math/rand"
	"slices"
	"strings"
	"testing"

	"broker/api"
	"broker/index"
	"broker/record"
	"broker/segment"
)

// run returns n records of all kinds and several sizes, with consecutive offsets from base on.
func run(base, n int) []api.Record {
	var l []api.Record
	for i := range n {
		r := api.Record{Offset: base + i, Kind: []int{api.RecPut, api.RecDelete, api.RecPut, api.RecMark}[i%4], Key: strings.Repeat("k", 1+i*5%60)}
		if r.Kind == api.RecPut {
			r.Value = strings.Repeat("\x00v\xff", i*17%90)
		}
		l = append(l, r)
	}
	return l
}

// form returns the framed form of a record, which must be valid.
func form(r api.Record) []byte {
	b, code := record.Encode(r)
	if code != api.OK {
		panic(fmt.Sprintf("record %v: %d", r, code))
	}
	return b
}

// of returns the segment with these records, by definition.
func of(base int, l ...api.Record) api.Segment {
	s := api.Segment{Base: base, Next: base + len(l)}
	for _, r := range l {
		s.Bytes = append(s.Bytes, form(r)...)
	}
	return s
}

// marks returns the marks of all of these records, which begin a segment.
func marks(records []api.Record) []api.Mark {
	var l []api.Mark
	at := 0
	for _, r := range records {
		l = append(l, api.Mark{Offset: r.Offset, Position: at})
		at += len(form(r))
	}
	return l
}

// subsets returns all lists of some of these marks, in their order.
func subsets(l []api.Mark) [][]api.Mark {
	var out [][]api.Mark
	for set := range 1 << len(l) {
		var some []api.Mark
		for i, m := range l {
			if set>>i&1 == 1 {
				some = append(some, m)
			}
		}
		out = append(out, some)
	}
	return out
}

// bases are bases of segments; behind each one there is room for 40 records.
func bases() []int { return []int{0, 1, 5, 60, 63, 64, 1 << 32, api.MaxNumber - 39} }

// strange are numbers that name nothing in a segment.
func strange() []int {
	return []int{math.MinInt, math.MinInt + 1, -2, -1, math.MaxInt - 1, math.MaxInt}
}

// five returns the segment of the examples, and its marks.
func five() (api.Segment, []api.Mark) {
	s := of(5, run(5, 5)...)
	return s, index.Build(s, 2)
}

// P33.1, the first example
func TestBuildExample(t *testing.T) {
	_, l := five()
	if len(l) != 3 || l[0] != (api.Mark{Offset: 5}) || l[1].Offset != 7 || l[2].Offset != 9 {
		t.Errorf("Build = %v", l)
	}
}

// P33.1, C33.1: by definition.
func TestBuild(t *testing.T) {
	for _, base := range bases() {
		for _, n := range []int{0, 1, 2, 3, 40} {
			records := run(base, n)
			s := of(base, records...)
			for _, every := range []int{1, 2, 3, 4, 7, 20, 39, 40, 41, 1 << 40, math.MaxInt} {
				var want []api.Mark
				for i, m := range marks(records) {
					if i%every == 0 {
						want = append(want, m)
					}
				}
				got := index.Build(s, every)
				if !slices.Equal(got, want) {
					t.Errorf("Build of %d records from %d on, every %d = %v, want %v", n, base, every, got, want)
				}
				if !index.Check(s, got) {
					t.Errorf("Check of what Build of %d records from %d on, every %d, returns is false", n, base, every)
				}
			}
		}
	}
}

// P33.1: every record has a mark if every is smaller than 1.
func TestBuildSmall(t *testing.T) {
	records := run(5, 9)
	for _, every := range []int{0, -1, -2, -7, math.MinInt, math.MinInt + 1} {
		if got := index.Build(of(5, records...), every); !slices.Equal(got, marks(records)) {
			t.Errorf("Build, every %d = %v", every, got)
		}
	}
}

// P33.2: lists that belong to a segment, and the empty list to each one.
func TestCheckBelongs(t *testing.T) {
	for _, base := range bases() {
		records := run(base, 5)
		for n := range 6 {
			s := of(base, records[:n]...)
			for _, l := range subsets(marks(records[:n])) {
				if !index.Check(s, l) {
					t.Errorf("Check of %d records from %d on, %v = false", n, base, l)
				}
			}
		}
	}
	full := of(0)
	for range 15 {
		full, _, _ = segment.Append(full, api.RecPut, "k", strings.Repeat("v", api.MaxPacket))
	}
	if l := marks(segment.Records(full)); !index.Check(full, l) || !index.Check(full, l[14:]) {
		t.Error("Check of a long segment = false")
	}
}

// P33.2: lists that do not.
func TestCheckOthers(t *testing.T) {
	s := of(5, run(5, 5)...)
	all := marks(run(5, 5))
	end := len(s.Bytes)
	for name, l := range map[string][]api.Mark{
		"a mark behind the last record": {{Offset: 10, Position: end}}, "all, and one behind them": append(slices.Clone(all), api.Mark{Offset: 10, Position: end}),
		"a mark before the first record": {{Offset: 4}}, "the zero mark": {{}}, "one before all": append([]api.Mark{{Offset: 4}}, all...),
		"another position": {{Offset: 5, Position: 1}}, "another position of the second record": {{Offset: 6, Position: all[1].Position + 1}}, "the position of the preceding record": {{Offset: 6, Position: all[0].Position}}, "the position of the next record": {{Offset: 6, Position: all[2].Position}}, "a negative position": {{Offset: 5, Position: -1}}, "a position behind the end": {{Offset: 9, Position: end}},
		"a wrong one behind a right one": {all[0], {Offset: 7, Position: all[3].Position}}, "a wrong one before a right one": {{Offset: 6, Position: 1}, all[2]},
		"the same mark twice": {all[1], all[1]}, "the last mark twice": {all[4], all[4]}, "an offset twice, with another position": {all[1], {Offset: 6, Position: all[2].Position}},
		"descending": {all[2], all[1]}, "descending at the end": {all[0], all[3], all[2]}, "all descending": {all[4], all[3], all[2], all[1], all[0]},
	} {
		if index.Check(s, l) {
			t.Errorf("%s: Check(%v) = true", name, l)
		}
	}
	for _, n := range strange() {
		for _, m := range []api.Mark{{Offset: n}, {Offset: 5, Position: n}, {Offset: 7, Position: n}, {Offset: n, Position: n}} {
			if index.Check(s, []api.Mark{m}) || index.Check(s, []api.Mark{all[0], m}) || index.Check(of(5), []api.Mark{m}) {
				t.Errorf("Check of the mark %v = true", m)
			}
		}
	}
	for _, base := range []int{0, 5} {
		if index.Check(of(base), []api.Mark{{Offset: base}}) {
			t.Errorf("Check of a mark of no record from %d on = true", base)
		}
	}
}

// P33.2: the framed form of a record within a value is no record of the segment.
func TestCheckWithin(t *testing.T) {
	inner := api.Record{Offset: 6, Kind: api.RecPut, Key: "i", Value: "inner"}
	outer := api.Record{Offset: 5, Kind: api.RecPut, Key: "o", Value: string(form(inner))}
	s := of(5, outer, inner)
	at := bytes.Index(s.Bytes, form(inner))
	if r, _, code := record.Decode(s.Bytes, at); r != inner || code != api.OK || at >= len(form(outer)) {
		t.Fatalf("Decode at %d = %v, %d", at, r, code)
	}
	if l := []api.Mark{{Offset: 6, Position: at}}; index.Check(s, l) {
		t.Errorf("Check(%v) = true", l)
	}
	if l := []api.Mark{{Offset: 6, Position: len(form(outer))}}; !index.Check(s, l) {
		t.Errorf("Check(%v) = false", l)
	}
}

// belongs is Check by definition; all are the marks of all records of the segment.
func belongs(all, l []api.Mark) bool {
	for i, m := range l {
		if !slices.Contains(all, m) || i > 0 && l[i-1].Offset >= m.Offset {
			return false
		}
	}
	return true
}

// P33.2: all short lists of marks whose offsets and positions are those of records or next to them.
func TestCheckAll(t *testing.T) {
	records := run(0, 3)
	s := of(0, records...)
	all := marks(records)
	var some []api.Mark
	for offset := -1; offset <= 3; offset++ {
		for _, at := range []int{-1, 0, 1, all[1].Position, all[2].Position, len(s.Bytes)} {
			some = append(some, api.Mark{Offset: offset, Position: at})
		}
	}
	good := 0
	for _, a := range some {
		for _, b := range some {
			for _, c := range some {
				for n, l := 0, []api.Mark{a, b, c}; n <= 3; n++ {
					want := belongs(all, l[:n])
					if got := index.Check(s, l[:n]); got != want {
						t.Fatalf("Check(%v) = %t", l[:n], got)
					}
					if n == 3 && want {
						good++
					}
				}
			}
		}
	}
	if good != 1 {
		t.Errorf("%d lists of three marks belong to three records", good)
	}
}

// P33.3, the third example
func TestFindExample(t *testing.T) {
	l := []api.Mark{{Offset: 5, Position: 0}, {Offset: 7, Position: 22}}
	if m, ok := index.Find(l, 6); m != l[0] || !ok {
		t.Errorf("Find of 6 = %v, %t", m, ok)
	}
	if m, ok := index.Find(l, 4); m != (api.Mark{}) || ok {
		t.Errorf("Find of 4 = %v, %t", m, ok)
	}
}

// P33.3: by definition; positions do not count.
func TestFind(t *testing.T) {
	all := []api.Mark{{Offset: math.MinInt, Position: 7}, {Offset: -3, Position: -1}, {Offset: 0, Position: 9}, {Offset: 1, Position: 9}, {Offset: 5, Position: 3}, {Offset: 8, Position: math.MinInt}, {Offset: api.MaxNumber, Position: 1}, {Offset: math.MaxInt, Position: 2}}
	offsets := append(strange(), -4, -3, 0, 1, 2, 4, 5, 6, 7, 8, 9, api.MaxNumber-1, api.MaxNumber, api.MaxNumber+1)
	for _, l := range subsets(all) {
		for _, offset := range offsets {
			var want api.Mark
			found := false
			for _, m := range l {
				if m.Offset <= offset {
					want, found = m, true
				}
			}
			if got, ok := index.Find(l, offset); got != want || ok != found {
				t.Fatalf("Find(%v, %d) = %v, %t, want %v, %t", l, offset, got, ok, want, found)
			}
		}
	}
}

// P33.3: long lists.
func TestFindLong(t *testing.T) {
	var l []api.Mark
	for i := range 1000 {
		l = append(l, api.Mark{Offset: 3 * i, Position: i})
	}
	for offset := range 3003 {
		if m, ok := index.Find(l, offset); m != l[min(offset/3, 999)] || !ok {
			t.Fatalf("Find of %d = %v, %t", offset, m, ok)
		}
	}
}

// firstOf returns, by definition, at most n of the records with offsets from offset on.
func firstOf(records []api.Record, offset, n int) []api.Record {
	var out []api.Record
	for _, r := range records {
		if r.Offset >= offset && len(out) < n {
			out = append(out, r)
		}
	}
	return out
}

// P33.4, C33.3: by definition, with all marks that belong to a segment.
func TestRead(t *testing.T) {
	for _, base := range []int{0, 5, 62, api.MaxNumber - 4} {
		for n := range 6 {
			records := run(base, n)
			s := of(base, records...)
			for _, l := range subsets(marks(records)) {
				for _, offset := range append(strange(), 0, base-1, base, base+1, base+2, base+3, base+4, base+5, base+6, api.MaxNumber, api.MaxNumber+1) {
					for _, count := range append(strange(), 0, 1, 2, 3, 4, 5, 6) {
						if got, want := index.Read(s, l, offset, count), firstOf(records, offset, count); !slices.Equal(got, want) {
							t.Fatalf("Read of %d records from %d on, %v, %d, %d = %v, want %v", n, base, l, offset, count, got, want)
						}
					}
				}
			}
		}
	}
}

// P33.4, P33.5, C33.2, C33.3: long segments and the marks that Build returns.
func TestReadBuilt(t *testing.T) {
	random := rand.New(rand.NewSource(33))
	for _, base := range bases() {
		records := run(base, 40)
		s := of(base, records...)
		for _, every := range []int{-1, 0, 1, 2, 5, 16, 40, 99} {
			l := index.Build(s, every)
			for _, r := range records {
				n := random.Intn(45)
				if got, want := index.Read(s, l, r.Offset, n), firstOf(records, r.Offset, n); !slices.Equal(got, want) {
					t.Errorf("Read from %d on, every %d, %d, %d = %v", base, every, r.Offset, n, got)
				}
				if got := index.Steps(s, l, r.Offset); got < 1 || got > max(every, 1) {
					t.Errorf("Steps from %d on, every %d, %d = %d", base, every, r.Offset, got)
				}
			}
		}
	}
}

// P33.5, the second example
func TestStepsExample(t *testing.T) {
	s, l := five()
	if got := index.Steps(s, l, 8); got != 2 {
		t.Errorf("Steps = %d", got)
	}
	if got := index.Steps(s, nil, 8); got != 4 {
		t.Errorf("Steps without marks = %d", got)
	}
	if got := index.Steps(s, l, 10); got != 0 {
		t.Errorf("Steps of no record = %d", got)
	}
}

// P33.5: by definition, with all marks that belong to a segment.
func TestSteps(t *testing.T) {
	for _, base := range []int{0, 5, 62, api.MaxNumber - 5} {
		for n := range 7 {
			records := run(base, n)
			s := of(base, records...)
			for _, l := range subsets(marks(records)) {
				want := 0
				for _, r := range records {
					want++
					if slices.ContainsFunc(l, func(m api.Mark) bool { return m.Offset == r.Offset }) {
						want = 1
					}
					if got := index.Steps(s, l, r.Offset); got != want {
						t.Errorf("Steps of %d records from %d on, %v, %d = %d, want %d", n, base, l, r.Offset, got, want)
					}
				}
				for _, offset := range append(strange(), base-1, base+n, base+n+1, api.MaxNumber+1) {
					if got := index.Steps(s, l, offset); got != 0 {
						t.Errorf("Steps of %d records from %d on, %v, %d = %d", n, base, l, offset, got)
					}
				}
			}
		}
	}
}

// R5: arguments stay as they are, and results share no memory.
func TestResultsAreNew(t *testing.T) {
	s, l := five()
	b, kept := slices.Clone(s.Bytes), slices.Clone(l)
	index.Check(s, l)
	index.Find(l, 6)
	index.Steps(s, l, 8)
	records := index.Read(s, l, 6, 3)
	again := index.Read(s, l, 6, 3)
	clear(again[:cap(again)])
	if !slices.Equal(records, run(5, 5)[1:4]) {
		t.Errorf("Read returns the same memory twice: %v", records)
	}
	built := index.Build(s, 2)
	clear(built[:cap(built)])
	if !bytes.Equal(s.Bytes, b) || !slices.Equal(l, kept) {
		t.Error("an argument is shared or modified")
	}
	clear(s.Bytes)
	if !slices.Equal(records, run(5, 5)[1:4]) {
		t.Errorf("Read keeps the bytes of the segment: %v", records)
	}
}

// R1: nothing is promised for other segments and marks, but that the functions return.
func TestAnything(t *testing.T) {
	whole := of(5, run(5, 3)...).Bytes
	numbers := append(strange(), 0, 5, 6, 8)
	var some [][]api.Mark
	for _, n := range numbers {
		some = append(some, []api.Mark{{Offset: n, Position: n}}, []api.Mark{{Offset: 5, Position: n}, {Offset: 6, Position: 1}}, []api.Mark{{Offset: n}, {Offset: 6, Position: n}, {Offset: 5, Position: len(whole)}})
	}
	for _, b := range [][]byte{nil, {1}, {128}, {0}, whole, whole[:len(whole)-1], whole[1:], append(slices.Clone(whole), 7), make([]byte, api.MaxBytes+1), bytes.Repeat([]byte{255}, 99)} {
		for _, base := range numbers {
			s := api.Segment{Base: base, Next: -base, Bytes: b}
			for i, n := range numbers {
				index.Build(s, n)
				for _, l := range some {
					index.Check(s, l)
					index.Find(l, n)
					index.Read(s, l, n, numbers[(i+3)%len(numbers)])
					index.Steps(s, l, n)
				}
			}
		}
	}
}
