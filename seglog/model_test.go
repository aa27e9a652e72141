package seglog_test

import (
	"math/rand"
	"slices"
	"strings"
	"testing"

	"broker/api"
	"broker/record"
	"broker/seglog"
)

// part is a segment by definition.
type part struct {
	base    int
	records []api.Record
}

// next returns the offset behind a part.
func (p part) next() int { return p.base + len(p.records) }

// size returns the number of bytes of a part.
func (p part) size() int { return len(of(p.base, p.records...).Bytes) }

// model is a log by the definitions of the chapter.
type model struct {
	limit int
	parts []part
}

func (m *model) first() int { return m.parts[0].base }
func (m *model) next() int  { return m.parts[len(m.parts)-1].next() }

// records returns the records of all parts.
func (m *model) records() []api.Record {
	var l []api.Record
	for _, p := range m.parts {
		l = append(l, p.records...)
	}
	return l
}

// segments returns the segments of all parts.
func (m *model) segments() []api.Segment {
	var l []api.Segment
	for _, p := range m.parts {
		l = append(l, of(p.base, p.records...))
	}
	return l
}

// append is P34.3.
func (m *model) append(kind int, key, value string) (int, api.Errno) {
	r := api.Record{Offset: m.next(), Kind: kind, Key: key, Value: value}
	if code := record.Check(r); code != api.OK {
		return 0, code
	}
	if len(m.records()) == api.MaxRecords {
		return 0, api.ErrFull
	}
	last := &m.parts[len(m.parts)-1]
	if len(last.records) == 0 || last.size()+record.Size(r) <= m.limit {
		last.records = append(last.records, r)
	} else {
		m.parts = append(m.parts, part{r.Offset, []api.Record{r}})
	}
	return r.Offset, api.OK
}

// read is P34.4.
func (m *model) read(offset, n int) ([]api.Record, api.Errno) {
	if offset < m.first() || offset > m.next() {
		return nil, api.ErrRange
	}
	l := m.records()[offset-m.first():]
	return l[:min(max(n, 0), len(l))], api.OK
}

// drop is P34.5.
func (m *model) drop(before int) int {
	n, next := 0, m.next()
	for len(m.parts) > 0 && len(m.parts[0].records) > 0 && m.parts[0].next() <= before {
		n += len(m.parts[0].records)
		m.parts = m.parts[1:]
	}
	if len(m.parts) == 0 {
		m.parts = []part{{base: next}}
	}
	return n
}

// cut is P34.6.
func (m *model) cut(from int) api.Errno {
	if from < m.first() || from > m.next() {
		return api.ErrRange
	}
	if from == m.next() {
		return api.OK
	}
	var kept []part
	for _, p := range m.parts {
		if p.base < from {
			kept = append(kept, p)
		}
	}
	m.parts = kept
	if len(kept) == 0 {
		m.parts = []part{{base: from}}
		return api.OK
	}
	last := &kept[len(kept)-1]
	last.records = slices.Clone(last.records[:min(from-last.base, len(last.records))])
	return api.OK
}

// step does the same call, in no particular order, with the model and the logs, and compares what they return; it returns what was called.
func step(t *testing.T, random *rand.Rand, m *model, logs ...*seglog.Log) string {
	t.Helper()
	near := m.first() - 1 + random.Intn(m.next()-m.first()+3)
	switch k := random.Intn(20); {
	case k < 12:
		kind := 1 + random.Intn(4)*random.Intn(2)
		key, value := strings.Repeat("k", random.Intn(9)), ""
		if random.Intn(2) == 0 {
			value = strings.Repeat("v", random.Intn(90))
		}
		want, code := m.append(kind, key, value)
		for _, log := range logs {
			if got, c := log.Append(kind, key, value); got != want || c != code {
				t.Fatalf("Append(%d, %q, %q) = %d, %d, want %d, %d", kind, key, value, got, c, want, code)
			}
		}
		return "Append"
	case k < 16:
		n := random.Intn(9) - 1
		want, code := m.read(near, n)
		for _, log := range logs {
			if got, c := log.Read(near, n); !slices.Equal(got, want) || c != code {
				t.Fatalf("Read(%d, %d) = %v, %d, want %v, %d", near, n, got, c, want, code)
			}
		}
		return "Read"
	case k < 18:
		want := m.drop(near)
		for _, log := range logs {
			if got := log.Drop(near); got != want {
				t.Fatalf("Drop(%d) = %d, want %d", near, got, want)
			}
		}
		return "Drop"
	}
	want := m.cut(near)
	for _, log := range logs {
		if got := log.Cut(near); got != want {
			t.Fatalf("Cut(%d) = %d, want %d", near, got, want)
		}
	}
	return "Cut"
}

// P34.3 to P34.7, C34.2, C34.3: calls in no particular order; a log that is opened from the segments of another one behaves like that one.
func TestModel(t *testing.T) {
	random := rand.New(rand.NewSource(34))
	most := 0
	for round := range 60 {
		limit := []int{64, 65, 100, 300, api.MaxBytes}[round%5]
		m := &model{limit, []part{{}}}
		log, _ := seglog.New(limit)
		twin := open(t, limit)
		for range 150 {
			called := step(t, random, m, log, twin)
			want := m.segments()
			checkLog(t, called, log, want...)
			checkLog(t, called+" of the other one", twin, want...)
			checkShort(t, limit, log)
			if random.Intn(5) == 0 {
				twin = open(t, limit, log.Segments()...)
			}
			most = max(most, len(want))
		}
	}
	if most < 10 {
		t.Errorf("at most %d segments", most)
	}
}

// checkShort is C34.2.
func checkShort(t *testing.T, limit int, log *seglog.Log) {
	t.Helper()
	for _, s := range log.Segments() {
		if len(s.Bytes) > limit && s.Next != s.Base+1 {
			t.Fatalf("a segment has %d records and %d bytes, with the limit %d", s.Next-s.Base, len(s.Bytes), limit)
		}
	}
}

// P34.2 to P34.7: logs that are opened from segments of any sizes, an empty one behind them or not.
func TestModelOpened(t *testing.T) {
	random := rand.New(rand.NewSource(342))
	for range 60 {
		m := &model{limit: 64}
		base := []int{0, 1, 60, 1 << 20, api.MaxNumber - 400}[random.Intn(5)]
		for range random.Intn(4) {
			p := part{base, run(base, 1+random.Intn(12))}
			m.parts = append(m.parts, p)
			base = p.next()
		}
		if len(m.parts) == 0 || random.Intn(2) == 0 {
			m.parts = append(m.parts, part{base: base})
		}
		log := open(t, m.limit, m.segments()...)
		for range 60 {
			checkLog(t, step(t, random, m, log), log, m.segments()...)
		}
	}
}

// C34.1: what was appended from an offset on is read from this offset on, whatever was dropped before it.
func TestReadsWhatWasAppended(t *testing.T) {
	l := run(0, 100)
	for _, limit := range []int{64, 100, 1000} {
		for from := range 100 {
			log := open(t, limit)
			appendAll(t, log, l[:from]...)
			log.Drop(from / 2)
			appendAll(t, log, l[from:]...)
			log.Drop(from)
			if got, code := log.Read(from, 100); !slices.Equal(got, l[from:]) || code != api.OK {
				t.Fatalf("limit %d: Read(%d, 100) = %v, %d", limit, from, got, code)
			}
		}
	}
}
