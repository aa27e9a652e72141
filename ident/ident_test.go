package ident_test

import (
	"maps"
	"math"
	"math/rand"
	"slices"
	"testing"

	"broker/api"
	"broker/ident"
)

// numbers returns n numbers from first on, each one by step greater than the preceding one.
func numbers(first, n, step int) []int {
	var l []int
	for i := 0; i < n; i++ {
		l = append(l, first+i*step)
	}
	return l
}

// same reports whether two pools are equal.
func same(a, b api.Pool) bool { return a.Last == b.Last && slices.Equal(a.Used, b.Used) }

// table is a pool as the chapter defines it: a set of identifiers, and the last one that was taken.
type table struct {
	used map[int]bool
	last int
}

func newTable(p api.Pool) *table {
	m := &table{map[int]bool{}, p.Last}
	for _, id := range p.Used {
		m.used[id] = true
	}
	return m
}

func (m *table) pool() api.Pool {
	return api.Pool{Used: slices.Sorted(maps.Keys(m.used)), Last: m.last}
}

// take looks through Last + 1, .., MaxIdent and then 1, .., Last.
func (m *table) take() (int, api.Errno) {
	if len(m.used) == api.MaxWindow {
		return 0, api.ErrFull
	}
	for id := m.last + 1; id <= api.MaxIdent; id++ {
		if !m.used[id] {
			m.used[id], m.last = true, id
			return id, api.OK
		}
	}
	for id := 1; ; id++ {
		if !m.used[id] {
			m.used[id], m.last = true, id
			return id, api.OK
		}
	}
}

func (m *table) free(id int) bool {
	was := m.used[id]
	delete(m.used, id)
	return was
}

// pair is a pool and the table with which it is compared after every call.
type pair struct {
	t *testing.T
	p api.Pool
	m *table
}

func newPair(t *testing.T, p api.Pool) *pair {
	t.Helper()
	if code := ident.Check(p); code != api.OK {
		t.Fatalf("Check of %v = %d", p, code)
	}
	return &pair{t, p, newTable(p)}
}

func (p *pair) take(want int, wantCode api.Errno) {
	p.t.Helper()
	if id, code := p.m.take(); id != want || code != wantCode {
		p.t.Fatalf("the table's Take = %d, %d, want %d, %d", id, code, want, wantCode)
	}
	id, next, code := ident.Take(p.p)
	if id != want || code != wantCode {
		p.t.Errorf("Take of %v = %d, %d, want %d, %d", p.p, id, code, want, wantCode)
	}
	if code != api.OK {
		if !same(next, api.Pool{}) {
			p.t.Errorf("Take of %v with the error %d returns the pool %v", p.p, code, next)
		}
		next = p.p
	}
	p.p = next
	p.check()
}

func (p *pair) free(id int, want bool) {
	p.t.Helper()
	if was := p.m.free(id); was != want {
		p.t.Fatalf("the table's Free of %d = %v", id, was)
	}
	next, was := ident.Free(p.p, id)
	if was != want {
		p.t.Errorf("Free of %d from %v = %v", id, p.p, was)
	}
	p.p = next
	p.check()
}

// check compares everything that can be seen. P13.4: the pool stays valid.
func (p *pair) check() {
	p.t.Helper()
	if !same(p.p, p.m.pool()) || ident.Check(p.p) != api.OK || ident.Left(p.p) != api.MaxWindow-len(p.m.used) {
		p.t.Fatalf("the pool is %v, Check = %d, Left = %d, want %v", p.p, ident.Check(p.p), ident.Left(p.p), p.m.pool())
	}
	for id := range p.m.used {
		for _, near := range []int{id - 1, id, id + 1} {
			if ident.Has(p.p, near) != p.m.used[near] {
				p.t.Fatalf("Has(%d) of %v = %v", near, p.p, !p.m.used[near])
			}
		}
	}
}

// P13.1 to P13.3, the examples
func TestExamples(t *testing.T) {
	p := newPair(t, api.Pool{})
	p.take(1, api.OK)
	p.take(2, api.OK)
	p.take(3, api.OK)
	p.free(2, true)
	p.take(4, api.OK)

	p = newPair(t, api.Pool{Used: []int{65535}, Last: 65534})
	p.take(1, api.OK)
	if p.p.Last != 1 {
		t.Errorf("Last = %d", p.p.Last)
	}
	newPair(t, api.Pool{Used: []int{1, 2, 4}, Last: 65535}).take(3, api.OK)
	newPair(t, api.Pool{Used: numbers(1, 32, 1)}).take(0, api.ErrFull)

	for _, x := range []struct {
		p    api.Pool
		code api.Errno
	}{
		{api.Pool{Used: []int{2, 1}}, api.ErrIdent}, {api.Pool{Used: []int{1, 1}}, api.ErrIdent},
		{api.Pool{Last: 65536}, api.ErrRange}, {api.Pool{Used: make([]int, 33)}, api.ErrTooLong},
	} {
		if code := ident.Check(x.p); code != x.code {
			t.Errorf("Check of %v = %d, want %d", x.p, code, x.code)
		}
	}
}

// P13.1: the errors in their order
func TestCheck(t *testing.T) {
	for _, x := range []struct {
		used []int
		last int
		code api.Errno
	}{
		{nil, 0, api.OK}, {[]int{}, 0, api.OK}, {nil, 1, api.OK}, {nil, api.MaxIdent, api.OK},
		{[]int{1}, 0, api.OK}, {[]int{api.MaxIdent}, 0, api.OK}, {[]int{1, api.MaxIdent}, 7, api.OK}, {[]int{6, 7, 8}, 7, api.OK}, {[]int{6, 8}, 7, api.OK},
		{numbers(1, api.MaxWindow, 1), api.MaxIdent, api.OK}, {numbers(api.MaxIdent-api.MaxWindow+1, api.MaxWindow, 1), 0, api.OK},
		{numbers(1, api.MaxWindow+1, 1), 0, api.ErrTooLong}, {numbers(1, 5000, 1), 0, api.ErrTooLong},
		{[]int{0}, 0, api.ErrIdent}, {[]int{-1}, 0, api.ErrIdent}, {[]int{math.MinInt}, 0, api.ErrIdent}, {[]int{api.MaxIdent + 1}, 0, api.ErrIdent}, {[]int{math.MaxInt}, 0, api.ErrIdent},
		{[]int{0, 1}, 0, api.ErrIdent}, {[]int{-1, 1}, 0, api.ErrIdent}, {[]int{1, 2, 2}, 0, api.ErrIdent}, {[]int{1, 3, 2}, 0, api.ErrIdent}, {[]int{3, 2}, 0, api.ErrIdent},
		{[]int{api.MaxIdent, api.MaxIdent + 1}, 0, api.ErrIdent}, {[]int{api.MaxIdent, api.MaxIdent}, 0, api.ErrIdent}, {numbers(api.MaxIdent-api.MaxWindow+2, api.MaxWindow, 1), 0, api.ErrIdent}, {numbers(0, api.MaxWindow, 1), 0, api.ErrIdent},
		{nil, -1, api.ErrRange}, {nil, api.MaxIdent + 1, api.ErrRange}, {nil, math.MinInt, api.ErrRange}, {nil, math.MaxInt, api.ErrRange}, {[]int{1, 2}, -1, api.ErrRange}, {numbers(1, api.MaxWindow, 1), api.MaxIdent + 1, api.ErrRange},
		{make([]int, api.MaxWindow+1), -1, api.ErrTooLong}, {numbers(1, api.MaxWindow+1, 1), -1, api.ErrTooLong}, {[]int{0}, -1, api.ErrIdent}, {[]int{2, 1}, api.MaxIdent + 1, api.ErrIdent}, // several
	} {
		if code := ident.Check(api.Pool{Used: x.used, Last: x.last}); code != x.code {
			t.Errorf("Check of %v, Last %d = %d, want %d", x.used, x.last, code, x.code)
		}
	}
}

// P13.2: the first identifier in the cyclic order that is not in use
func TestTake(t *testing.T) {
	for _, x := range []struct {
		used []int
		last int
		want int
	}{
		{nil, 0, 1}, {nil, 1, 2}, {nil, 300, 301}, {nil, api.MaxIdent - 1, api.MaxIdent}, {nil, api.MaxIdent, 1},
		{[]int{5}, 5, 6}, {[]int{6}, 5, 7}, {[]int{4}, 5, 6}, {[]int{1}, 0, 2}, {[]int{2}, 0, 1}, {[]int{6, 7, 9}, 5, 8}, {[]int{1, 2, 6, 7, 8}, 5, 9},
		{[]int{1}, api.MaxIdent, 2}, {[]int{api.MaxIdent}, api.MaxIdent, 1}, {[]int{1, api.MaxIdent}, api.MaxIdent - 1, 2}, {[]int{api.MaxIdent - 1, api.MaxIdent}, api.MaxIdent - 2, 1},
		{numbers(1, 31, 1), 0, 32}, {numbers(1, 31, 1), 31, 32}, {numbers(1, 31, 1), 15, 32}, {numbers(2, 31, 1), 0, 1}, {numbers(2, 31, 1), 1, 33}, {numbers(1, 31, 1), api.MaxIdent, 32}, {numbers(1, 31, 2), 0, 2}, {numbers(1, 31, 2), 1, 2}, {numbers(1, 31, 2), 60, 62},
		{numbers(api.MaxIdent-30, 31, 1), api.MaxIdent - 31, 1}, {numbers(api.MaxIdent-30, 31, 1), api.MaxIdent - 32, api.MaxIdent - 31}, {append(numbers(1, 15, 1), numbers(api.MaxIdent-15, 16, 1)...), api.MaxIdent - 16, 16},
	} {
		newPair(t, api.Pool{Used: x.used, Last: x.last}).take(x.want, api.OK)
	}
}

// P13.2: a pool with MaxWindow identifiers is full, until one of them is freed.
func TestTakeFull(t *testing.T) {
	p := newPair(t, api.Pool{Last: api.MaxIdent - 10})
	for i := 0; i < api.MaxWindow; i++ {
		p.take((api.MaxIdent-10+i)%api.MaxIdent+1, api.OK)
	}
	p.take(0, api.ErrFull)
	p.take(0, api.ErrFull)
	p.free(5, true)
	p.take(23, api.OK)
	p.take(0, api.ErrFull)
}

// P13.3: an identifier that is not in use is not freed, and the pool is returned as it is.
func TestFree(t *testing.T) {
	p := newPair(t, api.Pool{Used: []int{1, 4, 5, 9, api.MaxIdent}, Last: 9})
	for _, id := range []int{0, 2, 3, 6, 8, 10, api.MaxIdent - 1, api.MaxIdent + 1, -1, -4, math.MinInt, math.MaxInt} {
		p.free(id, false)
	}
	for _, id := range []int{5, 9, 1, api.MaxIdent, 4} {
		p.free(id, true)
		p.free(id, false)
	}
	if !same(p.p, api.Pool{Last: 9}) {
		t.Errorf("the pool is %v", p.p)
	}
	p.free(9, false)
	p.take(10, api.OK)
}

// P13.3
func TestHasAndLeft(t *testing.T) {
	p := api.Pool{Used: []int{2, 3, 700, api.MaxIdent}, Last: 5}
	for _, id := range []int{math.MinInt, -2, -1, 0, 1, 2, 3, 4, 5, 699, 700, 701, api.MaxIdent - 1, api.MaxIdent, api.MaxIdent + 1, math.MaxInt} {
		if got := ident.Has(p, id); got != slices.Contains(p.Used, id) {
			t.Errorf("Has(%d) = %v", id, got)
		}
	}
	for n := 0; n <= api.MaxWindow; n++ {
		if got := ident.Left(api.Pool{Used: numbers(3, n, 7), Last: 7}); got != api.MaxWindow-n {
			t.Errorf("Left of a pool with %d identifiers = %d", n, got)
		}
	}
}

// P13.4: MaxIdent - MaxWindow other identifiers are taken before one that was freed is taken again, also with so many in use that there is room for one only.
func TestTakeAgain(t *testing.T) {
	for _, first := range []int{1, 2, 40, 65000, api.MaxIdent - 31, api.MaxIdent} {
		used := numbers(first%60000+100, api.MaxWindow-1, 100)
		p := api.Pool{Used: used, Last: (first+api.MaxIdent-2)%api.MaxIdent + 1}
		if first == 1 {
			p.Last = 0
		}
		id, p, code := ident.Take(p)
		if id != first || code != api.OK {
			t.Fatalf("Take = %d, %d, want %d", id, code, first)
		}
		p, _ = ident.Free(p, id)
		for i := 0; i < api.MaxIdent-api.MaxWindow; i++ {
			id, p, _ = ident.Take(p)
			if id == first || slices.Contains(used, id) {
				t.Fatalf("Take %d after %d was freed = %d", i, first, id)
			}
			p, _ = ident.Free(p, id)
		}
		if id, _, _ = ident.Take(p); id != first {
			t.Errorf("the next Take = %d, want %d", id, first)
		}
	}
}

// P13.1 to P13.4: calls in no particular order
func TestCalls(t *testing.T) {
	r := rand.New(rand.NewSource(13))
	for range 200 {
		p := newPair(t, api.Pool{Last: []int{0, 1, 100, api.MaxIdent - 5, api.MaxIdent}[r.Intn(5)]})
		for range 100 {
			switch used := p.m.pool().Used; {
			case r.Intn(3) > 0:
				id, code := newTable(p.m.pool()).take()
				p.take(id, code)
			case r.Intn(4) == 0 || len(used) == 0:
				id := r.Intn(100) - 5
				p.free(id, p.m.used[id])
			default:
				p.free(used[r.Intn(len(used))], true)
			}
		}
	}
}

// R5: pools share no memory, including what lies behind the ends of slices.
func TestMemory(t *testing.T) {
	back := append(make([]int, 0, 40), 2, 4, 6, 90, 91, 92)
	p := api.Pool{Used: back[:3], Last: 6}
	spoil := func(q api.Pool) {
		for i, l := 0, q.Used[:cap(q.Used)]; i < len(l); i++ {
			l[i] = -1
		}
	}
	_, q, _ := ident.Take(p)
	spoil(q)
	q, _ = ident.Free(p, 4)
	spoil(q)
	q, _ = ident.Free(p, 5)
	spoil(q)
	q, _ = ident.Free(p, 6)
	spoil(q)
	if !slices.Equal(back, []int{2, 4, 6, 90, 91, 92}) || ident.Left(p) != api.MaxWindow-3 || !ident.Has(p, 4) || ident.Has(p, 5) {
		t.Errorf("the pool has become %v", back)
	}
}

// R1: nothing is promised for invalid pools but an end.
func TestInvalidPools(t *testing.T) {
	for _, used := range [][]int{nil, {0}, {3, 2, 1}, {1, 1}, {-5, math.MinInt, math.MaxInt}, make([]int, 5000), numbers(1, 100, 1), numbers(5000, 31, -1)} {
		for _, last := range []int{0, -1, math.MinInt, math.MaxInt, api.MaxIdent + 1} {
			p := api.Pool{Used: used, Last: last}
			ident.Take(p)
			ident.Left(p)
			for _, id := range []int{0, 1, 2, 3, -5, math.MinInt, math.MaxInt} {
				ident.Free(p, id)
				ident.Has(p, id)
			}
		}
	}
}
