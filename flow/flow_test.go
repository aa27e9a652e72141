package flow_test

import (
	"math"
	"math/rand"
	"slices"
	"testing"

	"broker/api"
	"broker/flow"
)

// credits returns unused credits with these maxima.
func credits(l ...int) []api.Credit {
	var out []api.Credit
	for _, n := range l {
		out = append(out, api.Credit{Max: n})
	}
	return out
}

// order returns the cyclic order after last of a list with n elements.
func order(n, last int) []int {
	var before, after []int
	for i := range n {
		if last >= 0 && last < n && i <= last {
			before = append(before, i)
		} else {
			after = append(after, i)
		}
	}
	return append(after, before...)
}

// next is Next as the chapter defines it.
func next(l []api.Credit, last int) (int, bool) {
	for _, i := range order(len(l), last) {
		if l[i].Used < l[i].Max {
			return i, true
		}
	}
	return 0, false
}

// round is Round as the chapter defines it.
func round(l []api.Credit, last, n int) ([]int, int) {
	l = slices.Clone(l)
	units := make([]int, len(l))
	for given := 0; given < n && given < 1024; given++ {
		i, ok := next(l, last)
		if !ok {
			return units, last
		}
		l[i].Used++
		units[i]++
		last = i
	}
	return units, last
}

// checkNext compares Next with its definition, and with the index that is expected, -1 for none.
func checkNext(t *testing.T, l []api.Credit, last, want int) {
	t.Helper()
	index, ok := next(l, last)
	if ok != (want >= 0) || ok && index != want {
		t.Fatalf("the definition's Next of %v after %d = %d, %v, want %d", l, last, index, ok, want)
	}
	if got, found := flow.Next(l, last); got != index || found != ok {
		t.Errorf("Next of %v after %d = %d, %v, want %d, %v", l, last, got, found, index, ok)
	}
}

// checkRound compares Round with its definition, and checks P16.6.
func checkRound(t *testing.T, l []api.Credit, last, n int) ([]int, int) {
	t.Helper()
	units, end := flow.Round(l, last, n)
	if want, wantEnd := round(l, last, n); !slices.Equal(units, want) || end != wantEnd {
		t.Fatalf("Round of %v after %d with %d = %v, %d, want %v, %d", l, last, n, units, end, want, wantEnd)
	}
	for i := range l {
		if units[i] > flow.Left(l[i]) {
			t.Fatalf("Round of %v after %d with %d = %v: %d received more than what was left to it", l, last, n, units, i)
		}
		if units[i] == flow.Left(l[i]) {
			continue
		}
		for j := range l {
			if units[j] > units[i]+1 {
				t.Fatalf("Round of %v after %d with %d = %v: %d has credit left, and %d received more than one unit more", l, last, n, units, i, j)
			}
		}
	}
	return units, end
}

// P16.1 to P16.5, the examples
func TestExamples(t *testing.T) {
	c, ok := flow.Take(api.Credit{Max: 2, Used: 1})
	if c != (api.Credit{Max: 2, Used: 2}) || !ok {
		t.Errorf("Take = %v, %v", c, ok)
	}
	if c, ok = flow.Take(c); c != (api.Credit{Max: 2, Used: 2}) || ok {
		t.Errorf("Take without credit = %v, %v", c, ok)
	}
	if got := flow.Give(api.Credit{Max: 2}); got != (api.Credit{Max: 2}) {
		t.Errorf("Give of an unused credit = %v", got)
	}
	if c = flow.Limit(c, 1); c != (api.Credit{Max: 1, Used: 2}) || flow.Left(c) != 0 {
		t.Errorf("Limit = %v, Left of it %d", c, flow.Left(c))
	}
	if got := flow.Give(c); got != (api.Credit{Max: 1, Used: 1}) {
		t.Errorf("Give = %v", got)
	}

	l := credits(1, 0, 1)
	checkNext(t, l, 0, 2)
	checkNext(t, l, 2, 0)
	checkNext(t, l, 7, 0)

	l = credits(3, 1, 5)
	if units, last := checkRound(t, l, 0, 6); !slices.Equal(units, []int{2, 1, 3}) || last != 2 {
		t.Errorf("Round with 6 = %v, %d", units, last)
	}
	if units, last := checkRound(t, l, 0, 100); !slices.Equal(units, []int{3, 1, 5}) || last != 2 {
		t.Errorf("Round with 100 = %v, %d", units, last)
	}
	for _, last := range []int{0, 4, -3} {
		if units, end := checkRound(t, nil, last, 5); len(units) != 0 || end != last {
			t.Errorf("Round of no credits after %d = %v, %d", last, units, end)
		}
	}
}

// P16.1 to P16.3: credits of any kind, with the edges
func TestCredit(t *testing.T) {
	for _, x := range []struct {
		max, used int
		left      int
		take      int // Used after Take
		give      int // Used after Give
	}{
		{0, 0, 0, 0, 0}, {1, 0, 1, 1, 0}, {1, 1, 0, 1, 0}, {0, 1, 0, 1, 0}, {2, 1, 1, 2, 0}, {2, 2, 0, 2, 1}, {2, 3, 0, 3, 2}, {2, 9, 0, 9, 8}, {9, 2, 7, 3, 1}, {0, 9, 0, 9, 8},
		{api.MaxNumber, 0, api.MaxNumber, 1, 0}, {api.MaxNumber, api.MaxNumber - 1, 1, api.MaxNumber, api.MaxNumber - 2}, {api.MaxNumber, api.MaxNumber, 0, api.MaxNumber, api.MaxNumber - 1},
		{0, api.MaxNumber, 0, api.MaxNumber, api.MaxNumber - 1}, {api.MaxNumber - 1, api.MaxNumber, 0, api.MaxNumber, api.MaxNumber - 1},
	} {
		c := api.Credit{Max: x.max, Used: x.used}
		if got := flow.Left(c); got != x.left {
			t.Errorf("Left of %v = %d, want %d", c, got, x.left)
		}
		if got, ok := flow.Take(c); got != (api.Credit{Max: x.max, Used: x.take}) || ok != (x.left > 0) {
			t.Errorf("Take of %v = %v, %v, want Used %d", c, got, ok, x.take)
		}
		if got := flow.Give(c); got != (api.Credit{Max: x.max, Used: x.give}) {
			t.Errorf("Give of %v = %v, want Used %d", c, got, x.give)
		}
	}
}

// P16.2: a credit is used up unit by unit, and given back unit by unit.
func TestTakeGive(t *testing.T) {
	c := api.Credit{Max: 5}
	for i := range 8 {
		got, ok := flow.Take(c)
		if ok != (i < 5) || got != (api.Credit{Max: 5, Used: min(i+1, 5)}) {
			t.Fatalf("Take of %v = %v, %v", c, got, ok)
		}
		c = got
	}
	for i := range 8 {
		got := flow.Give(c)
		if got != (api.Credit{Max: 5, Used: max(4-i, 0)}) {
			t.Fatalf("Give of %v = %v", c, got)
		}
		c = got
	}
}

// P16.3: the maximum is held between 0 and MaxNumber, and what was used stays used.
func TestLimit(t *testing.T) {
	for _, x := range []struct{ n, max int }{
		{0, 0}, {1, 1}, {2, 2}, {3, 3}, {9, 9}, {-1, 0}, {-9, 0}, {math.MinInt, 0}, {math.MaxInt, api.MaxNumber},
		{api.MaxNumber - 1, api.MaxNumber - 1}, {api.MaxNumber, api.MaxNumber}, {api.MaxNumber + 1, api.MaxNumber},
	} {
		for _, c := range []api.Credit{{}, {Max: 2, Used: 2}, {Max: 7, Used: 1}, {Max: api.MaxNumber, Used: api.MaxNumber}} {
			if got := flow.Limit(c, x.n); got != (api.Credit{Max: x.max, Used: c.Used}) {
				t.Errorf("Limit of %v to %d = %v", c, x.n, got)
			}
		}
	}
}

// P16.6: Take followed by Give, and Give followed by Take if something was used and no more than the maximum, return the credit as it was.
func TestTakeAndGiveUndo(t *testing.T) {
	for _, n := range []int{0, 1, 2, 3, 9, api.MaxNumber - 1, api.MaxNumber} {
		for _, used := range []int{0, 1, 2, 3, 4, 9, 10, api.MaxNumber - 1, api.MaxNumber} {
			c := api.Credit{Max: n, Used: used}
			if taken, ok := flow.Take(c); ok && flow.Give(taken) != c {
				t.Errorf("Give of Take of %v = %v", c, flow.Give(taken))
			}
			if used < 1 || used > n {
				continue
			}
			if got, ok := flow.Take(flow.Give(c)); got != c || !ok {
				t.Errorf("Take of Give of %v = %v, %v", c, got, ok)
			}
		}
	}
}

// P16.4: the first one in the cyclic order that has credit
func TestNext(t *testing.T) {
	all, some, none := credits(1, 1, 1, 1), credits(0, 5, 0, 0, 2, 0), credits(0, 0, 0)
	for _, x := range []struct {
		l          []api.Credit
		last, want int
	}{
		{all, 0, 1}, {all, 1, 2}, {all, 2, 3}, {all, 3, 0}, {all, 4, 0}, {all, 5, 0}, {all, -1, 0}, {all, -2, 0}, {all, math.MaxInt, 0}, {all, math.MinInt, 0},
		{some, 0, 1}, {some, 1, 4}, {some, 2, 4}, {some, 3, 4}, {some, 4, 1}, {some, 5, 1}, {some, 6, 1}, {some, -1, 1}, {some, 100, 1},
		{none, 0, -1}, {none, 1, -1}, {none, 2, -1}, {none, 3, -1}, {none, -1, -1}, {nil, 0, -1}, {nil, -1, -1}, {nil, 1, -1}, {[]api.Credit{}, 0, -1},
		{credits(1), 0, 0}, {credits(1), 1, 0}, {credits(1), -1, 0}, {credits(0), 0, -1}, {credits(0, 1), 1, 1}, {credits(1, 0), 0, 0},
		{[]api.Credit{{Max: 2, Used: 2}, {Max: 2, Used: 3}, {Max: 3, Used: 2}, {Max: 0, Used: 1}}, 0, 2}, {[]api.Credit{{Max: 2, Used: 2}, {Max: 2, Used: 3}, {Max: 3, Used: 2}, {Max: 0, Used: 1}}, 2, 2},
		{[]api.Credit{{Max: 1, Used: 9}, {Max: api.MaxNumber, Used: api.MaxNumber}}, 0, -1}, {[]api.Credit{{Max: 1, Used: 9}, {Max: api.MaxNumber, Used: api.MaxNumber - 1}}, 1, 1},
	} {
		checkNext(t, x.l, x.last, x.want)
	}
}

// P16.5: the units go round, beginning after last.
func TestRound(t *testing.T) {
	wide := credits(9, 9, 9, 9)
	mixed := []api.Credit{{Max: 2, Used: 1}, {Max: 1, Used: 3}, {Max: 9, Used: 5}, {}}
	for _, x := range []struct {
		l       []api.Credit
		last, n int
		units   []int
		end     int
	}{
		{wide, 3, 1, []int{1, 0, 0, 0}, 0}, {wide, 0, 1, []int{0, 1, 0, 0}, 1}, {wide, 2, 2, []int{1, 0, 0, 1}, 0}, {wide, 1, 4, []int{1, 1, 1, 1}, 1}, {wide, 1, 6, []int{1, 1, 2, 2}, 3}, {wide, 0, 35, []int{8, 9, 9, 9}, 3}, {wide, 0, 36, []int{9, 9, 9, 9}, 0}, {wide, 0, 37, []int{9, 9, 9, 9}, 0},
		{wide, 4, 1, []int{1, 0, 0, 0}, 0}, {wide, 9, 5, []int{2, 1, 1, 1}, 0}, {wide, -1, 3, []int{1, 1, 1, 0}, 2}, {wide, math.MaxInt, 3, []int{1, 1, 1, 0}, 2}, {wide, math.MinInt, 1, []int{1, 0, 0, 0}, 0},
		{mixed, 0, 2, []int{1, 0, 1, 0}, 0}, {mixed, 0, 3, []int{1, 0, 2, 0}, 2}, {mixed, 3, 99, []int{1, 0, 4, 0}, 2}, {mixed, 2, 1, []int{1, 0, 0, 0}, 0}, {mixed, 1, 1, []int{0, 0, 1, 0}, 2},
		{credits(3), 0, 2, []int{2}, 0}, {credits(3), 7, 9, []int{3}, 0}, {credits(api.MaxNumber), -5, 1, []int{1}, 0},
	} {
		if units, end := checkRound(t, x.l, x.last, x.n); !slices.Equal(units, x.units) || end != x.end {
			t.Errorf("Round of %v after %d with %d = %v, %d, want %v, %d", x.l, x.last, x.n, units, end, x.units, x.end)
		}
	}
}

// P16.5: with nothing to distribute, and with nobody who has credit, nothing is distributed; the numbers are as many as the elements, and last stays what it was.
func TestRoundNothing(t *testing.T) {
	for _, last := range []int{0, 1, 2, 3, -1, 70, math.MinInt, math.MaxInt} {
		for _, n := range []int{0, -1, -7, math.MinInt} {
			if units, end := checkRound(t, credits(4, 5, 6), last, n); !slices.Equal(units, []int{0, 0, 0}) || end != last {
				t.Errorf("Round after %d with %d = %v, %d", last, n, units, end)
			}
		}
		for _, n := range []int{0, 1, 9, 5000, math.MaxInt} {
			for _, l := range [][]api.Credit{nil, {}, credits(0), credits(0, 0), {{Max: 1, Used: 1}, {Max: 1, Used: 2}, {}}} {
				if units, end := checkRound(t, l, last, n); !slices.Equal(units, make([]int, len(l))) || end != last {
					t.Errorf("Round of %v after %d with %d = %v, %d", l, last, n, units, end)
				}
			}
		}
	}
}

// P16.5: at most 1024 units are distributed.
func TestRoundMost(t *testing.T) {
	for _, n := range []int{1023, 1024, 1025, 2000, math.MaxInt} {
		want := min(n, 1024)
		if units, end := checkRound(t, credits(api.MaxNumber), 0, n); units[0] != want || end != 0 {
			t.Errorf("Round with %d = %v, %d", n, units, end)
		}
		if units, end := checkRound(t, credits(5000, 5000), 1, n); units[0] != want-want/2 || units[1] != want/2 || end != (want+1)%2 {
			t.Errorf("Round of two with %d = %v, %d", n, units, end)
		}
	}
	units, end := checkRound(t, slices.Repeat(credits(1), 3000), 2500, math.MaxInt)
	if sum := slices.Index(units[2501:], 0); sum != -1 || slices.Index(units, 0) != 1024-499 || end != 1024-500 {
		t.Errorf("Round of 3000: %d, %d", sum, end)
	}
}

// P16.5: what two rounds distribute, one after the other, is what one distributes at once.
func TestRoundGoesOn(t *testing.T) {
	l := []api.Credit{{Max: 4}, {Max: 9, Used: 7}, {Max: 1, Used: 1}, {Max: 20}, {Max: 3, Used: 5}}
	for first := range 30 {
		for second := range 30 {
			units, last := checkRound(t, l, 1, first)
			rest := slices.Clone(l)
			for i := range rest {
				rest[i].Used += units[i]
			}
			more, end := checkRound(t, rest, last, second)
			all, wantEnd := checkRound(t, l, 1, first+second)
			for i := range all {
				if units[i]+more[i] != all[i] {
					t.Errorf("Round with %d and %d = %v and %v, at once %v", first, second, units, more, all)
				}
			}
			if end != wantEnd {
				t.Errorf("Round with %d and %d ends at %d, at once at %d", first, second, end, wantEnd)
			}
		}
	}
}

// P16.1 to P16.6: calls in no particular order
func TestCalls(t *testing.T) {
	r := rand.New(rand.NewSource(16))
	for range 3000 {
		l := make([]api.Credit, r.Intn(7))
		for i := range l {
			l[i] = api.Credit{Max: r.Intn(6), Used: r.Intn(6)}
			if r.Intn(3) == 0 {
				l[i].Used = 0
			}
		}
		last := r.Intn(12) - 3
		checkRound(t, l, last, r.Intn(30)-2)
		index, ok := next(l, last)
		if !ok {
			index = -1
		}
		checkNext(t, l, last, index)
	}
}

// R5: no list is modified or kept.
func TestMemory(t *testing.T) {
	back := append(make([]api.Credit, 0, 20), credits(3, 1, 5, 7, 7)...)
	l := back[:3]
	flow.Next(l, 0)
	first, _ := flow.Round(l, 0, 6)
	second, _ := flow.Round(l, 0, 6)
	for i, u := 0, first[:cap(first)]; i < len(u); i++ {
		u[i] = -1
	}
	if !slices.Equal(second, []int{2, 1, 3}) || !slices.Equal(back, credits(3, 1, 5, 7, 7)) {
		t.Errorf("Round = %v, the list is %v", second, back)
	}
}

// R1: nothing is promised for invalid credits but an end.
func TestInvalidCredits(t *testing.T) {
	numbers := []int{0, 1, -1, api.MaxNumber, api.MaxNumber + 1, math.MinInt, math.MaxInt}
	var l []api.Credit
	for _, n := range numbers {
		for _, used := range numbers {
			c := api.Credit{Max: n, Used: used}
			flow.Take(c)
			flow.Give(c)
			flow.Left(c)
			l = append(l, c)
			for _, max := range numbers {
				flow.Limit(c, max)
			}
		}
	}
	for _, last := range numbers {
		flow.Next(l, last)
		for _, n := range numbers {
			flow.Round(l, last, n)
		}
	}
}
