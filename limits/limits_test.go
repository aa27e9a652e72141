package limits_test

import (
	"math"
	"math/big"
	"math/rand"
	"testing"

	"broker/api"
	"broker/limits"
)

// edges are numbers at and around the bounds of what buckets, quotas and instants may have, and the extreme ones.
var edges = []int{math.MinInt, -api.MaxNumber, -1, 0, 1, 2, api.MaxNumber - 1, api.MaxNumber, api.MaxNumber + 1, math.MaxInt - 1, math.MaxInt}

// bucket returns a bucket of these four numbers.
func bucket(rate, burst, level, last int) api.Bucket {
	return api.Bucket{Rate: rate, Burst: burst, Level: level, Last: last}
}

// quota returns a quota of these four numbers.
func quota(messages, bytes, usedMessages, usedBytes int) api.Quota {
	return api.Quota{Messages: messages, Bytes: bytes, UsedMessages: usedMessages, UsedBytes: usedBytes}
}

// tokens are the tokens of a bucket at an instant, as the chapter defines them.
func tokens(b api.Bucket, now int) int {
	if now <= b.Last {
		return b.Level
	}
	n := new(big.Int).Mul(big.NewInt(int64(b.Rate)), big.NewInt(int64(now-b.Last)))
	n.Add(n, big.NewInt(int64(b.Level)))
	if n.Cmp(big.NewInt(int64(b.Burst))) > 0 {
		return b.Burst
	}
	return int(n.Int64())
}

// someBuckets calls f with every bucket of small numbers.
func someBuckets(f func(b api.Bucket)) {
	for rate := range 4 {
		for burst := range 6 {
			for level := range burst + 1 {
				for last := range 3 {
					f(bucket(rate, burst, level, last))
				}
			}
		}
	}
}

// anyNumber returns a number from 0 to limit, often one near the ends or a small one.
func anyNumber(r *rand.Rand, limit int) int {
	switch r.Intn(4) {
	case 0:
		return min(limit, r.Intn(4))
	case 1:
		return max(0, limit-r.Intn(4))
	case 2:
		return min(limit, r.Intn(1<<r.Intn(41)))
	}
	return r.Intn(limit + 1)
}

// anyBucket returns a valid bucket.
func anyBucket(r *rand.Rand) api.Bucket {
	burst := anyNumber(r, api.MaxNumber)
	return bucket(anyNumber(r, api.MaxNumber), burst, anyNumber(r, burst), anyNumber(r, api.MaxTick))
}

// P21.1
func TestCheck(t *testing.T) {
	for _, c := range []struct {
		b    api.Bucket
		want api.Errno
	}{
		{api.Bucket{}, api.OK},
		{bucket(1, 5, 0, 0), api.OK},
		{bucket(api.MaxNumber, api.MaxNumber, api.MaxNumber, api.MaxTick), api.OK},
		{bucket(-1, 5, 0, 0), api.ErrRange},
		{bucket(api.MaxNumber+1, 5, 0, 0), api.ErrRange},
		{bucket(1, -1, 0, 0), api.ErrRange},
		{bucket(1, -1, -1, 0), api.ErrRange},
		{bucket(1, api.MaxNumber+1, 0, 0), api.ErrRange},
		{bucket(1, 5, -1, 0), api.ErrRange},
		{bucket(1, 5, 5, 0), api.OK},
		{bucket(1, 5, 6, 0), api.ErrRange},
		{bucket(1, 0, 0, 0), api.OK},
		{bucket(1, 0, 1, 0), api.ErrRange},
		{bucket(1, 5, 0, -1), api.ErrRange},
		{bucket(1, 5, 0, api.MaxTick), api.OK},
		{bucket(1, 5, 0, api.MaxTick+1), api.ErrRange},
	} {
		if got := limits.Check(c.b); got != c.want {
			t.Errorf("Check(%v) = %v, want %v", c.b, got, c.want)
		}
	}
}

// P21.1, all numbers at the bounds
func TestCheckEdges(t *testing.T) {
	for _, rate := range edges {
		for _, burst := range edges {
			for _, level := range edges {
				for _, last := range edges {
					b := bucket(rate, burst, level, last)
					want := api.ErrRange
					if 0 <= rate && rate <= 1<<40 && 0 <= burst && burst <= 1<<40 && 0 <= level && level <= burst && 0 <= last && last <= 1<<40 {
						want = api.OK
					}
					if got := limits.Check(b); got != want {
						t.Fatalf("Check(%v) = %v, want %v", b, got, want)
					}
				}
			}
		}
	}
}

// P21.2, the chapter's examples and edges
func TestRefill(t *testing.T) {
	for _, c := range []struct {
		b    api.Bucket
		now  int
		want api.Bucket
	}{
		{bucket(1, 5, 0, 0), 3, bucket(1, 5, 3, 3)},
		{bucket(1, 5, 0, 0), 5, bucket(1, 5, 5, 5)},
		{bucket(1, 5, 0, 0), 9, bucket(1, 5, 5, 9)},
		{bucket(1, 5, 0, 0), 0, bucket(1, 5, 0, 0)},
		{bucket(1<<40, 1<<40, 0, 0), 1 << 40, bucket(1<<40, 1<<40, 1<<40, 1<<40)},
		{bucket(1<<40, 1<<40, 0, 0), 1, bucket(1<<40, 1<<40, 1<<40, 1)},
		{bucket(1<<24, 1<<40, 0, 0), 1 << 40, bucket(1<<24, 1<<40, 1<<40, 1<<40)},
		{bucket(1, 1<<40, 0, 0), 1 << 40, bucket(1, 1<<40, 1<<40, 1<<40)},
		{bucket(1, 1<<40, 0, 0), 1<<40 - 1, bucket(1, 1<<40, 1<<40-1, 1<<40-1)},
		{bucket(2, 9, 1, 10), 4, bucket(2, 9, 1, 10)},
		{bucket(2, 9, 1, 10), 10, bucket(2, 9, 1, 10)},
		{bucket(2, 9, 1, 10), 13, bucket(2, 9, 7, 13)},
		{bucket(2, 9, 1, 10), 14, bucket(2, 9, 9, 14)},
		{bucket(3, 9, 1, 10), 12, bucket(3, 9, 7, 12)},
		{bucket(3, 9, 1, 10), 13, bucket(3, 9, 9, 13)},
		{bucket(0, 5, 2, 0), 1 << 40, bucket(0, 5, 2, 1<<40)},
		{bucket(5, 0, 0, 0), 7, bucket(5, 0, 0, 7)},
		{bucket(5, 8, 8, 0), 7, bucket(5, 8, 8, 7)},
	} {
		if got := limits.Refill(c.b, c.now); got != c.want {
			t.Errorf("Refill(%v, %d) = %v, want %v", c.b, c.now, got, c.want)
		}
	}
}

// P21.2, the chapter's examples and edges
func TestTake(t *testing.T) {
	for _, c := range []struct {
		b      api.Bucket
		now, n int
		want   api.Bucket
		ok     bool
	}{
		{bucket(1, 5, 0, 0), 3, 3, bucket(1, 5, 0, 3), true},
		{bucket(1, 5, 0, 0), 3, 4, bucket(1, 5, 3, 3), false},
		{bucket(1, 5, 0, 0), 3, 1, bucket(1, 5, 2, 3), true},
		{bucket(1, 5, 0, 0), 3, 0, bucket(1, 5, 3, 3), true},
		{bucket(1, 5, 0, 0), 3, -1, bucket(1, 5, 3, 3), false},
		{bucket(1, 5, 0, 0), 3, math.MinInt, bucket(1, 5, 3, 3), false},
		{bucket(1, 5, 0, 0), 3, math.MaxInt, bucket(1, 5, 3, 3), false},
		{bucket(1, 5, 0, 0), 9, 5, bucket(1, 5, 0, 9), true},
		{bucket(1, 5, 0, 0), 9, 6, bucket(1, 5, 5, 9), false},
		{bucket(2, 9, 1, 10), 4, 1, bucket(2, 9, 0, 10), true},
		{bucket(2, 9, 1, 10), 4, 2, bucket(2, 9, 1, 10), false},
		{bucket(0, 0, 0, 0), 4, 0, bucket(0, 0, 0, 4), true},
		{bucket(0, 0, 0, 0), 4, 1, bucket(0, 0, 0, 4), false},
		{bucket(1<<40, 1<<40, 0, 0), 1 << 40, 1 << 40, bucket(1<<40, 1<<40, 0, 1<<40), true},
	} {
		if got, ok := limits.Take(c.b, c.now, c.n); got != c.want || ok != c.ok {
			t.Errorf("Take(%v, %d, %d) = %v, %v, want %v, %v", c.b, c.now, c.n, got, ok, c.want, c.ok)
		}
	}
}

// P21.3, the chapter's examples and edges
func TestWait(t *testing.T) {
	for _, c := range []struct {
		b      api.Bucket
		now, n int
		want   int
		ok     bool
	}{
		{bucket(1, 5, 0, 0), 0, 4, 4, true},
		{bucket(1, 5, 0, 0), 0, 5, 5, true},
		{bucket(1, 5, 0, 0), 0, 6, 0, false},
		{bucket(1, 5, 0, 0), 3, 4, 4, true},
		{bucket(1, 5, 0, 0), 4, 4, 4, true},
		{bucket(1, 5, 0, 0), 7, 4, 7, true},
		{bucket(1, 5, 0, 0), 7, 6, 0, false},
		{bucket(1, 5, 0, 0), 7, 0, 7, true},
		{bucket(1, 5, 0, 0), 7, -1, 7, true},
		{bucket(1, 5, 0, 0), 7, math.MinInt, 7, true},
		{bucket(1, 5, 0, 0), 7, math.MaxInt, 0, false},
		{bucket(2, 9, 1, 10), 4, 2, 11, true},
		{bucket(2, 9, 1, 10), 4, 1, 4, true},
		{bucket(2, 9, 1, 10), 10, 3, 11, true},
		{bucket(2, 9, 1, 10), 10, 4, 12, true},
		{bucket(0, 5, 2, 0), 0, 3, 0, false},
		{bucket(0, 5, 2, 0), 6, 2, 6, true},
		{bucket(0, 0, 0, 0), 6, 0, 6, true},
		{bucket(0, 0, 0, 0), 6, 1, 0, false},
		{bucket(1, 5, 0, api.MaxTick-3), 0, 3, api.MaxTick, true},
		{bucket(1, 5, 0, api.MaxTick-3), 0, 4, 0, false},
		{bucket(1, 5, 2, api.MaxTick), api.MaxTick, 2, api.MaxTick, true},
		{bucket(1, 5, 2, api.MaxTick), api.MaxTick, 3, 0, false},
		{bucket(1, 5, 2, api.MaxTick), 0, 2, 0, true},
		{bucket(1, 1<<40, 0, 0), 0, 1 << 40, 1 << 40, true},
		{bucket(1, 1<<40, 0, 1), 0, 1 << 40, 0, false},
		{bucket(1<<40, 1<<40, 0, 0), 0, 1 << 40, 1, true},
	} {
		if got, ok := limits.Wait(c.b, c.now, c.n); got != c.want || ok != c.ok {
			t.Errorf("Wait(%v, %d, %d) = %d, %v, want %d, %v", c.b, c.now, c.n, got, ok, c.want, c.ok)
		}
	}
}

// P21.2 and P21.3, all small buckets, instants and numbers of tokens
func TestSmallBuckets(t *testing.T) {
	someBuckets(func(b api.Bucket) {
		if code := limits.Check(b); code != api.OK {
			t.Fatalf("Check(%v) = %v", b, code)
		}
		for now := range 12 {
			checkRefill(t, b, now)
			for n := -2; n < 8; n++ {
				checkTake(t, b, now, n)
				checkWaitBySteps(t, b, now, n)
			}
		}
	})
}

// P21.2 and P21.3, buckets of any numbers
func TestAnyBuckets(t *testing.T) {
	r := rand.New(rand.NewSource(21))
	for range 50000 {
		b, now := anyBucket(r), anyNumber(r, api.MaxTick)
		checkRefill(t, b, now)
		for _, n := range []int{anyNumber(r, api.MaxNumber), -anyNumber(r, api.MaxNumber), tokens(b, now) + r.Intn(3) - 1, b.Burst + r.Intn(3) - 1} {
			checkTake(t, b, now, n)
			checkWait(t, b, now, n)
		}
	}
}

// checkRefill compares Refill with its definition.
func checkRefill(t *testing.T, b api.Bucket, now int) {
	t.Helper()
	want := b
	want.Level, want.Last = tokens(b, now), max(b.Last, now)
	if got := limits.Refill(b, now); got != want {
		t.Fatalf("Refill(%v, %d) = %v, want %v", b, now, got, want)
	}
}

// checkTake compares Take with its definition.
func checkTake(t *testing.T, b api.Bucket, now, n int) {
	t.Helper()
	want := b
	want.Level, want.Last = tokens(b, now), max(b.Last, now)
	enough := n >= 0 && want.Level >= n
	if enough {
		want.Level -= n
	}
	if got, ok := limits.Take(b, now, n); got != want || ok != enough {
		t.Fatalf("Take(%v, %d, %d) = %v, %v, want %v, %v", b, now, n, got, ok, want, enough)
	}
}

// checkWaitBySteps compares Wait with a search that tries one instant after the other; later ones do not matter here.
func checkWaitBySteps(t *testing.T, b api.Bucket, now, n int) {
	t.Helper()
	want, found := 0, false
	for at := now; at < now+30 && !found; at++ {
		if tokens(b, at) >= n {
			want, found = at, true
		}
	}
	if got, ok := limits.Wait(b, now, n); got != want || ok != found {
		t.Fatalf("Wait(%v, %d, %d) = %d, %v, want %d, %v", b, now, n, got, ok, want, found)
	}
}

// checkWait checks that there are n tokens at the instant that Wait returns and not before it, or not at any instant.
func checkWait(t *testing.T, b api.Bucket, now, n int) {
	t.Helper()
	at, ok := limits.Wait(b, now, n)
	if !ok {
		if at != 0 || tokens(b, api.MaxTick) >= n {
			t.Fatalf("Wait(%v, %d, %d) = %d, false", b, now, n, at)
		}
		return
	}
	if at < now || at > api.MaxTick || tokens(b, at) < n || at > now && tokens(b, at-1) >= n {
		t.Fatalf("Wait(%v, %d, %d) = %d, true", b, now, n, at)
	}
}

// P21.4, the chapter's examples and edges
func TestCharge(t *testing.T) {
	for _, c := range []struct {
		q     api.Quota
		bytes int
		want  api.Quota
		code  api.Errno
	}{
		{quota(2, 10, 1, 7), 3, quota(2, 10, 2, 10), api.OK},
		{quota(2, 10, 1, 7), 4, api.Quota{}, api.ErrQuota},
		{quota(2, 10, 1, 7), -1, api.Quota{}, api.ErrRange},
		{quota(2, 10, 1, 7), 0, quota(2, 10, 2, 7), api.OK},
		{quota(2, 10, 2, 7), 0, api.Quota{}, api.ErrQuota},
		{quota(2, 10, 3, 7), 0, api.Quota{}, api.ErrQuota},
		{quota(2, 10, 3, 7), -1, api.Quota{}, api.ErrRange},
		{quota(2, 10, 1, 10), 0, quota(2, 10, 2, 10), api.OK},
		{quota(2, 10, 1, 10), 1, api.Quota{}, api.ErrQuota},
		{quota(2, 10, 1, 11), 0, api.Quota{}, api.ErrQuota},
		{quota(2, 10, 1, 7), math.MaxInt, api.Quota{}, api.ErrQuota},
		{quota(2, 10, 1, 1<<40), math.MaxInt, api.Quota{}, api.ErrQuota},
		{quota(2, 10, 1, 7), math.MinInt, api.Quota{}, api.ErrRange},
		{quota(0, 0, 0, 0), 0, api.Quota{}, api.ErrQuota},
		{quota(1, 0, 0, 0), 0, quota(1, 0, 1, 0), api.OK},
		{quota(1<<40, 1<<40, 1<<40-1, 0), 1 << 40, quota(1<<40, 1<<40, 1<<40, 1<<40), api.OK},
		{quota(1<<40, 1<<40, 1<<40-1, 1), 1 << 40, api.Quota{}, api.ErrQuota},
		{quota(1<<40, 1<<40, 1<<40, 0), 1, api.Quota{}, api.ErrQuota},
	} {
		if got, code := limits.Charge(c.q, c.bytes); got != c.want || code != c.code {
			t.Errorf("Charge(%v, %d) = %v, %v, want %v, %v", c.q, c.bytes, got, code, c.want, c.code)
		}
	}
}

// P21.4, the chapter's examples and edges
func TestRefund(t *testing.T) {
	for _, c := range []struct {
		q     api.Quota
		bytes int
		want  api.Quota
		code  api.Errno
	}{
		{quota(2, 10, 1, 7), 7, quota(2, 10, 0, 0), api.OK},
		{quota(2, 10, 1, 7), 8, api.Quota{}, api.ErrState},
		{quota(2, 10, 1, 7), 6, quota(2, 10, 0, 1), api.OK},
		{quota(2, 10, 1, 7), 0, quota(2, 10, 0, 7), api.OK},
		{quota(2, 10, 1, 7), -1, api.Quota{}, api.ErrRange},
		{quota(2, 10, 0, 7), -1, api.Quota{}, api.ErrRange},
		{quota(2, 10, 0, 7), 7, api.Quota{}, api.ErrState},
		{quota(2, 10, 0, 0), 0, api.Quota{}, api.ErrState},
		{quota(2, 10, 5, 70), 60, quota(2, 10, 4, 10), api.OK},
		{quota(0, 0, 1, 0), 0, quota(0, 0, 0, 0), api.OK},
		{quota(2, 10, 1, 7), math.MaxInt, api.Quota{}, api.ErrState},
		{quota(2, 10, 1, 7), math.MinInt, api.Quota{}, api.ErrRange},
		{quota(1, 1, 1<<40, 1<<40), 1 << 40, quota(1, 1, 1<<40-1, 0), api.OK},
	} {
		if got, code := limits.Refund(c.q, c.bytes); got != c.want || code != c.code {
			t.Errorf("Refund(%v, %d) = %v, %v, want %v, %v", c.q, c.bytes, got, code, c.want, c.code)
		}
	}
}

// P21.4, all small quotas and numbers of bytes; P21.5, Refund undoes Charge
func TestSmallQuotas(t *testing.T) {
	for i := range 4 * 4 * 4 * 4 {
		q := quota(i%4, i/4%4, i/16%4, i/64)
		for bytes := -2; bytes < 6; bytes++ {
			want, code := api.Quota{}, api.OK
			switch {
			case bytes < 0:
				code = api.ErrRange
			case q.UsedMessages >= q.Messages, q.UsedBytes+bytes > q.Bytes:
				code = api.ErrQuota
			default:
				want = quota(q.Messages, q.Bytes, q.UsedMessages+1, q.UsedBytes+bytes)
			}
			got, e := limits.Charge(q, bytes)
			if got != want || e != code {
				t.Fatalf("Charge(%v, %d) = %v, %v, want %v, %v", q, bytes, got, e, want, code)
			}
			if back, e := limits.Refund(got, bytes); code == api.OK && (back != q || e != api.OK) {
				t.Fatalf("Refund(%v, %d) = %v, %v, want %v", got, bytes, back, e, q)
			}
			checkRefund(t, q, bytes)
		}
	}
}

// checkRefund compares Refund with its definition.
func checkRefund(t *testing.T, q api.Quota, bytes int) {
	t.Helper()
	want, code := api.Quota{}, api.OK
	switch {
	case bytes < 0:
		code = api.ErrRange
	case q.UsedMessages == 0, q.UsedBytes < bytes:
		code = api.ErrState
	default:
		want = quota(q.Messages, q.Bytes, q.UsedMessages-1, q.UsedBytes-bytes)
	}
	if got, e := limits.Refund(q, bytes); got != want || e != code {
		t.Fatalf("Refund(%v, %d) = %v, %v, want %v, %v", q, bytes, got, e, want, code)
	}
}

// P21.5: refilling twice is refilling at the later instant
func TestRefillTwice(t *testing.T) {
	r := rand.New(rand.NewSource(22))
	for range 50000 {
		b, first := anyBucket(r), anyNumber(r, api.MaxTick)
		later := first + anyNumber(r, api.MaxTick-first)
		if got, want := limits.Refill(limits.Refill(b, first), later), limits.Refill(b, later); got != want {
			t.Fatalf("Refill of %v at %d and %d = %v, want %v", b, first, later, got, want)
		}
	}
}

// P21.5: at the instant that Wait returns Take succeeds, before it Take fails
func TestTakeAfterWait(t *testing.T) {
	someBuckets(func(b api.Bucket) {
		for now := range 6 {
			for n := range 8 {
				at, ok := limits.Wait(b, now, n)
				if !ok {
					at = now + 30
				}
				for before := now; before < at; before++ {
					if _, taken := limits.Take(b, before, n); taken {
						t.Fatalf("Take(%v, %d, %d) before %d", b, before, n, at)
					}
				}
				if _, taken := limits.Take(b, at, n); taken != ok {
					t.Fatalf("Take(%v, %d, %d) = %v, want %v", b, at, n, taken, ok)
				}
			}
		}
	})
}

// P21.5: no more tokens are taken than were there and were added
func TestTakenTokens(t *testing.T) {
	r := rand.New(rand.NewSource(23))
	for range 2000 {
		burst := r.Intn(20)
		b := bucket(r.Intn(5), burst, r.Intn(burst+1), r.Intn(10))
		begin, now, taken := b, r.Intn(15), 0
		for range 40 {
			now += r.Intn(4)
			n := r.Intn(8) - 1
			next, ok := limits.Take(b, now, n)
			if limits.Check(next) != api.OK {
				t.Fatalf("Take(%v, %d, %d) = %v, which is not valid", b, now, n, next)
			}
			if ok {
				taken += n
			}
			b = next
			if limit := begin.Level + begin.Rate*max(0, now-begin.Last); taken > limit {
				t.Fatalf("%d tokens of %v were taken until %d, want at most %d", taken, begin, now, limit)
			}
		}
	}
}

// R1: every call returns, also with buckets, quotas and instants that are not valid
func TestInvalid(t *testing.T) {
	for _, w := range edges {
		for _, x := range edges {
			for _, y := range edges {
				for _, z := range edges {
					b, q := bucket(w, x, y, z), quota(w, x, y, z)
					for _, n := range edges {
						limits.Refill(b, n)
						limits.Take(b, n, z)
						limits.Wait(b, n, x)
						limits.Wait(b, x, n)
						limits.Charge(q, n)
						limits.Refund(q, n)
					}
				}
			}
		}
	}
}
