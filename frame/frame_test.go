package frame_test

import (
	"bytes"
	"encoding/binary"
	"hash/fnv"
	"math"
	"slices"
	"testing"

	"broker/api"
	"broker/frame"
	"broker/pack"
)

// payload returns n bytes, all different at first.
func payload(n int) []byte {
	b := make([]byte, n)
	for i := range b {
		b[i] = byte(i*7 + i/256)
	}
	return b
}

// sum is the checksum as another implementation of FNV-1a computes it.
func sum(b []byte) uint32 {
	h := fnv.New32a()
	h.Write(b)
	return h.Sum32()
}

// layout follows the chapter's definition of a frame.
func layout(b []byte) []byte {
	return append(binary.BigEndian.AppendUint32(pack.PutNum(nil, len(b)), sum(b)), b...)
}

func lengths() []int {
	return []int{0, 1, 2, 3, 4, 5, 62, 63, 64, 65, 255, 256, 8191, 8192, 8193, api.MaxBytes - 1, api.MaxBytes}
}

// P4.1
func TestSum(t *testing.T) {
	for _, x := range []struct {
		b    []byte
		want int
	}{{nil, 2166136261}, {[]byte{}, 2166136261}, {[]byte{0}, 84696351}, {[]byte{97}, 3826002220}} {
		if got := frame.Sum(x.b); got != x.want {
			t.Errorf("Sum(%v) = %d", x.b, got)
		}
	}
	for _, n := range append(lengths(), api.MaxBytes+1, 1<<20) {
		b := payload(n)
		if got := frame.Sum(b); got != int(sum(b)) {
			t.Errorf("Sum of %d bytes = %d", n, got)
		}
		if !bytes.Equal(b, payload(n)) {
			t.Error("Sum modifies its argument")
		}
	}
	for c := range 256 {
		if b := []byte{byte(c), 1, byte(255 - c)}; frame.Sum(b) != int(sum(b)) {
			t.Errorf("Sum(%v)", b)
		}
	}
}

// P4.2
func TestWrap(t *testing.T) {
	for _, x := range []struct{ b, want []byte }{{nil, []byte{0, 129, 28, 157, 197}}, {[]byte{97}, []byte{2, 228, 12, 41, 44, 97}}} {
		if got := frame.Wrap(x.b); !bytes.Equal(got, x.want) {
			t.Errorf("Wrap(%v) = %v", x.b, got)
		}
	}
	for _, n := range lengths() {
		got := frame.Wrap(payload(n))
		if !bytes.Equal(got, layout(payload(n))) {
			t.Errorf("Wrap of %d bytes", n)
		}
		if frame.Size(n) != len(got) {
			t.Errorf("Size(%d) = %d", n, frame.Size(n))
		}
	}
	for _, n := range []int{api.MaxBytes + 1, api.MaxBytes + 2, 1 << 20} {
		if got := frame.Wrap(payload(n)); len(got) != 0 {
			t.Errorf("Wrap of %d bytes has %d bytes", n, len(got))
		}
	}
}

// P4.2
func TestSize(t *testing.T) {
	for n, want := range map[int]int{0: 5, 1: 6, 63: 68, 64: 70, 8191: 8197, 8192: 8199, 65535: 65542, 65536: 65543, -1: 0, 65537: 0, math.MinInt: 0, math.MaxInt: 0, -64: 0} {
		if got := frame.Size(n); got != want {
			t.Errorf("Size(%d) = %d", n, got)
		}
	}
}

// P4.3, the examples and the edges
func TestNext(t *testing.T) {
	whole := []byte{2, 228, 12, 41, 44, 97}
	long := append(pack.PutNum(nil, api.MaxBytes+1), payload(api.MaxBytes+5)...)
	for _, x := range []struct {
		b    []byte
		at   int
		want []byte
		to   int
		code api.Errno
	}{
		{whole, 0, []byte{97}, 6, api.OK}, {slices.Concat([]byte{9, 9}, whole, []byte{9}), 2, []byte{97}, 8, api.OK}, {[]byte{0, 129, 28, 157, 197}, 0, nil, 5, api.OK},
		{[]byte{2, 228, 12, 41, 44, 98}, 0, nil, 0, api.ErrChecksum}, {[]byte{2, 228, 12, 41, 45, 97}, 0, nil, 0, api.ErrChecksum}, {[]byte{0, 129, 28, 157, 196}, 0, nil, 0, api.ErrChecksum}, {[]byte{2, 44, 41, 12, 228, 97}, 0, nil, 0, api.ErrChecksum},
		{whole[:4], 0, nil, 0, api.ErrTruncated}, {whole[:5], 0, nil, 0, api.ErrTruncated}, {whole[:1], 0, nil, 0, api.ErrTruncated}, {[]byte{0, 129, 28, 157}, 0, nil, 0, api.ErrTruncated},
		{nil, 0, nil, 0, api.ErrTruncated}, {whole, 6, nil, 0, api.ErrTruncated}, {[]byte{128}, 0, nil, 0, api.ErrTruncated},
		{whole, 7, nil, 0, api.ErrRange}, {whole, -1, nil, 0, api.ErrRange}, {nil, 1, nil, 0, api.ErrRange}, {whole, math.MaxInt, nil, 0, api.ErrRange}, {whole, math.MinInt, nil, 0, api.ErrRange},
		{[]byte{1}, 0, nil, 0, api.ErrSyntax}, {[]byte{128, 0, 0, 0}, 0, nil, 0, api.ErrSyntax}, {bytes.Repeat([]byte{128}, 20), 0, nil, 0, api.ErrSyntax}, {pack.PutNum(nil, math.MinInt), 0, nil, 0, api.ErrSyntax},
		{pack.PutNum(nil, api.MaxBytes+1), 0, nil, 0, api.ErrTooLong}, {pack.PutNum(nil, math.MaxInt), 0, nil, 0, api.ErrTooLong}, {long, 0, nil, 0, api.ErrTooLong}, {pack.PutNum(nil, api.MaxBytes), 0, nil, 0, api.ErrTruncated},
	} {
		if got, to, code := frame.Next(x.b, x.at); !bytes.Equal(got, x.want) || to != x.to || code != x.code {
			t.Errorf("Next(%v, %d) = %v, %d, %d", x.b[:min(len(x.b), 20)], x.at, got, to, code)
		}
	}
}

// P4.4
func TestAll(t *testing.T) {
	one, two, none := frame.Wrap([]byte{97}), frame.Wrap([]byte{1, 2}), frame.Wrap(nil)
	damaged := slices.Clone(two)
	damaged[6] ^= 1
	for _, x := range []struct {
		b    []byte
		want [][]byte
		to   int
	}{
		{nil, nil, 0}, {one, [][]byte{{97}}, 6}, {none, [][]byte{{}}, 5}, {slices.Concat(one, none, two), [][]byte{{97}, {}, {1, 2}}, 18}, {slices.Concat(none, none, none), [][]byte{{}, {}, {}}, 15},
		{[]byte{1}, nil, 0}, {damaged, nil, 0}, {slices.Concat(one, damaged, two), [][]byte{{97}}, 6}, {slices.Concat(one, two, []byte{128, 0}, one), [][]byte{{97}, {1, 2}}, 13},
		{slices.Concat(one, []byte{2}), [][]byte{{97}}, 6}, {slices.Concat(one, pack.PutNum(nil, api.MaxBytes+1), one), [][]byte{{97}}, 6}, {slices.Concat([]byte{0}, one), nil, 0},
	} {
		got, to := frame.All(x.b)
		if !slices.EqualFunc(got, x.want, bytes.Equal) || to != x.to {
			t.Errorf("All(%v) = %v, %d", x.b, got, to)
		}
	}
}

// R5: payloads stay when the buffer changes, do not share memory with each other, and leave the buffer as it is.
func TestPayloadsAreNew(t *testing.T) {
	b := slices.Concat(frame.Wrap([]byte("ab")), frame.Wrap([]byte("cd")))
	kept := slices.Clone(b)
	next, _, _ := frame.Next(b, 0)
	all, _ := frame.All(b)
	if !bytes.Equal(b, kept) {
		t.Error("the buffer is modified")
	}
	clear(b)
	if string(next) != "ab" || string(all[0]) != "ab" || string(all[1]) != "cd" {
		t.Errorf("payloads share the buffer: %q, %q", next, all)
	}
	clear(append(all[0], 1, 2, 3, 4, 5, 6, 7, 8))
	clear(all[0][:cap(all[0])])
	if string(next) != "ab" || string(all[1]) != "cd" {
		t.Errorf("payloads share memory: %q, %q", next, all)
	}
	room := bytes.Repeat([]byte{7}, 40)
	whole := frame.Wrap(room[:3])
	clear(whole[:cap(whole)])
	if !bytes.Equal(room, bytes.Repeat([]byte{7}, 40)) {
		t.Error("Wrap writes into its argument")
	}
}

// C4.1
func TestFrameBack(t *testing.T) {
	for _, before := range [][]byte{nil, {1}, payload(300)} {
		for _, after := range [][]byte{nil, {1}, payload(300)} {
			for _, n := range lengths() {
				b := slices.Concat(before, frame.Wrap(payload(n)), after)
				got, to, code := frame.Next(b, len(before))
				if !bytes.Equal(got, payload(n)) || to != len(b)-len(after) || code != api.OK {
					t.Errorf("Next of a frame with %d bytes: %d, %d", n, to, code)
				}
			}
		}
	}
}

// C4.2: whatever length and checksum precede a payload, only those of Wrap are accepted.
func TestFrameOnly(t *testing.T) {
	heads := [][]byte{{0}, {2}, {4}, {6}, {128, 0}, {130, 0}, {132, 0}, {1}, {3}, {128, 1}, {132, 128, 0}}
	sums := []uint32{0, sum(nil), sum([]byte{5}), sum([]byte{5, 6}), sum([]byte{5, 6, 7})}
	accepted := 0
	for _, head := range heads {
		for _, s := range sums {
			b := append(binary.BigEndian.AppendUint32(slices.Clone(head), s), 5, 6, 7)
			if got, to, code := frame.Next(b, 0); code == api.OK {
				accepted++
				if !bytes.Equal(frame.Wrap(got), b[:to]) {
					t.Errorf("Next accepts %v", b[:to])
				}
			}
		}
	}
	if accepted != 4 {
		t.Errorf("%d frames are accepted", accepted)
	}
}

// C4.3
func TestFrameTorn(t *testing.T) {
	var b []byte
	ends := []int{0}
	sizes := []int{0, 3, 0, 64, 1, 200, 0}
	for _, n := range sizes {
		b = append(b, frame.Wrap(payload(n))...)
		ends = append(ends, len(b))
	}
	whole := 0
	for end := range len(b) + 1 {
		if whole+1 < len(ends) && ends[whole+1] == end {
			whole++
		}
		got, to := frame.All(b[:end])
		if len(got) != whole || to != ends[whole] {
			t.Errorf("All up to %d: %d frames, %d", end, len(got), to)
		}
		for i, p := range got {
			if !bytes.Equal(p, payload(sizes[i])) {
				t.Errorf("All up to %d: frame %d", end, i)
			}
		}
		if end < len(b) {
			if _, _, code := frame.Next(b[:end], ends[whole]); code != api.ErrTruncated {
				t.Errorf("Next up to %d: %d", end, code)
			}
		}
	}
}

// C4.4: every change of every byte behind the length
func TestFrameDamaged(t *testing.T) {
	for _, n := range []int{0, 1, 5, 64} {
		b := frame.Wrap(payload(n))
		for i := len(b) - n - 4; i < len(b); i++ {
			for change := 1; change < 256; change++ {
				b[i] ^= byte(change)
				if got, to, code := frame.Next(b, 0); len(got) != 0 || to != 0 || code != api.ErrChecksum {
					t.Fatalf("byte %d of a frame with %d bytes: %v, %d, %d", i, n, got, to, code)
				}
				b[i] ^= byte(change)
			}
		}
	}
}
