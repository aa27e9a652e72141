package pack_test

import (
	"bytes"
	"math"
	"math/big"
	"slices"
	"strings"
	"testing"

	"broker/api"
	"broker/pack"
)

// numbers are the numbers at the edges: of one group and the next one, and of all integers.
func numbers() []int {
	l := []int{0, math.MaxInt, math.MinInt, api.MaxNumber}
	for i := range 63 {
		for d := -2; d <= 2; d++ {
			l = append(l, 1<<i+d, -(1<<i)+d)
		}
	}
	return l
}

// encoding follows the chapter's definition of the encoding of a number.
func encoding(n int) []byte {
	code := big.NewInt(int64(n))
	code.Mul(code, big.NewInt(2))
	if n < 0 {
		code.Neg(code)
		code.Sub(code, big.NewInt(1))
	}
	var out []byte
	for {
		group := new(big.Int)
		code.DivMod(code, big.NewInt(128), group)
		b := byte(group.Int64())
		if code.Sign() == 0 {
			return append(out, b)
		}
		out = append(out, b+128)
	}
}

func textEncoding(s string) []byte { return append(encoding(len(s)), s...) }

func textsEncoding(l []string) []byte {
	out := encoding(len(l))
	for _, s := range l {
		out = append(out, textEncoding(s)...)
	}
	return out
}

// texts are strings whose lengths have one, two and three bytes.
func texts() []string {
	return []string{"", "a", "ab", "\x00", "\xff\x80", "é/+#", strings.Repeat("x", 63), strings.Repeat("y", 64), strings.Repeat("z", 8191), strings.Repeat("\x80", 8192)}
}

func lists() [][]string {
	return [][]string{nil, {""}, {"ab", ""}, {"", "", ""}, {"a", "bc", "def"}, texts(), slices.Repeat([]string{"q"}, 63), slices.Repeat([]string{""}, 64), slices.Repeat([]string{"rs"}, 9000)}
}

func prefixes() [][]byte {
	return [][]byte{nil, {0}, {128}, {255, 255}, bytes.Repeat([]byte{200}, 100)}
}

// P3.1, the examples
func TestPutExamples(t *testing.T) {
	for _, x := range []struct {
		n    int
		want []byte
	}{
		{0, []byte{0}}, {-1, []byte{1}}, {1, []byte{2}}, {-2, []byte{3}}, {2, []byte{4}}, {63, []byte{126}}, {-64, []byte{127}}, {64, []byte{128, 1}}, {-65, []byte{129, 1}},
		{8191, []byte{254, 127}}, {-8192, []byte{255, 127}}, {8192, []byte{128, 128, 1}},
		{math.MaxInt, []byte{254, 255, 255, 255, 255, 255, 255, 255, 255, 1}}, {math.MinInt, []byte{255, 255, 255, 255, 255, 255, 255, 255, 255, 1}},
	} {
		if got := pack.PutNum(nil, x.n); !bytes.Equal(got, x.want) {
			t.Errorf("PutNum(%d) = %v", x.n, got)
		}
	}
	if got := pack.PutText(nil, "ab"); !bytes.Equal(got, []byte{4, 97, 98}) {
		t.Errorf("PutText = %v", got)
	}
	if got := pack.PutTexts(nil, []string{"ab", ""}); !bytes.Equal(got, []byte{4, 4, 97, 98, 0}) {
		t.Errorf("PutTexts = %v", got)
	}
	if got := pack.PutTexts(nil, nil); !bytes.Equal(got, []byte{0}) {
		t.Errorf("PutTexts of nothing = %v", got)
	}
}

// P3.1, by the definition
func TestPut(t *testing.T) {
	for _, b := range prefixes() {
		for _, n := range numbers() {
			if got := pack.PutNum(b, n); !bytes.Equal(got, slices.Concat(b, encoding(n))) {
				t.Errorf("PutNum(%v, %d) = %v", b, n, got)
			}
		}
		for _, s := range texts() {
			if got := pack.PutText(b, s); !bytes.Equal(got, slices.Concat(b, textEncoding(s))) {
				t.Errorf("PutText behind %d bytes of %d bytes", len(b), len(s))
			}
		}
		for _, l := range lists() {
			if got := pack.PutTexts(b, l); !bytes.Equal(got, slices.Concat(b, textsEncoding(l))) {
				t.Errorf("PutTexts behind %d bytes of %d elements", len(b), len(l))
			}
		}
	}
}

// R5: what is added goes neither into the argument's capacity nor into that of an earlier result.
func TestPutIsNew(t *testing.T) {
	for _, put := range []func(b []byte, c byte) []byte{
		func(b []byte, c byte) []byte { return pack.PutNum(b, -int(c)) },
		func(b []byte, c byte) []byte { return pack.PutText(b, string([]byte{c})) },
		func(b []byte, c byte) []byte { return pack.PutTexts(b, []string{string([]byte{c})}) },
		func(b []byte, c byte) []byte { return pack.PutTexts(b, nil) },
	} {
		room := bytes.Repeat([]byte{7}, 64)
		arg := room[:3]
		first := put(arg, 'a')
		kept := slices.Clone(first)
		put(arg, 'b')
		put(first, 'c')
		clear(put(first[:2], 'd'))
		if !bytes.Equal(room, bytes.Repeat([]byte{7}, 64)) {
			t.Error("the argument's memory is written")
		}
		if !bytes.Equal(first, kept) {
			t.Error("results share memory")
		}
		clear(first[:cap(first)])
		if !bytes.Equal(room, bytes.Repeat([]byte{7}, 64)) {
			t.Error("the result is the argument's memory")
		}
	}
	list := []string{"a", "b"}
	pack.PutTexts(nil, list)
	if !slices.Equal(list, []string{"a", "b"}) {
		t.Error("PutTexts modifies the list")
	}
}

// numByDefinition looks for the encoding of a number at the beginning of b.
func numByDefinition(b []byte) (int, int, api.Errno) {
	n := slices.IndexFunc(b, func(c byte) bool { return c < 128 }) + 1
	if n == 0 {
		if len(b) < 10 {
			return 0, 0, api.ErrTruncated
		}
		return 0, 0, api.ErrSyntax
	}
	code := new(big.Int)
	for _, c := range slices.Backward(b[:n]) {
		code.Mul(code, big.NewInt(128)).Add(code, big.NewInt(int64(c%128)))
	}
	if n > 1 && b[n-1] == 0 || n > 10 || code.BitLen() > 64 {
		return 0, 0, api.ErrSyntax
	}
	odd := code.Bit(0) == 1
	code.Rsh(code, 1)
	if odd {
		code.Neg(code).Sub(code, big.NewInt(1))
	}
	return int(code.Int64()), n, api.OK
}

// P3.2, the examples and the edges
func TestNumExamples(t *testing.T) {
	nine := bytes.Repeat([]byte{255}, 9)
	for _, x := range []struct {
		b     []byte
		at    int
		n, to int
		code  api.Errno
	}{
		{[]byte{0}, 0, 0, 1, api.OK}, {[]byte{9, 1, 9}, 1, -1, 2, api.OK}, {[]byte{128, 1}, 0, 64, 2, api.OK}, {[]byte{128, 1}, 1, -1, 2, api.OK},
		{nil, 0, 0, 0, api.ErrTruncated}, {[]byte{5}, 1, 0, 0, api.ErrTruncated}, {[]byte{128}, 0, 0, 0, api.ErrTruncated}, {[]byte{1, 255, 128}, 1, 0, 0, api.ErrTruncated},
		{nil, 1, 0, 0, api.ErrRange}, {nil, -1, 0, 0, api.ErrRange}, {[]byte{5}, 2, 0, 0, api.ErrRange}, {[]byte{5}, -1, 0, 0, api.ErrRange},
		{[]byte{5}, math.MaxInt, 0, 0, api.ErrRange}, {[]byte{5}, math.MinInt, 0, 0, api.ErrRange},
		{[]byte{128, 0}, 0, 0, 0, api.ErrSyntax}, {[]byte{129, 0, 1}, 0, 0, 0, api.ErrSyntax}, {[]byte{128, 128, 0}, 0, 0, 0, api.ErrSyntax},
		{append(slices.Clone(nine), 1), 0, math.MinInt, 10, api.OK},
		{nine, 0, 0, 0, api.ErrTruncated},
		{append(slices.Clone(nine), 0), 0, 0, 0, api.ErrSyntax}, {append(slices.Clone(nine), 2), 0, 0, 0, api.ErrSyntax}, {append(slices.Clone(nine), 3), 0, 0, 0, api.ErrSyntax},
		{append(slices.Clone(nine), 128), 0, 0, 0, api.ErrSyntax}, {append(slices.Clone(nine), 129, 1), 0, 0, 0, api.ErrSyntax}, {append(slices.Clone(nine), 255), 0, 0, 0, api.ErrSyntax},
		{bytes.Repeat([]byte{128}, 1000), 0, 0, 0, api.ErrSyntax}, {bytes.Repeat([]byte{128}, 1000), 991, 0, 0, api.ErrTruncated}, {bytes.Repeat([]byte{128}, 1000), 990, 0, 0, api.ErrSyntax},
	} {
		if n, to, code := pack.Num(x.b, x.at); n != x.n || to != x.to || code != x.code {
			t.Errorf("Num(%v, %d) = %d, %d, %d", x.b, x.at, n, to, code)
		}
	}
}

// P3.2 and C3.2, for all short sequences of the bytes that matter, behind up to nine groups
func TestNumByDefinition(t *testing.T) {
	alphabet := []byte{0, 1, 2, 64, 127, 128, 129, 255}
	tails := [][]byte{nil}
	for from, n := 0, 0; n < 3; n++ {
		to := len(tails)
		for _, tail := range tails[from:to] {
			for _, c := range alphabet {
				tails = append(tails, append(slices.Clone(tail), c))
			}
		}
		from = to
	}
	for groups := range 12 {
		for _, group := range []byte{128, 170, 255} {
			for _, tail := range tails {
				b := append(bytes.Repeat([]byte{group}, groups), tail...)
				wantN, wantTo, wantCode := numByDefinition(b)
				n, to, code := pack.Num(b, 0)
				if n != wantN || to != wantTo || code != wantCode {
					t.Fatalf("Num(%v, 0) = %d, %d, %d", b, n, to, code)
				}
				if code == api.OK && !bytes.Equal(pack.PutNum(nil, n), b[:to]) {
					t.Fatalf("PutNum of what %v contains", b)
				}
			}
		}
	}
}

// P3.3, the examples and the edges
func TestText(t *testing.T) {
	for _, x := range []struct {
		b         []byte
		at, limit int
		s         string
		to        int
		code      api.Errno
	}{
		{[]byte{4, 97, 98}, 0, 2, "ab", 3, api.OK}, {[]byte{4, 97, 98}, 0, math.MaxInt, "ab", 3, api.OK}, {[]byte{9, 4, 97, 98, 9}, 1, 2, "ab", 4, api.OK}, {[]byte{0}, 0, 0, "", 1, api.OK}, {[]byte{0, 97}, 0, 0, "", 1, api.OK}, {[]byte{4, 0, 255}, 0, 9, "\x00\xff", 3, api.OK},
		{[]byte{4, 97, 98}, 0, 1, "", 0, api.ErrTooLong}, {[]byte{4, 97, 98}, 0, 0, "", 0, api.ErrTooLong}, {[]byte{0}, 0, -1, "", 0, api.ErrTooLong}, {[]byte{0}, 0, math.MinInt, "", 0, api.ErrTooLong},
		{[]byte{4, 97}, 0, 9, "", 0, api.ErrTruncated}, {[]byte{4}, 0, 9, "", 0, api.ErrTruncated}, {[]byte{4, 97}, 0, 1, "", 0, api.ErrTooLong}, {[]byte{9, 4, 97}, 1, 2, "", 0, api.ErrTruncated},
		{[]byte{1}, 0, 9, "", 0, api.ErrSyntax}, {[]byte{1}, 0, -9, "", 0, api.ErrSyntax}, {[]byte{127, 97}, 0, 9, "", 0, api.ErrSyntax},
		{nil, 0, 9, "", 0, api.ErrTruncated}, {nil, 0, -1, "", 0, api.ErrTruncated}, {[]byte{128}, 0, 9, "", 0, api.ErrTruncated}, {[]byte{128, 0}, 0, -1, "", 0, api.ErrSyntax},
		{nil, 1, 9, "", 0, api.ErrRange}, {nil, -1, -1, "", 0, api.ErrRange}, {[]byte{0}, 2, 9, "", 0, api.ErrRange},
		{pack.PutNum(nil, math.MaxInt), 0, math.MaxInt, "", 0, api.ErrTruncated}, {pack.PutNum(nil, math.MaxInt), 0, math.MaxInt - 1, "", 0, api.ErrTooLong}, {pack.PutNum(nil, math.MinInt), 0, math.MaxInt, "", 0, api.ErrSyntax},
	} {
		if s, to, code := pack.Text(x.b, x.at, x.limit); s != x.s || to != x.to || code != x.code {
			t.Errorf("Text(%v, %d, %d) = %q, %d, %d", x.b, x.at, x.limit, s, to, code)
		}
	}
}

// P3.4, the edges
func TestTexts(t *testing.T) {
	huge := pack.PutNum(nil, math.MaxInt)
	for _, x := range []struct {
		b         []byte
		at, limit int
		l         []string
		to        int
		code      api.Errno
	}{
		{[]byte{4, 4, 97, 98, 0}, 0, 2, []string{"ab", ""}, 5, api.OK}, {[]byte{9, 4, 4, 97, 98, 0, 9}, 1, 2, []string{"ab", ""}, 6, api.OK}, {[]byte{4, 4, 97, 98, 0}, 1, 2, nil, 0, api.ErrSyntax},
		{[]byte{0}, 0, 0, nil, 1, api.OK}, {[]byte{0, 7}, 0, 5, nil, 1, api.OK}, {[]byte{2, 0}, 0, 1, []string{""}, 2, api.OK}, {[]byte{2, 2, 97}, 0, 1, []string{"a"}, 3, api.OK}, {[]byte{6, 0, 0, 0}, 0, math.MaxInt, []string{"", "", ""}, 4, api.OK},
		{nil, 0, 9, nil, 0, api.ErrTruncated}, {[]byte{128}, 0, -1, nil, 0, api.ErrTruncated}, {[]byte{128, 0}, 0, 9, nil, 0, api.ErrSyntax}, {nil, 1, 9, nil, 0, api.ErrRange}, {[]byte{0}, -1, 9, nil, 0, api.ErrRange},
		{[]byte{1}, 0, 9, nil, 0, api.ErrSyntax}, {[]byte{1}, 0, -1, nil, 0, api.ErrSyntax}, {[]byte{3, 0, 0}, 0, 9, nil, 0, api.ErrSyntax},
		{[]byte{0}, 0, -1, nil, 0, api.ErrTooLong}, {[]byte{4, 0, 0}, 0, 1, nil, 0, api.ErrTooLong}, {[]byte{4}, 0, 1, nil, 0, api.ErrTooLong},
		{[]byte{4, 0}, 0, 2, nil, 0, api.ErrTruncated}, {[]byte{4}, 0, 2, nil, 0, api.ErrTruncated}, {[]byte{4, 0, 4, 97}, 0, 2, nil, 0, api.ErrTruncated}, {[]byte{4, 0, 128}, 0, 2, nil, 0, api.ErrTruncated},
		{[]byte{2, 4, 97, 98}, 0, 1, nil, 0, api.ErrTooLong}, {[]byte{4, 0, 6, 97, 98, 99}, 0, 2, nil, 0, api.ErrTooLong}, {[]byte{4, 1, 6}, 0, 2, nil, 0, api.ErrSyntax}, {[]byte{4, 6, 1}, 0, 2, nil, 0, api.ErrTooLong},
		{[]byte{4, 0, 1}, 0, 2, nil, 0, api.ErrSyntax}, {[]byte{4, 0, 128, 0}, 0, 2, nil, 0, api.ErrSyntax},
		{huge, 0, math.MaxInt, nil, 0, api.ErrTruncated}, {append(slices.Clone(huge), 0, 0), 0, math.MaxInt, nil, 0, api.ErrTruncated}, {huge, 0, math.MaxInt - 1, nil, 0, api.ErrTooLong},
	} {
		if l, to, code := pack.Texts(x.b, x.at, x.limit); !slices.Equal(l, x.l) || to != x.to || code != x.code {
			t.Errorf("Texts(%v, %d, %d) = %q, %d, %d", x.b, x.at, x.limit, l, to, code)
		}
	}
}

// R5: what is read stays when the buffer changes, and the buffer is left as it is.
func TestReadIsNew(t *testing.T) {
	b := []byte{4, 4, 97, 98, 2, 99}
	kept := slices.Clone(b)
	s, _, _ := pack.Text(b, 1, 9)
	l, _, _ := pack.Texts(b, 0, 9)
	other, _, _ := pack.Texts(b, 0, 9)
	if !bytes.Equal(b, kept) {
		t.Error("the buffer is modified")
	}
	clear(b)
	l[0] = "x"
	if s != "ab" || !slices.Equal(other, []string{"ab", "c"}) {
		t.Errorf("memory is shared: %q, %q", s, other)
	}
}

// P3.5
func TestFlags(t *testing.T) {
	for _, x := range []struct {
		l    []bool
		want int
	}{{nil, 0}, {[]bool{false}, 0}, {[]bool{true}, 1}, {[]bool{false, true}, 2}, {[]bool{true, false, true}, 5}, {[]bool{true, true, true, false}, 7}} {
		if got := pack.Flags(x.l); got != x.want {
			t.Errorf("Flags(%v) = %d", x.l, got)
		}
	}
	for n := range 100 {
		want := 1<<min(n, 32) - 1
		if got := pack.Flags(slices.Repeat([]bool{true}, n)); got != want {
			t.Errorf("Flags of %d elements = %d", n, got)
		}
		want = 0
		if n < 32 {
			want = 1 << n
		}
		l := make([]bool, n+1)
		l[n] = true
		if got := pack.Flags(l); got != want {
			t.Errorf("Flags with the element %d = %d", n, got)
		}
		if !l[n] || slices.Contains(l[:n], true) {
			t.Error("Flags modifies its argument")
		}
	}
}

// P3.5
func TestFlag(t *testing.T) {
	for _, n := range numbers() {
		for i := -70; i < 140; i++ {
			want := i >= 0 && i < 32 && new(big.Int).And(big.NewInt(int64(n)), new(big.Int).Lsh(big.NewInt(1), uint(i))).Sign() != 0
			if pack.Flag(n, i) != want {
				t.Errorf("Flag(%d, %d) = %v", n, i, !want)
			}
		}
	}
	for _, i := range []int{math.MinInt, math.MaxInt, -1, 32, 64, 1 << 32} {
		if pack.Flag(-1, i) {
			t.Errorf("Flag(-1, %d)", i)
		}
	}
	if !pack.Flag(-1, 0) || !pack.Flag(-1, 31) || pack.Flag(-2, 0) || !pack.Flag(5, 2) || pack.Flag(5, 1) {
		t.Error("Flag")
	}
}

// C3.1
func TestPackBack(t *testing.T) {
	for _, before := range prefixes() {
		for _, after := range prefixes() {
			for _, n := range numbers() {
				b := append(pack.PutNum(before, n), after...)
				if got, to, code := pack.Num(b, len(before)); got != n || to != len(b)-len(after) || code != api.OK {
					t.Errorf("Num of %d = %d, %d, %d", n, got, to, code)
				}
			}
			for _, s := range texts() {
				b := append(pack.PutText(before, s), after...)
				if got, to, code := pack.Text(b, len(before), len(s)); got != s || to != len(b)-len(after) || code != api.OK {
					t.Errorf("Text of %d bytes: %d, %d", len(s), to, code)
				}
			}
			for _, l := range lists() {
				b := append(pack.PutTexts(before, l), after...)
				if got, to, code := pack.Texts(b, len(before), 10000); !slices.Equal(got, l) || to != len(b)-len(after) || code != api.OK {
					t.Errorf("Texts of %d elements: %d, %d", len(l), to, code)
				}
			}
		}
	}
}

// C3.2, for strings and lists: all sequences of five small bytes
func TestPackOnly(t *testing.T) {
	alphabet := []byte{0, 1, 2, 4, 6, 128}
	b := make([]byte, 5)
	var visit func(i int)
	visit = func(i int) {
		if i < len(b) {
			for _, c := range alphabet {
				b[i] = c
				visit(i + 1)
			}
			return
		}
		if s, to, code := pack.Text(b, 0, 9); code == api.OK && !bytes.Equal(pack.PutText(nil, s), b[:to]) {
			t.Errorf("Text accepts %v", b[:to])
		}
		if l, to, code := pack.Texts(b, 0, 9); code == api.OK && !bytes.Equal(pack.PutTexts(nil, l), b[:to]) {
			t.Errorf("Texts accepts %v", b[:to])
		}
	}
	visit(0)
}

// C3.3
func TestPackTorn(t *testing.T) {
	before := []byte{1, 2, 3}
	for _, n := range numbers() {
		b := pack.PutNum(before, n)
		for end := len(before); end < len(b); end++ {
			if got, to, code := pack.Num(b[:end], len(before)); got != 0 || to != 0 || code != api.ErrTruncated {
				t.Errorf("Num of %v = %d, %d, %d", b[:end], got, to, code)
			}
		}
	}
	for _, s := range texts() {
		b := pack.PutText(before, s)
		for end := len(before); end < len(b); end++ {
			if got, to, code := pack.Text(b[:end], len(before), len(s)); got != "" || to != 0 || code != api.ErrTruncated {
				t.Fatalf("Text of %d bytes up to %d: %d, %d", len(s), end, to, code)
			}
		}
	}
	l := []string{"ab", "", strings.Repeat("x", 100), "c"}
	b := pack.PutTexts(before, l)
	for end := len(before); end < len(b); end++ {
		if got, to, code := pack.Texts(b[:end], len(before), 100); len(got) != 0 || to != 0 || code != api.ErrTruncated {
			t.Errorf("Texts up to %d: %q, %d, %d", end, got, to, code)
		}
	}
}
