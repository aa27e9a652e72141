package topic_test

import (
	"slices"
	"strings"
	"testing"

	"broker/api"
	"broker/topic"
)

// every returns all texts of at most n pieces.
func every(pieces []string, n int) []string {
	all := []string{""}
	for from := 0; n > 0; n-- {
		to := len(all)
		for _, s := range all[from:to] {
			for _, p := range pieces {
				all = append(all, s+p)
			}
		}
		from = to
	}
	return all
}

// P1.1
func TestName(t *testing.T) {
	for _, s := range []string{"a", "z", "a-9", "a0", "a-", "a--b", "abcdefghijklmnop", "z123456789-abcde"} {
		if !topic.Name(s) {
			t.Errorf("Name(%q) = false", s)
		}
	}
	for _, s := range []string{
		"", "9a", "0", "-a", "-", "A", "aB", "a_b", "a b", " a", "a ", "a/b", "a.b", "a+", "#", "$a", "a\x00", "a\n",
		"é", "aé", "a\xff", "\xc3", "a`", "a{", "a:", "abcdefghijklmnopq", strings.Repeat("a", 1000),
	} {
		if topic.Name(s) {
			t.Errorf("Name(%q) = true", s)
		}
	}
}

// P1.1: each byte is examined, at the first place and behind it.
func TestNameBytes(t *testing.T) {
	for b := range 256 {
		letter := b >= 'a' && b <= 'z'
		other := b >= '0' && b <= '9' || b == '-'
		s := string([]byte{byte(b)})
		if topic.Name(s) != letter {
			t.Errorf("Name(%q)", s)
		}
		if topic.Name("a"+s) != (letter || other) || topic.Name("a"+s+"z") != (letter || other) {
			t.Errorf("Name with %q inside", s)
		}
	}
}

// P1.1: the length is counted in bytes.
func TestNameLength(t *testing.T) {
	for n := range 2 * api.MaxName {
		if got := topic.Name(strings.Repeat("a", n)); got != (n >= 1 && n <= api.MaxName) {
			t.Errorf("Name of %d letters: %v", n, got)
		}
	}
}

// P1.2
func TestValidAndFilter(t *testing.T) {
	for _, x := range []struct {
		s             string
		valid, filter bool
	}{
		{"a", true, true}, {"a//b", true, true}, {"/", true, true}, {"/a", true, true}, {"a/", true, true}, {"//", true, true},
		{"$sys/a", true, true}, {"$share/g/a", true, true}, {"A b.é", true, true}, {"\xff/\xc0\x80", true, true}, {"\x01", true, true},
		{"", false, false}, {"\x00", false, false}, {"a\x00", false, false}, {"a/\x00/b", false, false}, {"+/\x00", false, false}, {"\x00/#", false, false},
		{"+", false, true}, {"#", false, true}, {"+/+", false, true}, {"+/a/#", false, true}, {"/#", false, true}, {"/+/", false, true}, {"a/+/b", false, true}, {"$sys/#", false, true}, {"$share/g/+", false, true},
		{"a+", false, false}, {"+a", false, false}, {"++", false, false}, {"a/+b/c", false, false}, {"+#", false, false}, {"#+", false, false},
		{"a#", false, false}, {"#a", false, false}, {"##", false, false}, {"a/b#", false, false}, {"a/#/b", false, false}, {"#/", false, false}, {"#/#", false, false}, {"#/a", false, false},
		{"+\x00", false, false}, {"#\x00", false, false}, {"é+", false, false}, {"\xff#", false, false},
	} {
		if got := topic.Valid(x.s); got != x.valid {
			t.Errorf("Valid(%q) = %v", x.s, got)
		}
		if got := topic.Filter(x.s); got != x.filter {
			t.Errorf("Filter(%q) = %v", x.s, got)
		}
	}
}

// P1.2: lengths and numbers of levels at and beyond the limits.
func TestTopicLimits(t *testing.T) {
	for n := range 2 * api.MaxTopic {
		s := strings.Repeat("a", n)
		want := n >= 1 && n <= api.MaxTopic
		if topic.Valid(s) != want || topic.Filter(s) != want {
			t.Errorf("%d bytes", n)
		}
		if f := s + "/#"; topic.Valid(f) || topic.Filter(f) != (n+2 <= api.MaxTopic) {
			t.Errorf("%d bytes and a wildcard", n)
		}
	}
	for n := 1; n <= 2*api.MaxLevels; n++ {
		want := n <= api.MaxLevels
		for _, level := range []string{"", "a", "abc"} {
			s := strings.Repeat(level+"/", n-1) + level
			if want := want && s != ""; topic.Valid(s) != want || topic.Filter(s) != want {
				t.Errorf("%d levels: %q", n, s)
			}
		}
		if s := strings.Repeat("+/", n-1) + "#"; topic.Valid(s) || topic.Filter(s) != want {
			t.Errorf("%d levels: %q", n, s)
		}
	}
	if s := strings.Repeat("é", api.MaxTopic/2); !topic.Valid(s) || topic.Valid(s+"a") {
		t.Error("the length is counted in bytes")
	}
	if s := strings.Repeat("/", 1<<20); topic.Valid(s) || topic.Filter(s) {
		t.Error("a huge text")
	}
}

// filterByDefinition follows the chapter's definition literally.
func filterByDefinition(s string) bool {
	if len(s) < 1 || len(s) > api.MaxTopic || strings.Contains(s, "\x00") || strings.Count(s, "/")+1 > api.MaxLevels {
		return false
	}
	parts := strings.Split(s, "/")
	for i, p := range parts {
		if strings.Contains(p, "+") && p != "+" || strings.Contains(p, "#") && (p != "#" || i < len(parts)-1) {
			return false
		}
	}
	return true
}

// P1.2 and P1.6, for all short texts of the bytes that matter.
func TestFilterByDefinition(t *testing.T) {
	for _, s := range every([]string{"a", "/", "+", "#", "$", "\x00", "\xff"}, 5) {
		filter := filterByDefinition(s)
		if topic.Filter(s) != filter {
			t.Errorf("Filter(%q) = %v", s, !filter)
		}
		if valid := filter && !strings.ContainsAny(s, "+#"); topic.Valid(s) != valid {
			t.Errorf("Valid(%q) = %v", s, !valid)
		}
	}
}

// P1.3
func TestLevelsAndJoin(t *testing.T) {
	for _, x := range []struct {
		s    string
		want []string
	}{
		{"", []string{""}}, {"a", []string{"a"}}, {"a//b", []string{"a", "", "b"}}, {"/", []string{"", ""}}, {"//", []string{"", "", ""}},
		{"/a/", []string{"", "a", ""}}, {"+/a/#", []string{"+", "a", "#"}}, {"a+/#b", []string{"a+", "#b"}}, {"\x00/\xff", []string{"\x00", "\xff"}}, {"é/ü", []string{"é", "ü"}},
		{"1/2/3/4/5/6/7/8/9/10", []string{"1", "2", "3", "4", "5", "6", "7", "8", "9", "10"}}, // no limit applies
	} {
		if got := topic.Levels(x.s); !slices.Equal(got, x.want) {
			t.Errorf("Levels(%q) = %q", x.s, got)
		}
		if got := topic.Join(x.want); got != x.s {
			t.Errorf("Join(%q) = %q", x.want, got)
		}
	}
	long := strings.Repeat("abc/", 1000)
	if got := topic.Levels(long); len(got) != 1001 || got[999] != "abc" || got[1000] != "" || topic.Join(got) != long {
		t.Error("a long text")
	}
	if topic.Join(nil) != "" || topic.Join([]string{}) != "" {
		t.Error("Join of an empty list")
	}
	if got := topic.Join([]string{"a/b", "", "c"}); got != "a/b//c" {
		t.Errorf("Join of a level with a slash: %q", got)
	}
}

// P1.3 and R5: results share no memory, and Join leaves its argument as it is.
func TestLevelsAreNew(t *testing.T) {
	a, b := topic.Levels("a/b/c"), topic.Levels("a/b/c")
	a[0], a[2] = "x", "y"
	a = append(a[:1], "z")
	if !slices.Equal(b, []string{"a", "b", "c"}) || !slices.Equal(topic.Levels("a/b/c"), b) {
		t.Error("results share memory")
	}
	topic.Join(b)
	if !slices.Equal(b, []string{"a", "b", "c"}) || !slices.Equal(a, []string{"x", "z"}) {
		t.Error("Join modifies its argument")
	}
}

// P1.4
func TestShared(t *testing.T) {
	for _, x := range []struct{ s, group, filter string }{
		{"$share/g/a/+", "g", "a/+"}, {"$share/g/#", "g", "#"}, {"$share/g//", "g", "/"}, {"$share/g//a", "g", "/a"}, {"$share/g/$sys/#", "g", "$sys/#"},
		{"$share/g/$share", "g", "$share"}, {"$share/g/$shared/h/a", "g", "$shared/h/a"}, {"$share/g/a/$share/h", "g", "a/$share/h"}, {"$share/share/a", "share", "a"}, {"$share/a-9/a b", "a-9", "a b"},
		{"$share/abcdefghijklmnop/" + strings.Repeat("b", 64), "abcdefghijklmnop", strings.Repeat("b", 64)},
		{"$share/g/a/b/c/d/e/f/g/h", "g", "a/b/c/d/e/f/g/h"},
	} {
		group, filter, ok := topic.Shared(x.s)
		if group != x.group || filter != x.filter || !ok {
			t.Errorf("Shared(%q) = %q, %q, %v", x.s, group, filter, ok)
		}
	}
	for _, s := range []string{
		"", "a", "$", "$share", "$share/", "$share//", "$share//a", "$share/g", "$share/g/", "/$share/g/a", "share/g/a", "$shared/g/a", "$Share/g/a", " $share/g/a",
		"$share/G/a", "$share/9/a", "$share/-g/a", "$share/g g/a", "$share/+/a", "$share/#", "$share/#/a", "$share/abcdefghijklmnopq/a",
		"$share/g/a/#/b", "$share/g/a+", "$share/g/#/", "$share/g/\x00", "$share/g/$share/", "$share/g/$share/h/a", "$share/g/$share/h",
		"$share/g/" + strings.Repeat("b", 65), "$share/g/a/b/c/d/e/f/g/h/i",
	} {
		if group, filter, ok := topic.Shared(s); group != "" || filter != "" || ok {
			t.Errorf("Shared(%q) = %q, %q, %v", s, group, filter, ok)
		}
	}
}

// P1.5
func TestSystem(t *testing.T) {
	for s, want := range map[string]bool{"$": true, "$sys": true, "$sys/a": true, "$share/g/a": true, "$$": true, "": false, "a": false, "a$": false, "/$sys": false, " $": false, "\x00$": false, "+": false} {
		if topic.System(s) != want {
			t.Errorf("System(%q) = %v", s, !want)
		}
	}
}

// P1.6
func TestLevelsInvertJoin(t *testing.T) {
	for _, s := range every([]string{"a", "bc", "/", "+", "#", "\xff"}, 5) {
		levels := topic.Levels(s)
		if len(levels) != strings.Count(s, "/")+1 || topic.Join(levels) != s {
			t.Errorf("Join of the levels of %q", s)
		}
		for _, level := range levels {
			if strings.Contains(level, "/") {
				t.Errorf("level %q of %q", level, s)
			}
		}
	}
	for _, list := range [][]string{{""}, {"", ""}, {"a"}, {"a", "", "b"}, {"+", "#"}, {"\x00"}} {
		if got := topic.Levels(topic.Join(list)); !slices.Equal(got, list) {
			t.Errorf("Levels of what Join joined: %q, not %q", got, list)
		}
	}
}
