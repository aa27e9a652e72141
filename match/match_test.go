package match_test

import (
	"slices"
	"strings"
	"testing"

	"broker/match"
	"broker/topic"
)

// all returns all texts of 1 to n of these levels.
func all(levels []string, n int) []string {
	var list []string
	row := []string{""}
	for i := range n {
		var next []string
		for _, s := range row {
			for _, level := range levels {
				if i > 0 {
					level = s + "/" + level
				}
				next = append(next, level)
			}
		}
		list = append(list, next...)
		row = next
	}
	return list
}

// filters returns many short topic filters.
func filters() []string {
	return slices.DeleteFunc(all([]string{"a", "b", "", "$s", "+", "#"}, 3), func(s string) bool { return !topic.Filter(s) })
}

// names returns many short topic names.
func names() []string {
	return slices.DeleteFunc(all([]string{"a", "b", "", "$s", "x"}, 4), func(s string) bool { return !topic.Valid(s) })
}

// The functions whose names end with ByDefinition follow the chapter's definitions literally, rest by rest.

func matchesByDefinition(filter, name []string) bool {
	if len(filter) > 0 && filter[0] == "#" {
		return true
	}
	if len(filter) == 0 || len(name) == 0 {
		return len(filter) == len(name)
	}
	return (filter[0] == "+" || filter[0] == name[0]) && matchesByDefinition(filter[1:], name[1:])
}

func coversByDefinition(a, b []string) bool {
	if len(a) == 1 && a[0] == "#" || len(a) == 0 && len(b) == 0 {
		return true
	}
	if len(a) == 0 || len(b) == 0 {
		return false
	}
	first := a[0] == "+" && b[0] != "#" || a[0] != "+" && a[0] != "#" && b[0] == a[0]
	return first && coversByDefinition(a[1:], b[1:])
}

func meetsByDefinition(a, b []string) bool {
	if len(a) == 1 && a[0] == "#" || len(b) == 1 && b[0] == "#" || len(a) == 0 && len(b) == 0 {
		return true
	}
	if len(a) == 0 || len(b) == 0 {
		return false
	}
	return (a[0] == b[0] || a[0] == "+" || b[0] == "+") && meetsByDefinition(a[1:], b[1:])
}

func commonByDefinition(a, b []string) []string {
	switch {
	case len(a) > 0 && len(b) > 0 && a[0] != "#" && b[0] != "#":
		level := a[0]
		if level == "+" {
			level = b[0]
		}
		if level == "+" {
			level = "x"
		}
		return append([]string{level}, commonByDefinition(a[1:], b[1:])...)
	case len(a) > 0 && a[0] != "#":
		return commonByDefinition(a, []string{"+", "#"})
	case len(b) > 0 && b[0] != "#":
		return commonByDefinition([]string{"+", "#"}, b)
	}
	return nil
}

func wild(s string) bool { return s[:1] == "+" || s[:1] == "#" }

func hides(filter, other string) bool { return wild(filter) && other[0] == '$' }

// P2.1
func TestMatches(t *testing.T) {
	for _, x := range []struct {
		filter, name string
		want         bool
	}{
		{"sport/+/score", "sport/tennis/score", true}, {"sport/+/score", "sport/tennis", false}, {"sport/+/score", "sport/a/b/score", false}, {"sport/+/score", "sport//score", true},
		{"sport/#", "sport", true}, {"sport/#", "sport/", true}, {"sport/#", "sport/a", true}, {"sport/#", "sport/a/b", true}, {"sport/#", "sports", false}, {"sport/#", "spor", false},
		{"+", "a", true}, {"+", "a/b", false}, {"+", "$sys", false}, {"+/+", "/", true}, {"+/+", "a", false}, {"+/a", "$sys/a", false}, {"a/+", "a/$sys", true},
		{"#", "a", true}, {"#", "a/b/c", true}, {"#", "/", true}, {"#", "$sys/a", false}, {"#", "$", false}, {"#", "a/$sys", true}, {"+/#", "a", true}, {"+/#", "$sys/a", false},
		{"$sys/#", "$sys/a", true}, {"$sys/#", "$sys", true}, {"$sys/+", "$sys/a", true}, {"$sys", "$sys", true}, {"$+", "$a", false},
		{"a", "a", true}, {"a", "b", false}, {"a", "A", false}, {"a", "a/", false}, {"a/", "a", false}, {"a//b", "a//b", true}, {"a/b", "a//b", false}, {"a/+", "a", false}, {"a/+", "a/", true}, {"a/+/#", "a", false}, {"a/+/#", "a/b", true},
		{"\xff", "\xff", true}, {"\xff", "\xfe", false}, {"\xff", "\uFFFD", false},
		{"", "", false}, {"", "a", false}, {"#", "", false}, {"a\x00", "a\x00", false}, {"#", "a\x00", false}, // not a filter, not a topic name
		{"a/b#", "a/b#", false}, {"a#", "a#", false}, {"#/a", "a/a", false}, {"a/#/b", "a/c/b", false}, {"a", "a/+", false}, {"a/+", "a/+", false}, {"+", "+", false}, {"#", "#", false}, {"a/#", "a/#", false},
		{"#", "1/2/3/4/5/6/7/8", true}, {"#", "1/2/3/4/5/6/7/8/9", false}, {"+/+/+/+/+/+/+/#", "1/2/3/4/5/6/7/8", true}, {"1/2/3/4/5/6/7/8/#", "1/2/3/4/5/6/7/8", false},
		{"#", strings.Repeat("a", 64), true}, {"#", strings.Repeat("a", 65), false},
	} {
		if got := match.Matches(x.filter, x.name); got != x.want {
			t.Errorf("Matches(%q, %q) = %v", x.filter, x.name, got)
		}
	}
}

// P2.1, for all short filters and names.
func TestMatchesByDefinition(t *testing.T) {
	for _, f := range filters() {
		for _, n := range names() {
			want := matchesByDefinition(topic.Levels(f), topic.Levels(n)) && !hides(f, n)
			if match.Matches(f, n) != want {
				t.Errorf("Matches(%q, %q) = %v", f, n, !want)
			}
		}
	}
}

// P2.2 and P2.3, the examples and the edge cases.
func TestPairs(t *testing.T) {
	for _, x := range []struct {
		a, b          string
		covers, meets bool
		common        string
	}{
		{"a/#", "a", true, true, "a"}, {"a/#", "a/+", true, true, "a/x"}, {"a/#", "a/+/b/#", true, true, "a/x/b"}, {"a/#", "a/#", true, true, "a"}, {"a/#", "a/", true, true, "a/"},
		{"+/#", "#", false, true, "x"}, {"#", "+/#", true, true, "x"}, {"#", "#", true, true, "x"}, {"#", "+", true, true, "x"}, {"+", "#", false, true, "x"}, {"#", "+/+", true, true, "x/x"},
		{"a/+", "a/#", false, true, "a/x"}, {"a/+/#", "a/#", false, true, "a/x"}, {"+/+", "a/#", false, true, "a/x"},
		{"a/+/c", "+/b/#", false, true, "a/b/c"}, {"a/#", "+/+", false, true, "a/x"}, {"+/b", "a/+", false, true, "a/b"}, {"+/#", "+", true, true, "x"}, {"+/#", "a/b/c", true, true, "a/b/c"},
		{"+", "a", true, true, "a"}, {"a", "+", false, true, "a"}, {"+", "+", true, true, "x"}, {"a", "a", true, true, "a"}, {"+", "x", true, true, "x"},
		{"a", "b", false, false, ""}, {"a/b", "a", false, false, ""}, {"a", "a/b", false, false, ""}, {"a/+", "a", false, false, ""}, {"a/+/#", "a", false, false, ""}, {"a/b/#", "a", false, false, ""}, {"a/#", "b/#", false, false, ""}, {"a/b", "a/c/#", false, false, ""}, {"+", "a/b", false, false, ""}, {"a/+", "b/+", false, false, ""},
		{"#", "$sys/a", false, false, ""}, {"$sys/a", "#", false, false, ""}, {"+", "$sys", false, false, ""}, {"$sys", "+", false, false, ""}, {"+/#", "$sys/#", false, false, ""}, {"+/a", "$sys/a", false, false, ""},
		{"$sys/#", "$sys/+", true, true, "$sys/x"}, {"$sys", "$sys", true, true, "$sys"}, {"$sys/+", "$sys/#", false, true, "$sys/x"}, {"$a/#", "$b/#", false, false, ""}, {"a/+", "a/$b", true, true, "a/$b"}, {"a/#", "a/$b", true, true, "a/$b"},
		{"#", "/#", true, true, ""}, {"+", "/#", false, true, ""}, {"/#", "/#", true, true, ""}, {"#", "/", true, true, "/"}, {"/#", "/+", true, true, "/x"}, // one empty level is a list that is not empty
		{"\xff/+", "\xff/\xfe", true, true, "\xff/\xfe"}, {"\xff", "\xfe", false, false, ""},
		{"", "", false, false, ""}, {"#", "", false, false, ""}, {"", "#", false, false, ""}, {"a+", "a", false, false, ""}, {"a", "a+", false, false, ""}, {"a+", "a+", false, false, ""}, {"#", "a/#/b", false, false, ""}, {"a/#/b", "a/c/b", false, false, ""}, {"#", "a\x00", false, false, ""}, {"#", "////////", false, false, ""}, {"#", strings.Repeat("a", 65), false, false, ""},
	} {
		if got := match.Covers(x.a, x.b); got != x.covers {
			t.Errorf("Covers(%q, %q) = %v", x.a, x.b, got)
		}
		if match.Meets(x.a, x.b) != x.meets || match.Meets(x.b, x.a) != x.meets {
			t.Errorf("Meets(%q, %q) is not %v", x.a, x.b, x.meets)
		}
		if got, ok := match.Common(x.a, x.b); got != x.common || ok != x.meets {
			t.Errorf("Common(%q, %q) = %q, %v", x.a, x.b, got, ok)
		}
		if got, ok := match.Common(x.b, x.a); got != x.common || ok != x.meets {
			t.Errorf("Common(%q, %q) = %q, %v", x.b, x.a, got, ok)
		}
	}
}

// P2.3: the result may be longer than a topic name.
func TestCommonLong(t *testing.T) {
	a, b := strings.Repeat("a", 40), strings.Repeat("b", 40)
	if got, ok := match.Common(a+"/+", "+/"+b); got != a+"/"+b || !ok {
		t.Errorf("%q, %v", got, ok)
	}
}

// P2.2 and P2.3, for all short filters and for the topic names among them.
func TestPairsByDefinition(t *testing.T) {
	list := filters()
	for _, a := range list {
		for _, b := range list {
			x, y := topic.Levels(a), topic.Levels(b)
			if want := coversByDefinition(x, y) && !hides(a, b); match.Covers(a, b) != want {
				t.Errorf("Covers(%q, %q) = %v", a, b, !want)
			}
			meets, want := meetsByDefinition(x, y) && !hides(a, b) && !hides(b, a), ""
			if match.Meets(a, b) != meets {
				t.Errorf("Meets(%q, %q) = %v", a, b, !meets)
			}
			if meets {
				levels := commonByDefinition(x, y)
				if len(levels) == 0 {
					levels = []string{"x"}
				}
				want = strings.Join(levels, "/")
			}
			if got, ok := match.Common(a, b); got != want || ok != meets {
				t.Errorf("Common(%q, %q) = %q, %v", a, b, got, ok)
			}
		}
	}
}

// P2.4
func TestNarrow(t *testing.T) {
	for _, x := range []struct{ l, want []string }{
		{nil, nil}, {[]string{}, nil}, {[]string{""}, nil}, {[]string{"a+", "#/a", "a\x00"}, nil},
		{[]string{"a/b", "a/#", "+/b", "a/#"}, []string{"a/#", "+/b"}},
		{[]string{"a"}, []string{"a"}}, {[]string{"a", "a", "a"}, []string{"a"}}, {[]string{"b", "a", "b", "a"}, []string{"b", "a"}}, {[]string{"a/#", "b", "a/#"}, []string{"a/#", "b"}},
		{[]string{"a", "+", "b"}, []string{"+"}}, {[]string{"+", "a", "#"}, []string{"#"}}, {[]string{"#", "+/#"}, []string{"#"}}, {[]string{"+/#", "#"}, []string{"#"}},
		{[]string{"+/#", "+", "a/b"}, []string{"+/#"}}, {[]string{"$sys/a", "#", "$sys/+"}, []string{"#", "$sys/+"}},
		{[]string{"a+", "a", "a+"}, []string{"a"}}, {[]string{"#/a", "a", "+/b"}, []string{"a", "+/b"}}, // what is no filter covers nothing
		{[]string{"a/+/c", "+/b/c", "a/b/+"}, []string{"a/+/c", "+/b/c", "a/b/+"}}, // they meet, but none covers another one
	} {
		if got := match.Narrow(x.l); !slices.Equal(got, x.want) {
			t.Errorf("Narrow(%q) = %q", x.l, got)
		}
	}
}

// P2.5
func TestSelect(t *testing.T) {
	for _, x := range []struct {
		filter  string
		l, want []string
	}{
		{"a/+", []string{"a", "a/b", "a/+", "a/c", "a/b", "b/a"}, []string{"a/b", "a/c", "a/b"}},
		{"#", []string{"b", "$sys", "a", "", "#", "a/\x00"}, []string{"b", "a"}},
		{"$sys/#", []string{"$sys/b", "sys", "$sys"}, []string{"$sys/b", "$sys"}},
		{"a", []string{"b", "c"}, nil}, {"a", nil, nil}, {"", []string{"", "a"}, nil}, {"a#", []string{"a#", "a"}, nil}, {"#/a", []string{"a", "a/a"}, nil},
	} {
		if got := match.Select(x.filter, x.l); !slices.Equal(got, x.want) {
			t.Errorf("Select(%q, %q) = %q", x.filter, x.l, got)
		}
	}
}

// P2.4, P2.5 and R5: the arguments stay as they are, and the results are new memory.
func TestListsAreNew(t *testing.T) {
	for _, f := range []func([]string) []string{match.Narrow, func(l []string) []string { return match.Select("+", l) }} {
		l := []string{"a/b", "b", "c", "d"}[:3]
		l = append(l, "a/#/b")[:3]
		got := f(l)
		if len(got) < 2 {
			t.Fatalf("%q", got)
		}
		got[0], got[1] = "x", "y"
		_ = append(got, "z")
		if !slices.Equal(l[:4], []string{"a/b", "b", "c", "a/#/b"}) {
			t.Errorf("the argument is changed: %q", l[:4])
		}
		if again := f(l); slices.Contains(again, "x") || slices.Contains(again, "y") {
			t.Errorf("results share memory: %q", again)
		}
	}
}

// P2.6, for pairs of filters.
func TestPairsAndNames(t *testing.T) {
	list := filters()
	matched := map[string][]string{}
	for _, f := range list {
		matched[f] = match.Select(f, names())
	}
	for _, a := range list {
		for _, b := range list {
			both := slices.ContainsFunc(matched[a], func(n string) bool { return match.Matches(b, n) })
			if both && !match.Meets(a, b) {
				t.Errorf("%q and %q match the same name and do not meet", a, b)
			}
			if match.Covers(a, b) && slices.ContainsFunc(matched[b], func(n string) bool { return !match.Matches(a, n) }) {
				t.Errorf("%q covers %q and matches less", a, b)
			}
			if n, ok := match.Common(a, b); ok && topic.Valid(n) && (!match.Matches(a, n) || !match.Matches(b, n)) {
				t.Errorf("%q and %q do not match their common name %q", a, b, n)
			}
		}
	}
}

// P2.6, for lists of filters.
func TestNarrowAndNames(t *testing.T) {
	list := filters()
	for i := range list {
		l := []string{list[i], list[i*7%len(list)], list[i*31%len(list)], "a/+", list[i*101%len(list)], list[(i*13+5)%len(list)], "a+"}
		small := match.Narrow(l)
		for _, n := range names() {
			matches := func(f string) bool { return match.Matches(f, n) }
			if slices.ContainsFunc(l, matches) != slices.ContainsFunc(small, matches) {
				t.Fatalf("Narrow(%q) = %q loses %q", l, small, n)
			}
		}
	}
}
