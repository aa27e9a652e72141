// Package match is layer 2 (matching of topic filters): see shared/doc/02-match.md.
package match

import "broker/topic"

// anyLevel stands where two filters agree on every level and Common has to name one.
const anyLevel = "x"

// Matches reports whether a filter matches a topic name. A topic name is a filter without wildcards, and such a filter is covered exactly if it is matched.
func Matches(filter, name string) bool {
	return topic.Valid(name) && Covers(filter, name)
}

// Covers reports whether the filter a covers the filter b, level by level.
func Covers(a, b string) bool {
	if !topic.Filter(a) || !topic.Filter(b) || blind(a, b) {
		return false
	}
	return covers(topic.Levels(a), topic.Levels(b))
}

// Meets reports whether two filters have a topic name in common, level by level.
func Meets(a, b string) bool {
	_, ok := Common(a, b)
	return ok
}

// Common returns a sequence of levels that both filters match, joined, and whether there is one.
func Common(a, b string) (string, bool) {
	if !topic.Filter(a) || !topic.Filter(b) || blind(a, b) || blind(b, a) {
		return "", false
	}
	list, ok := common(topic.Levels(a), topic.Levels(b))
	if !ok {
		return "", false
	}
	// A list of one empty level is not an empty list, although both join to the empty text.
	if len(list) == 0 {
		list = append(list, anyLevel)
	}
	return topic.Join(list), true
}

// Narrow returns the filters of l that no other one covers, in order.
func Narrow(l []string) []string {
	var kept []string
	for i, filter := range l {
		if topic.Filter(filter) && !displaced(l, i) {
			kept = append(kept, filter)
		}
	}
	return kept
}

// Select returns the topic names of l that the filter matches, in order.
func Select(filter string, l []string) []string {
	var kept []string
	for _, name := range l {
		if Matches(filter, name) {
			kept = append(kept, name)
		}
	}
	return kept
}

// displaced reports whether another element of l covers the filter l[i]. Equal filters cover each other, so of these only an earlier one counts.
func displaced(l []string, i int) bool {
	for j, other := range l {
		if (j < i || other != l[i]) && Covers(other, l[i]) {
			return true
		}
	}
	return false
}

// blind reports whether filter cannot see other because it begins with a wildcard and other with a dollar sign.
func blind(filter, other string) bool {
	return topic.System(other) && wildcard(topic.Levels(filter)[0]) != 0
}

// wildcard returns the wildcard in a level of a filter, or 0. A level of a filter that contains a wildcard consists of it.
func wildcard(level string) rune {
	for _, c := range level {
		if c == '+' || c == '#' {
			return c
		}
	}
	return 0
}

// covers reports whether the levels of a filter cover those of another one.
func covers(a, b []string) bool {
levels:
	for i, level := range a {
		switch wildcard(level) {
		case '#':
			return true
		case '+':
			// What # stands for may be no level at all, so one + does not cover it.
			if i < len(b) && b[i] != "#" {
				continue levels
			}
			return false
		}
		if i == len(b) || level != b[i] {
			return false
		}
	}
	return len(a) == len(b)
}

// common returns the levels on which the levels of two filters agree, and whether they meet.
func common(a, b []string) ([]string, bool) {
	var list []string
	i := 0
levels:
	for i < len(a) && i < len(b) {
		x, y := wildcard(a[i]), wildcard(b[i])
		switch {
		case x == '#' || y == '#':
			break levels
		case x == 0 && y == 0 && a[i] != b[i]:
			return nil, false
		case x == 0:
			list = append(list, a[i])
		case y == 0:
			list = append(list, b[i])
		default:
			list = append(list, anyLevel)
		}
		i++
	}
	a, b = a[i:], b[i:]
	if !open(a) && !open(b) && len(a) != len(b) {
		return nil, false
	}
	// One of the two rests is # or nothing, which adds no level.
	return append(append(list, plain(a)...), plain(b)...), true
}

// open reports whether # is the next one of the levels that remain of a filter.
func open(rest []string) bool { return len(rest) > 0 && rest[0] == "#" }

// plain returns the levels that remain of a filter without wildcards: some level for each +, nothing for #.
func plain(rest []string) []string {
	var list []string
	for _, level := range rest {
		switch wildcard(level) {
		case '#':
		case '+':
			list = append(list, anyLevel)
		default:
			list = append(list, level)
		}
	}
	return list
}
