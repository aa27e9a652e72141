// Package topic is layer 1 (topic names and filters): see shared/doc/01-topic.md.
package topic

import (
	"strings"

	"broker/api"
)

// sharePrefix begins the filter of every shared subscription.
const sharePrefix = "$share/"

// Name reports whether s is a name: 1 to MaxName bytes, lower-case letters, digits and hyphens, beginning with a letter.
func Name(s string) bool {
	if s == "" || len(s) > api.MaxName {
		return false
	}
	for i, c := range s {
		switch {
		case 'a' <= c && c <= 'z':
		case i > 0 && ('0' <= c && c <= '9' || c == '-'):
		default:
			return false
		}
	}
	return true
}

// Valid reports whether s is a topic name. Names and filters have the same bounds, so a name is a filter without wildcards.
func Valid(s string) bool {
	return Filter(s) && !strings.ContainsAny(s, "+#")
}

// Filter reports whether s is a topic filter. The length is checked first, so that a huge string is never divided.
func Filter(s string) bool {
	if s == "" || len(s) > api.MaxTopic {
		return false
	}
	parts := Levels(s)
	if len(parts) > api.MaxLevels {
		return false
	}
	last := len(parts) - 1
levels:
	for i, level := range parts {
		for _, c := range level {
			switch c {
			case 0:
				return false
			case '+':
				if level == "+" {
					continue levels
				}
				return false
			case '#':
				if level == "#" && i == last {
					continue levels
				}
				return false
			}
		}
	}
	return true
}

// Levels returns the levels of a string: what stands between the slashes.
func Levels(s string) []string { return strings.Split(s, "/") }

// Join returns levels joined by slashes.
func Join(levels []string) string { return strings.Join(levels, "/") }

// Shared splits the filter of a shared subscription, $share/group/filter, and reports whether s is one.
func Shared(s string) (string, string, bool) {
	rest, found := strings.CutPrefix(s, sharePrefix)
	if !found {
		return "", "", false
	}
	// Without a second slash the filter is empty, which is no topic filter.
	group, filter, _ := strings.Cut(rest, "/")
	if !Name(group) || !Filter(filter) || strings.HasPrefix(filter, sharePrefix) {
		return "", "", false
	}
	return group, filter, true
}

// System reports whether s begins with a dollar sign.
func System(s string) bool { return strings.HasPrefix(s, "$") }
