package exchange

import (
	"slices"
	"strings"

	"broker/api"
)

// envelope is what exchanges see of a message.
type envelope struct {
	key   string
	props []api.Prop
}

// kind is a kind of exchanges: it decides which of their bindings take a message.
type kind interface {
	takes(b api.Binding, e envelope) bool
}

// direct takes messages with the key of the binding.
type direct struct{}

func (direct) takes(b api.Binding, e envelope) bool { return b.Key == e.key }

// fanout takes all messages.
type fanout struct{}

func (fanout) takes(b api.Binding, e envelope) bool { return true }

// topical takes messages whose key the pattern of the binding matches.
type topical struct{}

func (topical) takes(b api.Binding, e envelope) bool { return Matches(b.Key, e.key) }

// headers takes messages that have the properties of the binding, all of them or at least one.
type headers struct{}

func (headers) takes(b api.Binding, e envelope) bool {
	has := func(x api.Prop) bool { return slices.Contains(e.props, x) }
	if b.All {
		return !slices.ContainsFunc(b.Match, func(x api.Prop) bool { return !has(x) })
	}
	return slices.ContainsFunc(b.Match, has)
}

// kindOf returns the kind with a number, and whether there is one.
func kindOf(number int) (kind, bool) {
	switch number {
	case api.Direct:
		return direct{}, true
	case api.Fanout:
		return fanout{}, true
	case api.Topical:
		return topical{}, true
	case api.Headers:
		return headers{}, true
	}
	return nil, false
}

const (
	// anyWord stands for one word, anyWords for any number of words.
	anyWord  = "*"
	anyWords = "#"
)

// words returns the pieces of a routing key or pattern between its points.
func words(s string) []string { return strings.Split(s, ".") }

// matchWords reports whether the words of a pattern match those of a key.
func matchWords(pattern, key []string) bool {
	at, read := 0, 0
	// Only the last # that was passed has to take more words when a match fails: an earlier one took the fewest that it could.
	many, taken := -1, 0
	for read < len(key) {
		switch {
		case at < len(pattern) && pattern[at] == anyWords:
			many, taken = at, read
			at++
		case at < len(pattern) && (pattern[at] == anyWord || pattern[at] == key[read]):
			at++
			read++
		case many >= 0:
			taken++
			at, read = many+1, taken
		default:
			return false
		}
	}
	rest := pattern[at:]
	return !slices.ContainsFunc(rest, func(word string) bool { return word != anyWords })
}
