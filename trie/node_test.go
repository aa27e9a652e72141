package trie

import (
	"testing"

	"broker/api"
)

// An index keeps nothing of subscriptions that were removed.
func TestPrune(t *testing.T) {
	list := []string{"a/b/c/d/e/f/g/h", "a/b", "a/b/#", "+/b", "/", "#", "a", "a/b/c"}
	x := New()
	for _, filter := range list {
		x.Add("a", api.Sub{Filter: filter})
		x.Add("b", api.Sub{Filter: filter})
	}
	x.Drop("a")
	for _, filter := range list {
		x.Remove("b", filter)
	}
	if len(x.root.next) != 0 {
		t.Errorf("after Remove: %v", x.root.next)
	}
	for _, filter := range list {
		x.Add("a", api.Sub{Filter: filter})
	}
	x.Drop("a")
	if len(x.root.next) != 0 {
		t.Errorf("after Drop: %v", x.root.next)
	}
}
