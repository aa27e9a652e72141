package trie

import "broker/api"

// node holds the subscriptions to the filter whose levels lead to it, by client, and the nodes to which one level more leads.
// A node below the root holds a subscription, or a node below it does; a node that is nil holds nothing.
type node struct {
	subs map[string]api.Sub
	next map[string]*node
}

// holds reports whether a client has a subscription to the filter of the levels that remain.
func (n *node) holds(levels []string, client string) bool {
	for _, level := range levels {
		if n = n.next[level]; n == nil {
			return false
		}
	}
	_, found := n.subs[client]
	return found
}

// add makes s the subscription of a client to the filter of the levels.
func (n *node) add(levels []string, client string, s api.Sub) {
	for _, level := range levels {
		if n.next == nil {
			n.next = map[string]*node{}
		}
		below := n.next[level]
		if below == nil {
			below = &node{}
			n.next[level] = below
		}
		n = below
	}
	if n.subs == nil {
		n.subs = map[string]api.Sub{}
	}
	n.subs[client] = s
}

// remove removes the subscription of a client to the filter of the levels that remain, which is there.
func (n *node) remove(levels []string, client string) {
	if len(levels) == 0 {
		delete(n.subs, client)
		return
	}
	n.next[levels[0]].remove(levels[1:], client)
	n.prune(levels[0])
}

// drop removes all subscriptions of a client from n on, and returns how many there were.
func (n *node) drop(client string) int {
	before := len(n.subs)
	delete(n.subs, client)
	dropped := before - len(n.subs)
	for level, below := range n.next {
		dropped += below.drop(client)
		n.prune(level)
	}
	return dropped
}

// prune removes the node to which a level leads if nothing is left of it.
func (n *node) prune(level string) {
	if below := n.next[level]; len(below.subs) == 0 && len(below.next) == 0 {
		delete(n.next, level)
	}
}

// match returns the subscriptions that match the levels of a topic name that remain. Blind is set where wildcards do not count.
func (n *node) match(levels []string, blind bool) []api.Hit {
	if n == nil {
		return nil
	}
	var hits []api.Hit
	if !blind {
		hits = n.next[rest].hits()
	}
	if len(levels) == 0 {
		return append(hits, n.hits()...)
	}
	if !blind {
		hits = append(hits, n.next[one].match(levels[1:], false)...)
	}
	return append(hits, n.next[levels[0]].match(levels[1:], false)...)
}

// all returns the subscriptions from n on.
func (n *node) all() []api.Hit {
	hits := n.hits()
	for _, below := range n.next {
		hits = append(hits, below.all()...)
	}
	return hits
}

// hits returns the subscriptions to the filter that leads to n.
func (n *node) hits() []api.Hit {
	if n == nil {
		return nil
	}
	var l []api.Hit
	for client, s := range n.subs {
		l = append(l, api.Hit{Client: client, Sub: s})
	}
	return l
}
