package share

import "slices"

// team is the members of a group, in the order in which they joined, and its position: passed members stand before it.
// Behind the last member the position is not the same as before the first one: who joins then is the next one.
type team struct {
	members []string
	passed  int
}

// join makes a client the last member, and reports whether it was not a member.
func (t *team) join(client string) bool {
	if slices.Contains(t.members, client) {
		return false
	}
	t.members = append(t.members, client)
	return true
}

// leave removes a client, and reports whether it was a member.
func (t *team) leave(client string) bool {
	i := slices.Index(t.members, client)
	if i < 0 {
		return false
	}
	t.members = slices.Delete(t.members, i, i+1)
	if i < t.passed {
		t.passed--
	}
	return true
}

// choose returns the first of the members in turn that is online, or the first of them if none is, and moves the position behind it. There is a member.
func (t *team) choose(online map[string]bool) string {
	count := len(t.members)
	chosen := t.passed % count
	for i := range count {
		if at := (t.passed + i) % count; online[t.members[at]] {
			chosen = at
			break
		}
	}
	t.passed = chosen + 1
	return t.members[chosen]
}
