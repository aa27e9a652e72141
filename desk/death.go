package desk

import (
	"broker/api"
	"broker/dead"
	"broker/exchange"
	"broker/queue"
)

// death says which message died, for which reason, and what the queue was like in which it died.
type death struct {
	spec    api.Spec
	message api.Message
	reason  int
}

// die counts and notes the death of an entry that was taken out of a queue with this description.
func (d *Desk) die(s api.Spec, e api.Entry, reason int) {
	d.counters.Dead++
	d.deaths = append(d.deaths, death{s, e.Message, reason})
}

// sendLetters sends the dead letters of the entries that died, in the order in which they died.
func (d *Desk) sendLetters(now int) {
	for _, x := range d.deaths {
		if x.spec.Dead != "" && dead.Again(x.message) {
			d.sendLetter(x, now)
		}
	}
	d.deaths = nil
}

// sendLetter publishes a dead message to the queues that it reaches, as far as they have room for it.
func (d *Desk) sendLetter(x death, now int) {
	m := dead.Mark(x.spec.Name, x.message, x.reason)
	// With an error no queue is reached, and the message is dropped.
	reached, _ := exchange.Route(d.routes, x.spec.Dead, x.spec.Name, m.Props)
	for _, name := range reached {
		if q, found := d.queues[name]; found {
			d.push(q, m, now)
		}
	}
}

// push adds a message to a queue, which replaces the one of its name. A queue that has no room for it stays as it is.
func (d *Desk) push(q api.Queue, m api.Message, now int) api.Errno {
	q, code := queue.Push(q, m, now)
	if code == api.OK {
		d.queues[q.Spec.Name] = q
		d.counters.Published++
	}
	return code
}

// comeBack returns the entries of deliveries to their queues, as far as they are not dead.
func (d *Desk) comeBack(l []api.Lease, now int) {
	for _, x := range l {
		q := d.queues[x.Queue]
		if reason := dead.Reason(q.Spec, x.Entry, now); reason != 0 {
			d.die(q.Spec, x.Entry, reason)
			continue
		}
		// There is no error: the entry is one of this queue, and a queue has room for all that was delivered from it.
		if q, code := queue.Return(q, x.Entry); code == api.OK {
			d.queues[x.Queue] = q
		}
	}
}

// expire removes what is expired at an instant, and sends the dead letters for it.
func (d *Desk) expire(now int) {
	for _, name := range d.names() {
		gone, left := queue.Expire(d.queues[name], now)
		d.queues[name] = left
		for _, e := range gone {
			d.die(left.Spec, e, api.DeadExpired)
		}
	}
	d.sendLetters(now)
}
