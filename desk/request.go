package desk

import (
	"maps"
	"slices"

	"broker/api"
	"broker/dead"
	"broker/exchange"
	"broker/fair"
	"broker/lease"
	"broker/queue"
	"broker/tx"
)

// execute executes a request that is valid in its form; it returns the number for the reply. With an error nothing is changed.
func (d *Desk) execute(r api.Request, now int) (int, api.Errno) {
	switch r.Kind {
	case api.ReqExchange:
		return d.reroute(exchange.Declare(d.routes, r.Exchange))
	case api.ReqQueue:
		return d.declare(r.Spec)
	case api.ReqBind:
		return d.bind(r.Binding)
	case api.ReqUnbind:
		return d.reroute(exchange.Unbind(d.routes, r.Binding))
	case api.ReqPublish:
		return d.publish(r, now)
	case api.ReqConsume:
		return d.consume(r)
	case api.ReqCancel:
		return d.cancel(r, now)
	case api.ReqAck:
		return d.ack(r)
	case api.ReqNack:
		return d.nack(r, now)
	case api.ReqBegin:
		return d.begin(r.Conn)
	case api.ReqCommit:
		return d.commit(r.Conn, now)
	case api.ReqRollback:
		return d.rollback(r.Conn)
	case api.ReqPurge:
		return d.purge(r.Name)
	case api.ReqDelete:
		return d.remove(r.Name)
	case api.ReqDescribe:
		return d.describe(r.Name)
	}
	return 0, api.ErrKind
}

// reroute replaces the routes, unless there is an error.
func (d *Desk) reroute(t api.Routes, code api.Errno) (int, api.Errno) {
	if code == api.OK {
		d.routes = t
	}
	return 0, code
}

// declare makes a queue, or counts the entries of the equal one that is there.
func (d *Desk) declare(s api.Spec) (int, api.Errno) {
	if q, found := d.queues[s.Name]; found {
		if q.Spec != s {
			return 0, api.ErrExists
		}
		return len(q.Ready), api.OK
	}
	q, code := queue.New(s)
	if code != api.OK {
		return 0, code
	}
	if len(d.queues) >= api.MaxList {
		return 0, api.ErrFull
	}
	d.queues[s.Name] = q
	return 0, api.OK
}

// bind adds a binding to a queue that is there.
func (d *Desk) bind(b api.Binding) (int, api.Errno) {
	if _, found := d.queues[b.Queue]; !found {
		return 0, api.ErrNotFound
	}
	return d.reroute(exchange.Bind(d.routes, b))
}

// publish puts a message into the queues that it reaches, and counts them.
func (d *Desk) publish(r api.Request, now int) (int, api.Errno) {
	reached, code := exchange.Route(d.routes, r.Name, r.Key, r.Message.Props)
	if code != api.OK {
		return 0, code
	}
	count := 0
	for _, name := range reached {
		q, found := d.queues[name]
		if !found || dead.Reason(q.Spec, api.Entry{Arrived: now, Message: r.Message}, now) != 0 {
			continue
		}
		room, displaced := makeRoom(q)
		if code := d.push(room, r.Message, now); code != api.OK {
			return 0, code
		}
		for _, e := range displaced {
			d.die(q.Spec, e, api.DeadOverflow)
		}
		count++
	}
	return count, api.OK
}

// makeRoom returns a queue without the entries that a further one displaces, and these.
func makeRoom(q api.Queue) (api.Queue, []api.Entry) {
	var displaced []api.Entry
	q.Ready = slices.Clone(q.Ready)
	for len(q.Ready) >= q.Spec.Max {
		at := firstLowest(q.Ready)
		displaced = append(displaced, q.Ready[at])
		q.Ready = slices.Delete(q.Ready, at, at+1)
	}
	return q, displaced
}

// firstLowest returns the position of the first entry with the lowest priority; the priorities never increase.
func firstLowest(l []api.Entry) int {
	lowest := l[len(l)-1].Message.Priority
	return slices.IndexFunc(l, func(e api.Entry) bool { return e.Message.Priority == lowest })
}

// consume makes a consumer.
func (d *Desk) consume(r api.Request) (int, api.Errno) {
	if _, found := d.queues[r.Name]; !found {
		return 0, api.ErrNotFound
	}
	if _, found := d.consumer(r.Conn, r.Tag); found {
		return 0, api.ErrExists
	}
	number := d.made + 1
	consumers, code := fair.Add(d.consumers, api.Consumer{Tag: number, Conn: r.Conn, Queue: r.Name, Prefetch: r.Limit})
	if code != api.OK {
		return 0, code
	}
	d.consumers, d.made, d.tags[number] = consumers, number, r.Tag
	return 0, api.OK
}

// consumer returns the consumer for which a connection chose a tag.
func (d *Desk) consumer(conn, tag int) (api.Consumer, bool) {
	for _, c := range d.consumers {
		if c.Conn == conn && d.tags[c.Tag] == tag {
			return c, true
		}
	}
	return api.Consumer{}, false
}

// cancel removes a consumer, and counts the deliveries that come back.
func (d *Desk) cancel(r api.Request, now int) (int, api.Errno) {
	c, found := d.consumer(r.Conn, r.Tag)
	if !found {
		return 0, api.ErrNotFound
	}
	back := d.dismiss(c)
	d.comeBack(back, now)
	return len(back), api.OK
}

// ack settles deliveries for good, and counts them.
func (d *Desk) ack(r api.Request) (int, api.Errno) {
	settled, code := d.settle(r.Conn, r.Tag, r.Flag)
	d.counters.Acked += len(settled)
	return len(settled), code
}

// nack settles a delivery whose entry comes back or dies.
func (d *Desk) nack(r api.Request, now int) (int, api.Errno) {
	settled, code := d.settle(r.Conn, r.Tag, false)
	if r.Flag {
		d.comeBack(settled, now)
		return len(settled), code
	}
	for _, x := range settled {
		d.die(d.queues[x.Queue].Spec, x.Entry, api.DeadRejected)
	}
	return len(settled), code
}

// settle takes a delivery from a consumer of a connection, or all that this consumer has up to it, and returns them.
func (d *Desk) settle(conn, tag int, all bool) ([]api.Lease, api.Errno) {
	for _, c := range d.consumers {
		if c.Conn != conn {
			continue
		}
		left, settled, code := lease.Settle(d.leases, c.Tag, tag, all)
		if code == api.OK {
			d.leases = left
			d.consumers = fair.Count(d.consumers, conn, c.Tag, -len(settled))
			return settled, api.OK
		}
	}
	return nil, api.ErrNotFound
}

// purge removes the entries of a queue, and counts them.
func (d *Desk) purge(name string) (int, api.Errno) {
	q, found := d.queues[name]
	if !found {
		return 0, api.ErrNotFound
	}
	count := len(q.Ready)
	q.Ready = nil
	d.queues[name] = q
	d.counters.Purged += count
	return count, api.OK
}

// remove removes a queue and everything that belongs to it, and counts its entries and deliveries.
func (d *Desk) remove(name string) (int, api.Errno) {
	q, found := d.queues[name]
	if !found {
		return 0, api.ErrNotFound
	}
	count := len(q.Ready)
	// Only consumers of the queue have deliveries of it.
	for _, c := range d.consumers {
		if c.Queue == name {
			count += len(d.dismiss(c))
		}
	}
	delete(d.queues, name)
	delete(d.served, name)
	d.routes = exchange.Drop(d.routes, name)
	d.counters.Purged += count
	return count, api.OK
}

// describe counts the entries of a queue.
func (d *Desk) describe(name string) (int, api.Errno) {
	q, found := d.queues[name]
	if !found {
		return 0, api.ErrNotFound
	}
	return len(q.Ready), api.OK
}

// begin opens the transaction of a connection.
func (d *Desk) begin(conn int) (int, api.Errno) {
	t, code := tx.Begin(d.txs[conn])
	if code != api.OK {
		return 0, code
	}
	if len(d.txs) >= api.MaxClients {
		return 0, api.ErrFull
	}
	d.txs[conn] = t
	return 0, api.OK
}

// join adds a request to the open transaction of its connection.
func (d *Desk) join(t api.Tx, r api.Request) api.Errno {
	t, code := tx.Add(t, r)
	if code == api.OK {
		d.txs[r.Conn] = t
	}
	return code
}

// rollback closes the transaction of a connection, and counts the requests that are forgotten.
func (d *Desk) rollback(conn int) (int, api.Errno) {
	count := len(d.txs[conn].Requests)
	if _, code := tx.Rollback(d.txs[conn]); code != api.OK {
		return 0, code
	}
	delete(d.txs, conn)
	return count, api.OK
}

// commit closes the transaction of a connection, and executes its requests, all of them or none.
func (d *Desk) commit(conn, now int) (int, api.Errno) {
	_, requests, code := tx.Commit(d.txs[conn])
	if code != api.OK {
		return 0, code
	}
	delete(d.txs, conn)
	before := d.snapshot()
	for _, r := range requests {
		if _, code := d.execute(r, now); code != api.OK {
			*d = before
			return 0, code
		}
		d.sendLetters(now)
	}
	return len(requests), api.OK
}

// snapshot returns the desk as it is now, which later changes do not alter. Of its maps, the requests of a transaction change that of the queues alone.
func (d *Desk) snapshot() Desk {
	before := *d
	before.queues = maps.Clone(d.queues)
	return before
}
