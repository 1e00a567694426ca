package zab

import (
	"outrider/api"
	"outrider/ballot"
)

// hearing is what a message of some kind does to a node, and has it tell.
type hearing func(z *Node, from int, m api.Msg) []Out

// hearings answers those of all kinds.
func hearings() map[uint8]hearing {
	return map[uint8]hearing{
		api.MsgStand:   (*Node).hearStand,
		api.MsgPromise: (*Node).hearPromise,
		api.MsgRefuse:  (*Node).hearRefuse,
		api.MsgAdopt:   (*Node).hearAdopt,
		api.MsgAppend:  (*Node).hearAppend,
		api.MsgAck:     (*Node).hearAck,
	}
}

// hearStand promises a greater epoch.
func (z *Node) hearStand(from int, m api.Msg) []Out {
	k := z.store.Kept()
	switch {
	case !z.owns(from, m.Epoch):
		return nil
	case m.Epoch <= k.Promised:
		return z.refuse(from, k.Promised)
	case z.store.Promise(m.Epoch) != api.OK:
		return nil
	}
	z.follow()
	return z.tell(from, api.Msg{Kind: api.MsgPromise, Epoch: m.Epoch, Current: k.Current, Lines: k.Lines})
}

// hearPromise counts a promise of the epoch with which the node stands, of each node one.
func (z *Node) hearPromise(from int, m api.Msg) []Out {
	s, ok := z.role.(*standing)
	if !ok || m.Epoch != s.epoch() || m.Current >= m.Epoch {
		return nil
	}
	s.promises[from] = promise{m.Current, m.Lines}
	return z.lead(s)
}

// hearRefuse gives up an epoch that is below another one.
func (z *Node) hearRefuse(_ int, m api.Msg) []Out {
	switch r := z.role.(type) {
	case *standing, *leading:
		if m.Epoch > r.epoch() {
			z.follow()
		}
	}
	return nil
}

// hearAdopt takes over the leader's log, once: of the same epoch it has that already, or more, but acks again what it has.
func (z *Node) hearAdopt(from int, m api.Msg) []Out {
	k := z.store.Kept()
	switch {
	case !z.owns(from, m.Epoch):
		return nil
	case m.Epoch < k.Promised:
		return z.refuse(from, k.Promised)
	case m.Epoch != k.Current && z.store.Adopt(m.Epoch, m.Lines) != api.OK:
		return nil
	}
	z.follow()
	held := len(z.lines())
	z.committed = min(z.committed, held)
	return z.ack(from, m.Epoch, held)
}

// hearAppend puts the leader's lines behind those that are held.
func (z *Node) hearAppend(from int, m api.Msg) []Out {
	k := z.store.Kept()
	switch {
	case !z.owns(from, m.Epoch):
		return nil
	case m.Epoch < k.Promised:
		return z.refuse(from, k.Promised)
	case m.Epoch != k.Promised || m.Epoch != k.Current:
		return nil
	}
	z.follow()
	held := len(k.Lines)
	if m.At > held { // what lies between is not known
		return nil
	}
	fresh := m.Lines[min(held-m.At, len(m.Lines)):]
	if len(fresh) > 0 && z.store.Append(fresh) != api.OK {
		return nil
	}
	held += len(fresh)
	z.committed = max(z.committed, min(m.Commit, held))
	return z.ack(from, m.Epoch, held)
}

// hearAck takes down how far a node acked: never back, and never beyond what there is to ack.
func (z *Node) hearAck(from int, m api.Msg) []Out {
	l, ok := z.role.(*leading)
	if !ok || m.Epoch != l.epoch() {
		return nil
	}
	l.acked[from] = max(l.acked[from], min(m.At, len(z.lines())))
	z.count(l)
	return nil
}

// owns tells whether a node owns an epoch: its leader alone may tell of it.
func (z *Node) owns(node int, e uint64) bool { return ballot.Owner(e, z.size) == node }

// refuse tells a node which greater epoch was promised.
func (z *Node) refuse(to int, promised uint64) []Out {
	return z.tell(to, api.Msg{Kind: api.MsgRefuse, Epoch: promised})
}

// ack tells the leader of an epoch how many lines are held.
func (z *Node) ack(to int, e uint64, held int) []Out {
	return z.tell(to, api.Msg{Kind: api.MsgAck, Epoch: e, At: held})
}
