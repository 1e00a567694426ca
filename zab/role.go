package zab

import (
	"maps"
	"slices"

	"outrider/api"
	"outrider/ballot"
)

// patience and perNode say how many ticks a node waits: of a greater number longer, so that not all stand at once.
const (
	patience = 3
	perNode  = 2
)

// noAck stands for a node that acked no lines, not even none.
const noAck = -1

// role is what a node does: it follows, stands or leads, in the last two cases with an epoch of its own.
type role interface{ epoch() uint64 }

// following is the role of who has no epoch of its own.
type following struct{}

func (following) epoch() uint64 { return 0 }

// claim is the epoch of who stands or leads.
type claim uint64

func (c claim) epoch() uint64 { return uint64(c) }

// promise is what a node keeps that promised an epoch.
type promise struct {
	current uint64
	lines   []api.Line
}

// standing is the role of who gathers promises, by nodes.
type standing struct {
	claim
	promises map[int]promise
}

// leading is the role of who has a quorum of promises: base is how many lines it began with; acked has those nodes alone that acked.
type leading struct {
	claim
	base  int
	acked map[int]int
	ready bool
}

// follow lets the node follow, and wait from the start.
func (z *Node) follow() { z.role, z.waited = following{}, 0 }

// wait counts a tick, and stands behind enough of them.
func (z *Node) wait() []Out {
	z.waited++
	if z.waited <= patience+perNode*z.id {
		return nil
	}
	return z.stand()
}

// stand asks all others to promise the node's next epoch. The store refuses one that is 0 or above api.MaxNumber, too.
func (z *Node) stand() []Out {
	k := z.store.Kept()
	e := ballot.Next(max(k.Promised, z.seen), z.id, z.size)
	if z.store.Promise(e) != api.OK {
		return nil
	}
	s := &standing{claim: claim(e), promises: map[int]promise{z.id: {k.Current, k.Lines}}}
	z.role, z.waited = s, 0
	told := z.tellOthers(func(int) api.Msg { return api.Msg{Kind: api.MsgStand, Epoch: e} })
	return append(told, z.lead(s)...)
}

// lead lets who stands lead, if a quorum has promised.
func (z *Node) lead(s *standing) []Out {
	if len(s.promises) < ballot.Quorum(z.size) {
		return nil
	}
	lines := s.best().lines
	if z.store.Adopt(s.epoch(), lines) != api.OK {
		z.follow()
		return nil
	}
	l := &leading{claim: s.claim, base: len(lines), acked: map[int]int{}}
	z.role, z.committed = l, min(z.committed, l.base)
	z.count(l)
	return z.remind(l)
}

// best answers the best promise, of like ones that of the least node. None is worse than the zero value, and what is like that has no lines, either.
func (s *standing) best() promise {
	var best promise
	for _, node := range slices.Sorted(maps.Keys(s.promises)) {
		p := s.promises[node]
		if ballot.Better(p.current, len(p.lines), best.current, len(best.lines)) {
			best = p
		}
	}
	return best
}

// count looks how far a quorum acked. What it reached below the base says nothing: no line of that is committed ahead of all others there.
func (z *Node) count(l *leading) {
	match := slices.Repeat([]int{noAck}, z.size)
	for node, lines := range l.acked {
		match[node] = lines
	}
	match[z.id] = len(z.lines())
	if reached := ballot.Commit(match); reached >= l.base {
		l.ready = true
		z.committed = max(z.committed, reached)
	}
}

// remind tells each other node what the leader does not know it to have: the whole log, or the lines behind those that it acked.
func (z *Node) remind(l *leading) []Out {
	lines := z.lines()
	return z.tellOthers(func(to int) api.Msg {
		at, acked := l.acked[to]
		if !acked {
			return api.Msg{Kind: api.MsgAdopt, Epoch: l.epoch(), Lines: lines}
		}
		return api.Msg{Kind: api.MsgAppend, Epoch: l.epoch(), At: at, Commit: z.committed, Lines: lines[min(at, len(lines)):]}
	})
}
