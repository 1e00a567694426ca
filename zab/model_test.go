package zab_test

import (
	"slices"

	"outrider/api"
)

// told is a message that a node tells.
type told struct {
	to int
	m  api.Msg
}

// The roles of a model.
const (
	follows = iota
	stands
	leads
)

// model is another reading of the chapter: a node that keeps all in plain numbers, with a store that never loses its power.
type model struct {
	id, n, pages int
	p, c         uint64
	l            []api.Line
	role         int
	own, seen    uint64
	waited, k    int
	votes        []api.Msg // of who stands: its own first, then what it heard, with At being the node
	acks         []int     // of who leads: -1 of who did not
	base         int
	ready        bool
}

// keeps tells whether the store has room for these lines, and may have so many.
func (m *model) keeps(l []api.Line) bool {
	sum := 64
	for _, one := range l {
		sum += 16 + len(one.Bytes)
	}
	return len(l) <= 256 && sum <= 480*(m.pages/2-1)
}

// adopt is what the store does of an epoch and lines: false if it refuses.
func (m *model) adopt(e uint64, l []api.Line) bool {
	if e < m.p || e <= m.c || !m.keeps(l) || slices.ContainsFunc(l, func(one api.Line) bool { return one.Epoch > e }) {
		return false
	}
	m.p, m.c, m.l = e, e, slices.Clone(l)
	return true
}

// add is what the store does of lines to be put behind: false if it refuses.
func (m *model) add(l []api.Line) bool {
	all := slices.Concat(m.l, l)
	if !m.keeps(all) || slices.ContainsFunc(l, func(one api.Line) bool { return one.Epoch != m.c }) {
		return false
	}
	m.l = all
	return true
}

func (m *model) becomesFollower() { m.role, m.waited = follows, 0 }

// others are the numbers of the other nodes.
func (m *model) others() []int {
	return slices.DeleteFunc([]int{0, 1, 2}, func(i int) bool { return i == m.id || i >= m.n })
}

func (m *model) tick() []told {
	if m.role == leads {
		var out []told
		for _, i := range m.others() {
			if a := m.acks[i]; a < 0 {
				out = append(out, told{i, api.Msg{Kind: api.MsgAdopt, Epoch: m.own, Lines: m.l}})
			} else {
				out = append(out, told{i, api.Msg{Kind: api.MsgAppend, Epoch: m.own, At: a, Commit: m.k, Lines: m.l[a:]}})
			}
		}
		return out
	}
	m.waited++
	if m.waited <= []int{3, 5, 7}[m.id] {
		return nil
	}
	e := max(m.p, m.seen) + 1
	for e%uint64(m.n) != uint64(m.id) {
		e++
	}
	if e > 1<<48 {
		return nil
	}
	m.p, m.own, m.role, m.waited = e, e, stands, 0
	m.votes = []api.Msg{{Current: m.c, Lines: m.l, At: m.id}}
	var out []told
	for _, i := range m.others() {
		out = append(out, told{i, api.Msg{Kind: api.MsgStand, Epoch: e}})
	}
	return append(out, m.elected()...)
}

// elected leads if there are votes enough: of these it takes the best one, by sorting them.
func (m *model) elected() []told {
	if len(m.votes)*2 <= m.n {
		return nil
	}
	slices.SortFunc(m.votes, func(a, b api.Msg) int {
		switch {
		case a.Current != b.Current:
			return int(int64(b.Current - a.Current))
		case len(a.Lines) != len(b.Lines):
			return len(b.Lines) - len(a.Lines)
		}
		return a.At - b.At
	})
	if !m.adopt(m.own, m.votes[0].Lines) {
		m.becomesFollower()
		return nil
	}
	m.role, m.base, m.k, m.ready = leads, len(m.l), min(m.k, len(m.l)), false
	m.acks = []int{-1, -1, -1}
	m.counts()
	var out []told
	for _, i := range m.others() {
		out = append(out, told{i, api.Msg{Kind: api.MsgAdopt, Epoch: m.own, Lines: m.l}})
	}
	return out
}

// counts seeks the greatest number that more than half of the nodes have.
func (m *model) counts() {
	has := slices.Clone(m.acks[:m.n])
	has[m.id] = len(m.l)
	for v := len(m.l); v >= m.base; v-- {
		n := 0
		for _, a := range has {
			if a >= v {
				n++
			}
		}
		if n*2 > m.n {
			m.ready = true
			m.k = max(m.k, v)
			return
		}
	}
}

func (m *model) hear(from int, x api.Msg) []told {
	if from < 0 || from >= m.n || from == m.id {
		return nil
	}
	m.seen = max(m.seen, x.Epoch)
	owner := int(x.Epoch%uint64(m.n)) == from
	refusal := []told{{from, api.Msg{Kind: api.MsgRefuse, Epoch: m.p}}}
	switch x.Kind {
	case api.MsgStand:
		if owner && x.Epoch <= m.p {
			return refusal
		} else if owner {
			m.p = x.Epoch
			m.becomesFollower()
			return []told{{from, api.Msg{Kind: api.MsgPromise, Epoch: m.p, Current: m.c, Lines: m.l}}}
		}
	case api.MsgPromise:
		if m.role == stands && x.Epoch == m.own && x.Current != x.Epoch {
			m.votes = append(m.votes, api.Msg{Current: x.Current, Lines: x.Lines, At: from})
			return m.elected()
		}
	case api.MsgRefuse:
		if m.role != follows && x.Epoch > m.own {
			m.becomesFollower()
		}
	case api.MsgAdopt:
		return m.hearAdopt(from, x, owner, refusal)
	case api.MsgAppend:
		return m.hearAppend(from, x, owner, refusal)
	case api.MsgAck:
		if m.role == leads && x.Epoch == m.own {
			m.acks[from] = max(m.acks[from], min(x.At, len(m.l)))
			m.counts()
		}
	}
	return nil
}

func (m *model) hearAdopt(from int, x api.Msg, owner bool, refusal []told) []told {
	if !owner {
		return nil
	}
	if x.Epoch < m.p {
		return refusal
	}
	if m.c != x.Epoch && !m.adopt(x.Epoch, x.Lines) {
		return nil
	}
	m.becomesFollower()
	m.k = min(m.k, len(m.l))
	return []told{{from, api.Msg{Kind: api.MsgAck, Epoch: x.Epoch, At: len(m.l)}}}
}

func (m *model) hearAppend(from int, x api.Msg, owner bool, refusal []told) []told {
	if !owner {
		return nil
	}
	if x.Epoch < m.p {
		return refusal
	}
	if x.Epoch != m.p || x.Epoch != m.c {
		return nil
	}
	m.becomesFollower()
	if x.At > len(m.l) {
		return nil
	}
	var beyond []api.Line
	for i, one := range x.Lines {
		if x.At+i >= len(m.l) {
			beyond = append(beyond, one)
		}
	}
	if len(beyond) > 0 && !m.add(beyond) {
		return nil
	}
	m.k = max(m.k, min(x.Commit, len(m.l)))
	return []told{{from, api.Msg{Kind: api.MsgAck, Epoch: x.Epoch, At: len(m.l)}}}
}

func (m *model) propose(b []byte) api.Errno {
	switch {
	case len(b) == 0 || len(b) > 4096:
		return 1
	case m.role != leads || !m.ready:
		return 64
	case !m.add([]api.Line{{Epoch: m.own, Bytes: slices.Clone(b)}}):
		return 4
	}
	m.counts()
	return 0
}
