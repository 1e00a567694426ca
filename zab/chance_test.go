package zab_test

import (
	"bytes"
	"fmt"
	"math/rand"
	"slices"
	"testing"

	"outrider/api"
	"outrider/store"
	"outrider/zab"
	"outrider/zmsg"
)

// wantApart wants no two answers, nor two lists of one, to share memory: each is spoilt, with the room behind it, and the others stay.
func wantApart(t *testing.T, all ...[]zab.Out) {
	t.Helper()
	flat := slices.Concat(all...)
	was := make([][]byte, len(flat))
	for i, o := range flat {
		was[i] = slices.Clone(o.Bytes)
	}
	for i, o := range flat {
		full := o.Bytes[:cap(o.Bytes)]
		for j := range full {
			full[j] ^= 255
		}
		for j, other := range flat {
			if j != i && !bytes.Equal(other.Bytes, was[j]) {
				t.Fatalf("the messages %d and %d share memory", i, j)
			}
		}
		for j := range full {
			full[j] ^= 255
		}
	}
}

// R3: what is handed in is not kept, nor is the room behind it changed; what is handed out is new memory.
func TestMemory(t *testing.T) {
	for name, x := range inRoles(t, 0) {
		var outs [][]zab.Out
		for range 12 {
			outs = append(outs, x.tick(), x.tick(), x.hear(1, parse(t, "Stand 1")), x.hear(2, parse(t, "Append 2 0 0")))
		}
		outs = append(outs, x.hear(1, parse(t, "Stand 91")), x.hear(2, parse(t, "Adopt 92 1a 4b")), x.hear(2, parse(t, "Adopt 92")), x.hear(2, parse(t, "Append 92 2 1 92c")))
		wantApart(t, outs...)
		if len(slices.Concat(outs...)) < 20 {
			t.Fatal(name)
		}
	}
	lead := inRoles(t, 0)["leads, ready"]
	line := append([]byte("line"), "room"...)
	if e := lead.propose(line[:4]); e != api.OK || string(line) != "lineroom" {
		t.Fatal(e, string(line))
	}
	copy(line, "XXXX")
	lead.want()
	lead.hears(1, "Ack 6 5")
	for range 2 {
		l := lead.z.Committed()
		if len(l) != 5 {
			t.Fatal(lead.is())
		}
		for _, one := range l {
			clear(one.Bytes[:cap(one.Bytes)])
		}
		clear(l[:cap(l)])
		lead.want()
	}
	for _, s := range []string{"Promise 6 5 5x 5y", "Adopt 8 5x 5y"} {
		x := inRoles(t, 0)["stands"]
		b := append(putMsg(t, parse(t, s)), "room"...)
		was := slices.Clone(b)
		out := x.z.Hear(2, b[:len(b)-4])
		x.wantTold(s, out, x.m.hear(2, parse(t, s)))
		if !bytes.Equal(b, was) {
			t.Fatal("what was handed in has changed")
		}
		for i := range b {
			b[i] ^= 255
		}
		x.want()
		x.tick()
		x.want()
	}
}

// mid is an act that writes, of a node that is made for it, with what may be kept if the power goes in it (behind what it kept at first).
type mid struct {
	name string
	made func(t *testing.T) *node
	act  func(x *node) (string, api.Errno)
}

func hearing(from int, says string) func(x *node) (string, api.Errno) {
	return func(x *node) (string, api.Errno) {
		return outText(x.t, x.z.Hear(from, putMsg(x.t, parse(x.t, says)))), api.ErrDead
	}
}

func ticking(x *node) (string, api.Errno) { return outText(x.t, x.z.Tick()), api.ErrDead }

func role(name string) func(t *testing.T) *node {
	return func(t *testing.T) *node { return inRoles(t, 0)[name] }
}

// readyToStand is a node that stands at its next tick.
func readyToStand(n int) func(t *testing.T) *node {
	return func(t *testing.T) *node {
		x := newNode(t, 0, n, 100, before(t))
		for range 3 {
			x.tick()
		}
		return x
	}
}

func mids() []mid {
	return []mid{
		{"a Tick of one of 3", readyToStand(3), ticking},
		{"a Tick of one alone", readyToStand(1), ticking},
		{"a Stand", role("follows"), hearing(1, "Stand 7")},
		{"a Stand, of who stands", role("stands"), hearing(1, "Stand 7")},
		{"a Stand, of who leads", role("leads, ready"), hearing(1, "Stand 7")},
		{"a Promise", role("stands"), hearing(1, "Promise 6 5 5x 5y")},
		{"an Adopt", role("follows"), hearing(1, "Adopt 7 1a 7b")},
		{"an Adopt, of who stands", role("stands"), hearing(1, "Adopt 7 1a 7b")},
		{"an Adopt, of who leads", role("leads, ready, with a line more"), hearing(1, "Adopt 7 1a 7b")},
		{"an Append", func(t *testing.T) *node {
			x := role("follows")(t)
			x.hears(2, "Adopt 5 1a 4b 4c")
			x.hears(2, "Append 5 3 1")
			return x
		}, hearing(2, "Append 5 3 4 5d 5e")},
		{"a Propose", role("leads, ready"), func(x *node) (string, api.Errno) { return "", x.z.Propose([]byte("f")) }},
		{"a Propose of one alone", func(t *testing.T) *node {
			x := readyToStand(1)(t)
			x.tick()
			return x
		}, func(x *node) (string, api.Errno) { return "", x.z.Propose([]byte("f")) }},
	}
}

// between are what may be kept if the power goes in the act: what was kept at first, and behind each call of the store.
func (m mid) between(t *testing.T) []store.Kept {
	x := m.made(t)
	all := []store.Kept{x.s.Kept()}
	if m.name == "a Tick of one alone" {
		k := all[0]
		k.Promised++
		all = append(all, k)
	}
	m.act(x)
	return append(all, x.s.Kept())
}

// P12.2 to P12.4: the power goes in the middle of an act, at each count of writes: nothing is told, the node is dead; a new one of the same disk keeps what was kept, or what was under way, and goes on as a new one.
func TestPowerGoes(t *testing.T) {
	for _, m := range mids() {
		may := m.between(t)
		for count, dead := 0, true; dead; count++ {
			for fate := range 6 {
				x := m.made(t)
				committed := x.z.Committed()
				x.d.Fuse(count)
				told, e := m.act(x)
				if dead = x.d.Dead(); !dead {
					if count < 2 || !sameKept(x.s.Kept(), may[len(may)-1]) {
						t.Fatalf("%s: done behind %d writes: %s", m.name, count, x.is())
					}
					break
				}
				if told != "" || e != api.ErrDead {
					t.Fatalf("%s: the power went at %d: %s, %v", m.name, count, told, e)
				}
				wantNothing(t, x.z, api.ErrDead)
				if !sameLines(x.z.Committed(), committed) {
					t.Fatalf("%s: the power went at %d: Committed:%s", m.name, count, linesText(x.z.Committed()))
				}
				x.d.Restart([][]int{nil, {512, 512, 512, 512, 512, 512}, {0, 512, 0, 512}, {512, 0, 512}, {100, 300}, {511, 1, 511}}[fate])
				wantNothing(t, x.z, api.ErrDead)
				x.again(may)
			}
		}
	}
}

// again makes a new node of the disk: it keeps one of these, and goes on.
func (x *node) again(may []store.Kept) {
	x.t.Helper()
	x.s = open(x.t, x.d)
	if !slices.ContainsFunc(may, func(k store.Kept) bool { return sameKept(k, x.s.Kept()) }) {
		x.t.Fatalf("it keeps %+v, want one of %+v", x.s.Kept(), may)
	}
	x.start(x.m.id, x.m.n)
	for range 12 {
		x.tick()
	}
	x.hear(1, api.Msg{Kind: api.MsgPromise, Epoch: x.z.Epoch(), Current: 3})
	x.hear(1, api.Msg{Kind: api.MsgAck, Epoch: x.z.Epoch(), At: 9})
	if e := x.propose([]byte("behind")); e != api.OK || !x.z.Leads() {
		x.t.Fatal(e, x.is())
	}
}

// letter is under way between two nodes.
type letter struct {
	from, to int
	m        api.Msg
}

// party is a group whose messages go by chance.
type party struct {
	t        *testing.T
	r        *rand.Rand
	nodes    []*node
	letters  []letter
	chosen   []api.Line      // the longest that a node ever had committed
	proposed map[string]bool // what a leader took
	leaders  map[uint64]int  // of epochs
	was      []state
}

// state is what never falls.
type state struct {
	p, c uint64
	k    int
}

func newParty(t *testing.T, n int, seed int64) *party {
	g := &party{t: t, r: rand.New(rand.NewSource(seed)), proposed: map[string]bool{}, leaders: map[uint64]int{}, was: make([]state, n)}
	for id := range n {
		g.nodes = append(g.nodes, newNode(t, id, n, 100, store.Kept{}))
	}
	return g
}

// send lets what a node tells be under way.
func (g *party) send(from int, l []zab.Out) {
	for _, o := range l {
		m := parseOut(g.t, o)
		g.letters = append(g.letters, letter{from, o.To, m})
	}
}

// parseOut reads what is told.
func parseOut(t *testing.T, o zab.Out) api.Msg {
	t.Helper()
	m, e := zmsg.Get(o.Bytes)
	if e != api.OK {
		t.Fatalf("%x is no message", o.Bytes)
	}
	return m
}

// take hands a letter over.
func (g *party) take(i int) {
	l := g.letters[i]
	g.letters = slices.Delete(g.letters, i, i+1)
	g.send(l.to, g.nodes[l.to].hear(l.from, l.m))
	g.check()
}

func (g *party) tick(i int) {
	g.send(i, g.nodes[i].tick())
	g.check()
}

func (g *party) propose(i int, s string) {
	if g.nodes[i].propose([]byte(s)) == api.OK {
		g.proposed[s] = true
	}
	g.check()
}

// crash takes a node's power, and lets it begin anew.
func (g *party) crash(i int) {
	x := g.nodes[i]
	x.d.Kill()
	x.d.Restart(nil)
	x.s = open(g.t, x.d)
	x.start(x.m.id, x.m.n)
	g.was[i].k = 0 // what is committed it does not know any more
	g.check()
}

// check holds all nodes against P12.5.
func (g *party) check() {
	g.t.Helper()
	for i, x := range g.nodes {
		k, l := x.s.Kept(), x.z.Committed()
		now := state{k.Promised, k.Current, len(l)}
		if w := g.was[i]; now.p < w.p || now.c < w.c || now.k < w.k || now.k > len(k.Lines) {
			g.t.Fatalf("node %d: %v behind %v, of %d lines", i, now, w, len(k.Lines))
		}
		g.was[i] = now
		both := min(len(l), len(g.chosen))
		if !sameLines(l[:both], g.chosen[:both]) {
			g.t.Fatalf("node %d has committed%s, and there was%s", i, linesText(l), linesText(g.chosen))
		}
		for _, one := range l[both:] {
			if !g.proposed[string(one.Bytes)] {
				g.t.Fatalf("node %d has committed %q, which nobody proposed", i, one.Bytes)
			}
		}
		g.chosen = append(g.chosen, l[both:]...)
		if x.z.Leads() {
			if other, ok := g.leaders[x.z.Epoch()]; ok && other != i {
				g.t.Fatalf("the nodes %d and %d lead in epoch %d", other, i, x.z.Epoch())
			}
			g.leaders[x.z.Epoch()] = i
			if len(g.chosen) > len(k.Lines) || !sameLines(g.chosen, k.Lines[:len(g.chosen)]) && x.z.Epoch() == slices.Max(g.epochs()) {
				g.t.Fatalf("node %d leads without what is committed", i)
			}
		}
	}
}

// epochs are those that were ever led in.
func (g *party) epochs() []uint64 {
	var l []uint64
	for e := range g.leaders {
		l = append(l, e)
	}
	return l
}

// step does something by chance: wild of 100 are to be losses and the like.
func (g *party) step(wild int) {
	n := len(g.letters)
	switch {
	case g.r.Intn(100) < wild:
		switch g.r.Intn(8) {
		case 0, 1, 2:
			if n > 0 {
				i := g.r.Intn(n)
				g.letters = slices.Delete(g.letters, i, i+1)
			}
		case 3, 4, 5:
			if n > 0 {
				g.letters = append(g.letters, g.letters[g.r.Intn(n)])
			}
		case 6:
			g.crash(g.r.Intn(len(g.nodes)))
		default:
			if n > 0 {
				g.take(g.r.Intn(n))
			}
		}
	case n > 0 && g.r.Intn(10) < 7:
		i := 0
		if wild > 0 && g.r.Intn(3) == 0 {
			i = g.r.Intn(n)
		}
		g.take(i)
	case g.r.Intn(10) < 2:
		g.propose(g.r.Intn(len(g.nodes)), fmt.Sprint(len(g.proposed)))
	default:
		g.tick(g.r.Intn(len(g.nodes)))
	}
	if len(g.letters) > 40 {
		g.letters = g.letters[len(g.letters)-20:]
	}
}

// round ticks all, and takes all letters.
func (g *party) round() {
	for i := range g.nodes {
		g.tick(i)
	}
	for len(g.letters) > 0 {
		g.take(0)
	}
}

// P12.5: groups of 1 to 3 nodes whose messages are all heard, are lost, come twice or in another order, and whose nodes begin anew: P, C and K never fall, and what is committed stays; at rest one leads, and commits.
func TestGroupsByChance(t *testing.T) {
	committed := 0
	for seed := range int64(90) {
		for n := 1; n <= 3; n++ {
			g := newParty(t, n, seed)
			for range 400 {
				g.step([]int{0, 10, 30, 60}[seed%4])
			}
			committed += len(g.chosen)
			g.rests()
		}
	}
	if committed < 1000 {
		t.Fatalf("only %d lines were committed", committed)
	}
}

// rests wants a group all of whose messages are heard to have a leader, that commits.
func (g *party) rests() {
	g.t.Helper()
	leader := func() int {
		return slices.IndexFunc(g.nodes, func(x *node) bool { return x.z.Leads() && x.s.Kept().Current == g.top() })
	}
	for i := 0; leader() < 0 || i < 10; i++ {
		if i == 40 {
			g.t.Fatal("nobody leads")
		}
		g.round()
	}
	if len(g.nodes[leader()].s.Kept().Lines) == api.MaxLog {
		return
	}
	g.propose(leader(), "at rest")
	for range 3 {
		g.round()
	}
	for i, x := range g.nodes {
		if l := x.z.Committed(); len(l) == 0 || string(l[len(l)-1].Bytes) != "at rest" {
			g.t.Fatalf("node %d has not committed it: %s", i, x.is())
		}
	}
}

// top is the greatest epoch that a node promised.
func (g *party) top() uint64 {
	var e uint64
	for _, x := range g.nodes {
		e = max(e, x.z.Epoch())
	}
	return e
}

// P12.2 to P12.4: nodes to which anything is told by chance, messages that no node would tell, too: each answers what the model does.
func TestNodesByChance(t *testing.T) {
	r := rand.New(rand.NewSource(12))
	for range 400 {
		n := 1 + r.Intn(3)
		id := r.Intn(n)
		pages := []int{8, 100}[r.Intn(2)]
		x := newNode(t, id, n, pages, store.Kept{})
		for range 150 {
			switch what := r.Intn(10); {
			case what < 3:
				x.tick()
			case what == 3:
				x.propose(bytes.Repeat([]byte{byte(r.Intn(256))}, []int{0, 1, 2, 300, 4096, 4097}[r.Intn(6)]))
			default:
				x.hear(r.Intn(5)-1, byChance(r, x))
			}
			if r.Intn(40) == 0 {
				x.s = open(t, x.d)
				x.start(id, n)
			}
		}
	}
}

// byChance is a message with numbers near the node's own.
func byChance(r *rand.Rand, x *node) api.Msg {
	k := x.s.Kept()
	near := func(v uint64) uint64 { return uint64(max(1, int64(v)+int64(r.Intn(5))-2)) }
	m := api.Msg{Kind: uint8(1 + r.Intn(6)), Epoch: k.Promised}
	if r.Intn(2) == 0 {
		m.Epoch = near([]uint64{k.Promised, k.Current}[r.Intn(2)])
	}
	m.Epoch = max(m.Epoch, 1)
	for _, part := range words[m.Kind].parts {
		switch part {
		case 'c':
			m.Current = min(m.Epoch, near(k.Current)-1)
		case 'a':
			m.At = max(0, len(k.Lines)+r.Intn(4)-2)
		case 'o':
			m.Commit = max(0, len(k.Lines)+r.Intn(4)-2)
		case 'l':
			for range r.Intn(4) {
				e := m.Epoch
				if r.Intn(6) == 0 {
					e = near(e)
				}
				m.Lines = append(m.Lines, api.Line{Epoch: e, Bytes: bytes.Repeat([]byte{byte(r.Intn(256))}, []int{1, 1, 1, 1, 400}[r.Intn(5)])})
			}
		}
	}
	return m
}
