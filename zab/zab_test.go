package zab_test

import (
	"bytes"
	"fmt"
	"math"
	"slices"
	"strconv"
	"strings"
	"testing"

	"outrider/api"
	"outrider/disk"
	"outrider/store"
	"outrider/zab"
	"outrider/zmsg"
)

const most = api.MaxNumber

// words are the kinds' names, and which parts stand behind an epoch: Current, At, Commit, Lines.
var words = []struct{ name, parts string }{1: {"Stand", ""}, {"Promise", "cl"}, {"Refuse", ""}, {"Adopt", "l"}, {"Append", "aol"}, {"Ack", "a"}}

// textOf tells a message in words: Append 3 0 1 3a, a line being its epoch and its bytes.
func textOf(m api.Msg) string {
	if m.Kind == 0 || int(m.Kind) >= len(words) {
		return "no message"
	}
	w := words[m.Kind]
	s := fmt.Sprintf("%s %d", w.name, m.Epoch)
	for _, part := range w.parts {
		switch part {
		case 'c':
			s += fmt.Sprintf(" %d", m.Current)
		case 'a':
			s += fmt.Sprintf(" %d", m.At)
		case 'o':
			s += fmt.Sprintf(" %d", m.Commit)
		case 'l':
			s += linesText(m.Lines)
		}
	}
	return s
}

func linesText(l []api.Line) string {
	s := ""
	for i, one := range l {
		if i == 12 {
			return s + fmt.Sprintf(" and %d more", len(l)-i)
		}
		if len(one.Bytes) > 16 {
			s += fmt.Sprintf(" %d(%d bytes)", one.Epoch, len(one.Bytes))
		} else {
			s += fmt.Sprintf(" %d%s", one.Epoch, one.Bytes)
		}
	}
	return s
}

// parse reads such words.
func parse(t *testing.T, s string) api.Msg {
	t.Helper()
	f := strings.Fields(s)
	next := func() uint64 {
		v, e := strconv.ParseUint(f[0], 10, 64)
		if e != nil {
			t.Fatal(s, e)
		}
		f = f[1:]
		return v
	}
	for kind, w := range words {
		if kind == 0 || w.name != f[0] {
			continue
		}
		f = f[1:]
		m := api.Msg{Kind: uint8(kind), Epoch: next()}
		for _, part := range w.parts {
			switch part {
			case 'c':
				m.Current = next()
			case 'a':
				m.At = int(next())
			case 'o':
				m.Commit = int(next())
			case 'l':
				m.Lines = parseLines(t, f...)
				f = nil
			}
		}
		if len(f) == 0 {
			return m
		}
	}
	t.Fatalf("no message: %s", s)
	return api.Msg{}
}

func parseLines(t *testing.T, f ...string) []api.Line {
	t.Helper()
	var l []api.Line
	for _, one := range f {
		i := strings.IndexFunc(one, func(r rune) bool { return r < '0' || r > '9' })
		e, bad := strconv.ParseUint(one[:max(i, 0)], 10, 64)
		if bad != nil {
			t.Fatalf("no line: %s", one)
		}
		l = append(l, api.Line{Epoch: e, Bytes: []byte(one[i:])})
	}
	return l
}

// many are so many lines of so many bytes each, unlike ones.
func many(epoch uint64, n, size int) []api.Line {
	var l []api.Line
	for i := range n {
		l = append(l, api.Line{Epoch: epoch, Bytes: bytes.Repeat([]byte{byte(i)}, size)})
	}
	return l
}

func sameLines(a, b []api.Line) bool {
	return slices.EqualFunc(a, b, func(a, b api.Line) bool { return a.Epoch == b.Epoch && bytes.Equal(a.Bytes, b.Bytes) })
}

func sameMsg(a, b api.Msg) bool {
	return a.Kind == b.Kind && a.Epoch == b.Epoch && a.Current == b.Current && a.At == b.At && a.Commit == b.Commit && sameLines(a.Lines, b.Lines)
}

func sameKept(a, b store.Kept) bool {
	return a.Promised == b.Promised && a.Current == b.Current && sameLines(a.Lines, b.Lines)
}

func putMsg(t *testing.T, m api.Msg) []byte {
	t.Helper()
	b, e := zmsg.Put(m)
	if e != api.OK {
		t.Fatalf("%s: %v", textOf(m), e)
	}
	return b
}

// outText tells what is told: 1 Stand 3, 2 Stand 3.
func outText(t *testing.T, l []zab.Out) string {
	t.Helper()
	var s []string
	for _, o := range l {
		m, e := zmsg.Get(o.Bytes)
		if e != api.OK {
			t.Fatalf("%x is no message", o.Bytes)
		}
		s = append(s, fmt.Sprintf("%d %s", o.To, textOf(m)))
	}
	return strings.Join(s, ", ")
}

// node is a node, its store and disk, and the model of it, to which all is done, too.
type node struct {
	t *testing.T
	d *disk.Disk
	s *store.Store
	z *zab.Node
	m *model
}

func newDisk(t *testing.T, pages int) *disk.Disk {
	t.Helper()
	d, e := disk.New(pages)
	if e != api.OK {
		t.Fatal(e)
	}
	return d
}

func open(t *testing.T, d *disk.Disk) *store.Store {
	t.Helper()
	s, e := store.Open(d)
	if e != api.OK {
		t.Fatal(e)
	}
	return s
}

// newNode is the node id of n, whose store keeps this already.
func newNode(t *testing.T, id, n, pages int, k store.Kept) *node {
	t.Helper()
	x := &node{t: t, d: newDisk(t, pages)}
	x.s = open(t, x.d)
	if k.Current > 0 {
		if e := x.s.Adopt(k.Current, k.Lines); e != api.OK {
			t.Fatal(e)
		}
	}
	if k.Promised > k.Current {
		if e := x.s.Promise(k.Promised); e != api.OK {
			t.Fatal(e)
		}
	}
	x.start(id, n)
	return x
}

// start makes a node of what the store keeps, which is as at first but for that.
func (x *node) start(id, n int) {
	x.t.Helper()
	z, e := zab.New(id, n, x.s)
	if e != api.OK || z == nil {
		x.t.Fatalf("New(%d, %d): %v", id, n, e)
	}
	k := x.s.Kept()
	x.z, x.m = z, &model{id: id, n: n, pages: x.d.Size(), p: k.Promised, c: k.Current, l: k.Lines}
	x.want()
}

// want wants the node to be as the model says.
func (x *node) want() {
	x.t.Helper()
	if k := (store.Kept{Promised: x.m.p, Current: x.m.c, Lines: x.m.l}); !sameKept(x.s.Kept(), k) {
		x.t.Fatalf("it keeps %+v, want %+v", x.s.Kept(), k)
	}
	if e := x.z.Epoch(); e != x.m.p {
		x.t.Fatalf("Epoch: %d, want %d", e, x.m.p)
	}
	if l := x.z.Committed(); !sameLines(l, x.m.l[:x.m.k]) {
		x.t.Fatalf("Committed:%s, want%s", linesText(l), linesText(x.m.l[:x.m.k]))
	}
	if got, want := x.z.Leads(), x.m.role == leads && x.m.ready; got != want {
		x.t.Fatalf("Leads: %v, want %v", got, want)
	}
	if x.z.Dead() {
		x.t.Fatal("Dead: true")
	}
}

// wantTold wants what was told to be what the model tells.
func (x *node) wantTold(act string, got []zab.Out, want []told) {
	x.t.Helper()
	if len(got) != len(want) {
		x.t.Fatalf("%s: %s, want %d messages", act, outText(x.t, got), len(want))
	}
	for i, o := range got {
		m, e := zmsg.Get(o.Bytes)
		if e != api.OK || o.To != want[i].to || !sameMsg(m, want[i].m) {
			x.t.Fatalf("%s: %d %s, want %d %s", act, o.To, textOf(m), want[i].to, textOf(want[i].m))
		}
	}
	x.want()
}

func (x *node) tick() []zab.Out {
	x.t.Helper()
	out := x.z.Tick()
	x.wantTold("Tick", out, x.m.tick())
	return out
}

func (x *node) hear(from int, m api.Msg) []zab.Out {
	x.t.Helper()
	b := putMsg(x.t, m)
	was := slices.Clone(b)
	out := x.z.Hear(from, b)
	if !bytes.Equal(b, was) {
		x.t.Fatal("Hear changed what it was handed")
	}
	x.wantTold(fmt.Sprintf("Hear(%d, %s)", from, textOf(m)), out, x.m.hear(from, m))
	return out
}

// hears is the same for words.
func (x *node) hears(from int, s string) string {
	x.t.Helper()
	return outText(x.t, x.hear(from, parse(x.t, s)))
}

func (x *node) propose(b []byte) api.Errno {
	x.t.Helper()
	was := slices.Clone(b)
	e := x.z.Propose(b)
	if !bytes.Equal(b, was) {
		x.t.Fatal("Propose changed what it was handed")
	}
	if want := x.m.propose(b); e != want {
		x.t.Fatalf("Propose of %d bytes: %v, want %v", len(b), e, want)
	}
	x.want()
	return e
}

// is tells what a node is: P, C, L, K, and whether it leads.
func (x *node) is() string {
	k := x.s.Kept()
	s := fmt.Sprintf("P %d C %d L%s K %d", k.Promised, k.Current, linesText(k.Lines), len(x.z.Committed()))
	if x.z.Leads() {
		s += " leads"
	}
	return s
}

// play does a script's acts, each with what it answers behind a '='.
func (x *node) play(script string) {
	x.t.Helper()
	for _, line := range strings.Split(script, "\n") {
		act, want, ok := strings.Cut(line, "=")
		if !ok {
			continue
		}
		f := strings.Fields(act)
		got := ""
		switch f[0] {
		case "is":
			got = x.is()
		case "tick":
			got = outText(x.t, x.tick())
		case "ticks": // so many that tell nothing
			n, _ := strconv.Atoi(f[1])
			for range n {
				got += outText(x.t, x.tick())
			}
		case "propose":
			got = strconv.Itoa(int(x.propose([]byte(f[1]))))
		default: // who is heard
			from, e := strconv.Atoi(f[0])
			if e != nil {
				x.t.Fatal(line)
			}
			got = x.hears(from, strings.Join(f[1:], " "))
		}
		if want = strings.TrimSpace(want); got != want {
			x.t.Fatalf("%s: %s, want %s", strings.TrimSpace(act), got, want)
		}
	}
}

// wantNothing wants a node that is nil or dead to do and tell nothing.
func wantNothing(t *testing.T, z *zab.Node, want api.Errno) {
	t.Helper()
	for range 20 {
		if l := z.Tick(); len(l) != 0 {
			t.Fatalf("Tick: %s", outText(t, l))
		}
	}
	for from := range 3 {
		for _, s := range []string{"Stand 60", "Stand 61", "Stand 62", "Promise 3 0", "Refuse 90", "Adopt 60", "Adopt 61 1a", "Adopt 62", "Append 3 0 0", "Append 4 0 0 4a", "Append 5 0 0", "Ack 3 0"} {
			if l := z.Hear(from, putMsg(t, parse(t, s))); len(l) != 0 {
				t.Fatalf("Hear(%d, %s): %s", from, s, outText(t, l))
			}
		}
	}
	for _, b := range [][]byte{nil, []byte("a"), make([]byte, api.MaxEntry), make([]byte, api.MaxEntry+1)} {
		if e := z.Propose(b); e != want {
			t.Fatalf("Propose of %d bytes: %v, want %v", len(b), e, want)
		}
	}
	if z.Dead() != (z != nil) {
		t.Fatalf("Dead: %v", z.Dead())
	}
}

// P12.1, R1: calls on no node.
func TestNil(t *testing.T) {
	var z *zab.Node
	wantNothing(t, z, api.ErrNil)
	if z.Leads() || z.Epoch() != 0 || len(z.Committed()) != 0 {
		t.Error(z.Leads(), z.Epoch(), z.Committed())
	}
}

// P12.1: New without a store, or power, and with numbers that may not be, in this order.
func TestNewErrors(t *testing.T) {
	numbers := []int{math.MinInt, -3, -1, 0, 1, 2, 3, 4, 5, 6, math.MaxInt}
	d := newDisk(t, 8)
	s := open(t, d)
	wants := func(want func(id, n int) api.Errno, s *store.Store) {
		t.Helper()
		for _, n := range numbers {
			for _, id := range numbers {
				if z, e := zab.New(id, n, s); e != want(id, n) || (z != nil) != (e == api.OK) {
					t.Fatalf("New(%d, %d): a node: %v, %v", id, n, z != nil, e)
				}
			}
		}
	}
	wants(func(int, int) api.Errno { return api.ErrNil }, nil)
	bounds := func(id, n int) api.Errno {
		if n >= 1 && n <= 3 && id >= 0 && id <= n-1 {
			return api.OK
		}
		return api.ErrArg
	}
	wants(bounds, s)
	d.Kill()
	wants(func(int, int) api.Errno { return api.ErrDead }, s)
	d.Restart(nil)
	wants(bounds, s)
	d.Fuse(0)
	if e := s.Promise(1); e != api.ErrDead {
		t.Fatal(e)
	}
	d.Restart(nil) // the store met a dead disk: it stays dead
	wants(func(int, int) api.Errno { return api.ErrDead }, s)
}

// P12.1: what a new node knows: what its store keeps, and nothing of what is committed.
func TestNewKeeps(t *testing.T) {
	for n := 1; n <= 3; n++ {
		for id := range n {
			for _, k := range []store.Kept{{}, {Promised: 1}, {Promised: most}, {Promised: 7, Current: 7}, {Promised: 9, Current: 4, Lines: parseLines(t, "1a", "4b")}, {Promised: most, Current: most, Lines: many(most, 256, 1)}} {
				x := newNode(t, id, n, 100, k)
				if x.z.Epoch() != k.Promised || x.z.Leads() || x.z.Dead() || len(x.z.Committed()) != 0 {
					t.Fatal(x.is())
				}
				if !sameKept(x.s.Kept(), k) {
					t.Fatal("New changed what is kept")
				}
			}
		}
	}
}

// P12.1: Dead is whether the store is; what a dead node knows it tells still.
func TestDead(t *testing.T) {
	for name, x := range inRoles(t, 0) {
		is := x.is()
		for range 2 {
			x.d.Kill()
			if !x.z.Dead() {
				t.Fatal(name, "without power: not dead")
			}
			wantNothing(t, x.z, api.ErrDead)
			if x.is() != is {
				t.Fatalf("%s: %s, want %s", name, x.is(), is)
			}
			x.d.Restart(nil)
			x.want() // no call of the store met a dead disk: it is as it was, and nothing was heard meanwhile
		}
		x.d.Fuse(0)
		if e := x.s.Promise(most); e != api.ErrDead {
			t.Fatal(e)
		}
		x.d.Restart(nil)
		if !x.z.Dead() {
			t.Fatal(name, "of a store that met a dead disk: not dead")
		}
		wantNothing(t, x.z, api.ErrDead)
		if x.is() != is {
			t.Fatalf("%s: %s, want %s", name, x.is(), is)
		}
	}
}

// before is what the nodes of inRoles keep at first.
func before(t *testing.T) store.Kept {
	return store.Kept{Promised: 5, Current: 4, Lines: parseLines(t, "1a", "4b", "4c")}
}

// inRoles are nodes of 3 in all roles, each of a store of its own: those that stand do so with the epoch 6, 7 or 8; those that lead have a line more than at first.
func inRoles(t *testing.T, id int) map[string]*node {
	t.Helper()
	other := (id + 1) % 3
	all := map[string]*node{}
	for _, name := range []string{"follows", "stands", "leads", "leads, ready", "leads, ready, with a line more"} {
		x := newNode(t, id, 3, 100, before(t))
		all[name] = x
		if name == "follows" {
			continue
		}
		for len(x.tick()) == 0 {
		}
		e := x.z.Epoch()
		if name == "stands" {
			continue
		}
		x.hear(other, api.Msg{Kind: api.MsgPromise, Epoch: e, Current: 4, Lines: parseLines(t, "1a", "4b", "4c", "4d")})
		if name == "leads" {
			continue
		}
		x.hear(other, api.Msg{Kind: api.MsgAck, Epoch: e, At: 4})
		if name == "leads, ready" {
			continue
		}
		if e := x.propose([]byte("e")); e != api.OK {
			t.Fatal(e)
		}
	}
	return all
}

// The chapter's section 'Examples'.
func TestExamples(t *testing.T) {
	newNode(t, 0, 3, 100, store.Kept{}).play(`
		tick = 
		tick = 
		tick = 
		tick = 1 Stand 3, 2 Stand 3
		1 Promise 3 0 = 1 Adopt 3, 2 Adopt 3
		is = P 3 C 3 L K 0
		1 Ack 3 0 = 
		is = P 3 C 3 L K 0 leads
		propose a = 0
		tick = 1 Append 3 0 0 3a, 2 Adopt 3 3a
		1 Ack 3 1 =
		is = P 3 C 3 L 3a K 1 leads
	`)
}

// P12.2: at which tick a node stands, with which epoch, and whom it tells; and again while it stands.
func TestTickStands(t *testing.T) {
	for n := 2; n <= 3; n++ {
		for id := range n {
			for _, p := range []uint64{0, 1, 2, 3, 4, 5, 6, 1000} {
				x := newNode(t, id, n, 8, store.Kept{Promised: p})
				e := p
				for range 3 {
					for range 3 + 2*id {
						if out := x.tick(); len(out) != 0 || x.z.Epoch() != e {
							t.Fatalf("node %d of %d, too early: %s", id, n, outText(t, out))
						}
					}
					for e++; int(e)%n != id; e++ {
					}
					var want []string
					for to := range n {
						if to != id {
							want = append(want, fmt.Sprintf("%d Stand %d", to, e))
						}
					}
					if got := outText(t, x.tick()); got != strings.Join(want, ", ") || x.z.Epoch() != e || x.z.Leads() {
						t.Fatalf("node %d of %d stands: %s, want %s", id, n, got, want)
					}
				}
			}
		}
	}
}

// P12.2: a group of one leads as soon as it stands, and all that it keeps is committed.
func TestTickOfOne(t *testing.T) {
	newNode(t, 0, 1, 100, store.Kept{}).play(`
		ticks 3 =
		is = P 0 C 0 L K 0
		propose a = 64
		tick =
		is = P 1 C 1 L K 0 leads
		propose a = 0
		is = P 1 C 1 L 1a K 1 leads
		ticks 20 =
		0 Stand 9 =
		1 Stand 9 =
		is = P 1 C 1 L 1a K 1 leads
	`)
	newNode(t, 0, 1, 100, store.Kept{Promised: 8, Current: 6, Lines: parseLines(t, "2a", "6b")}).play(`
		ticks 3 =
		is = P 8 C 6 L 2a 6b K 0
		tick =
		is = P 9 C 9 L 2a 6b K 2 leads
		propose c = 0
		is = P 9 C 9 L 2a 6b 9c K 3 leads
	`)
}

// P12.2: what was seen, of whatever kind of message, is below the next epoch.
func TestTickBeyondSeen(t *testing.T) {
	for _, s := range []string{"Stand 10", "Promise 10 2 1a", "Refuse 10", "Adopt 10", "Append 10 0 0", "Ack 10 7"} {
		x := newNode(t, 0, 3, 100, store.Kept{Promised: 7})
		x.hears(2, s) // it does not own the epoch: nothing is done
		x.play(`
			is = P 7 C 0 L K 0
			2 Refuse 8 =
			ticks 3 =
			tick = 1 Stand 12, 2 Stand 12
		`)
	}
	newNode(t, 1, 3, 100, store.Kept{Promised: 20}).play(`
		2 Refuse 10 =
		1 Refuse 90 =
		3 Refuse 90 =
		ticks 5 =
		tick = 0 Stand 22, 2 Stand 22
	`)
}

// P12.2: where the next epoch would be above MaxNumber, or the store refuses, nothing is done, but waited on.
func TestTickRefused(t *testing.T) {
	for n := 1; n <= 3; n++ {
		for id := range n {
			for back := range uint64(5) {
				for _, seen := range []bool{false, true} {
					x := newNode(t, id, n, 8, store.Kept{Promised: 1})
					if seen && n > 1 {
						x.hear((id+1)%n, api.Msg{Kind: api.MsgRefuse, Epoch: most - back})
					} else {
						x = newNode(t, id, n, 8, store.Kept{Promised: most - back})
					}
					p := x.z.Epoch()
					for range 3 * (4 + 2*id) {
						x.tick()
					}
					next := most - back + 1
					for next%uint64(n) != uint64(id) {
						next++
					}
					if want := next <= most; (x.z.Epoch() > p) != want || x.z.Epoch() > most {
						t.Fatalf("node %d of %d, behind %d: %s", id, n, most-back, x.is())
					}
				}
			}
		}
	}
	x := newNode(t, 0, 3, 100, store.Kept{Promised: 4, Current: 4})
	x.play(`
		ticks 3 =
		tick = 1 Stand 6, 2 Stand 6
	`)
	x.hear(1, api.Msg{Kind: api.MsgAck, Epoch: most}) // its next one would be above all
	x.play(`
		ticks 9 =
		is = P 6 C 4 L K 0
		1 Promise 6 0 = 1 Adopt 6, 2 Adopt 6
	`)
}

// P12.2: what a leader tells, of each node by itself, whatever it waits.
func TestTickLeads(t *testing.T) {
	newNode(t, 1, 3, 100, store.Kept{Promised: 4, Current: 4, Lines: parseLines(t, "1a", "4b")}).play(`
		ticks 5 =
		tick = 0 Stand 7, 2 Stand 7
		2 Promise 7 4 1a = 0 Adopt 7 1a 4b, 2 Adopt 7 1a 4b
		ticks 0 =
		tick = 0 Adopt 7 1a 4b, 2 Adopt 7 1a 4b
		2 Ack 7 1 =
		tick = 0 Adopt 7 1a 4b, 2 Append 7 1 0 4b
		2 Ack 7 2 =
		is = P 7 C 7 L 1a 4b K 2 leads
		tick = 0 Adopt 7 1a 4b, 2 Append 7 2 2
		0 Ack 7 0 =
		tick = 0 Append 7 0 2 1a 4b, 2 Append 7 2 2
		propose c = 0
		propose d = 0
		tick = 0 Append 7 0 2 1a 4b 7c 7d, 2 Append 7 2 2 7c 7d
		2 Ack 7 3 =
		tick = 0 Append 7 0 3 1a 4b 7c 7d, 2 Append 7 3 3 7d
		tick = 0 Append 7 0 3 1a 4b 7c 7d, 2 Append 7 3 3 7d
		tick = 0 Append 7 0 3 1a 4b 7c 7d, 2 Append 7 3 3 7d
		tick = 0 Append 7 0 3 1a 4b 7c 7d, 2 Append 7 3 3 7d
		tick = 0 Append 7 0 3 1a 4b 7c 7d, 2 Append 7 3 3 7d
		tick = 0 Append 7 0 3 1a 4b 7c 7d, 2 Append 7 3 3 7d
		tick = 0 Append 7 0 3 1a 4b 7c 7d, 2 Append 7 3 3 7d
		is = P 7 C 7 L 1a 4b 7c 7d K 3 leads
	`)
	newNode(t, 1, 2, 100, store.Kept{}).play(`
		ticks 5 =
		tick = 0 Stand 1
		0 Promise 1 0 = 0 Adopt 1
		tick = 0 Adopt 1
		0 Ack 1 0 =
		tick = 0 Append 1 0 0
	`)
}

// P12.3: Stand: a greater epoch is promised, whatever the role; all others are refused.
func TestHearStand(t *testing.T) {
	newNode(t, 0, 3, 100, before(t)).play(`
		1 Stand 4 = 1 Refuse 5
		2 Stand 5 = 2 Refuse 5
		1 Stand 5 =
		1 Stand 6 =
		1 Stand 8 =
		2 Stand 7 =
		is = P 5 C 4 L 1a 4b 4c K 0
		1 Stand 7 = 1 Promise 7 4 1a 4b 4c
		is = P 7 C 4 L 1a 4b 4c K 0
		1 Stand 7 = 1 Refuse 7
		2 Stand 281474976710655 =
		1 Stand 281474976710656 = 1 Promise 281474976710656 4 1a 4b 4c
		2 Stand 8 = 2 Refuse 281474976710656
	`)
	for name, x := range inRoles(t, 0) { // P is 6 in all roles but the first
		line := map[string]string{"leads": " 4d", "leads, ready": " 4d", "leads, ready, with a line more": " 4d 6e"}[name]
		c := 4
		if line != "" {
			c = 6
		}
		x.play(fmt.Sprintf(`
			2 Stand 5 = 2 Refuse %d
			ticks 0 =
			2 Stand 8 = 2 Promise 8 %d 1a 4b 4c%s
			ticks 3 =
			1 Promise 6 0 =
			1 Ack 6 4 =
			propose f = 64
			tick = 1 Stand 9, 2 Stand 9
		`, x.z.Epoch(), c, line))
	}
	x := newNode(t, 2, 3, 100, store.Kept{})
	x.play(`
		ticks 7 =
		0 Stand 3 = 0 Promise 3 0
		ticks 7 =
		tick = 0 Stand 5, 1 Stand 5
	`)
}

// P12.3: Promise: counts where the node stands with that epoch, from any other node, with a Current below it.
func TestHearPromise(t *testing.T) {
	for name, x := range inRoles(t, 0) {
		if name == "stands" {
			continue
		}
		is := x.is()
		for _, s := range []string{"Promise 5 0", "Promise 6 0", "Promise 6 4 1x 4y 4z 4u 4v 4w", "Promise 6 5 1x"} {
			for _, from := range []int{-1, 0, 1, 2, 3} {
				if got := x.hears(from, s); got != "" || x.is() != is {
					t.Fatalf("%s: %s, %s", name, got, x.is())
				}
			}
		}
	}
	for _, c := range []struct{ says, want string }{
		{"Promise 5 0", ""}, {"Promise 7 0", ""}, {"Promise 9 4 1a 4b 4c", ""}, {"Promise 6 6 1x", ""}, // of another epoch, or with one that may not be
		{"Promise 6 5", "1 Adopt 6, 2 Adopt 6"},                                     // a greater C, without lines
		{"Promise 6 5 5x", "1 Adopt 6 5x, 2 Adopt 6 5x"},                            // a greater C, with fewer
		{"Promise 6 5 6x", "1 Adopt 6 6x, 2 Adopt 6 6x"},                            // a line of the epoch itself
		{"Promise 6 4 1x 4y", "1 Adopt 6 1a 4b 4c, 2 Adopt 6 1a 4b 4c"},             // the same, with fewer
		{"Promise 6 4 1x 4y 4z 4u", "1 Adopt 6 1x 4y 4z 4u, 2 Adopt 6 1x 4y 4z 4u"}, // the same, with more
		{"Promise 6 3 1x 3y 3z 3u", "1 Adopt 6 1a 4b 4c, 2 Adopt 6 1a 4b 4c"},       // a lesser C, with more
		{"Promise 6 0", "1 Adopt 6 1a 4b 4c, 2 Adopt 6 1a 4b 4c"},                   // none
		{"Promise 6 4 1x 4y 4z", "1 Adopt 6 1a 4b 4c, 2 Adopt 6 1a 4b 4c"},          // like ones: the least node's
		{"Promise 6 5 7x", ""}, {"Promise 6 5 1x 5y 281474976710656z", ""}, // lines that the store refuses
	} {
		for _, from := range []int{-1, 0, 1, 2, 3} {
			x := inRoles(t, 0)["stands"]
			want := c.want
			if from != 1 && from != 2 {
				want = ""
			}
			if got := x.hears(from, c.says); got != want {
				t.Fatalf("Hear(%d, %s): %s, want %s", from, c.says, got, want)
			}
			if x.z.Leads() {
				t.Fatalf("Hear(%d, %s): it leads, and is ready", from, c.says)
			}
			if x.hears(1, "Promise 6 4 1x 4y 4z") == "" != (want != "" || strings.Contains(c.says, "Promise 6 5") && (from == 1 || from == 2)) {
				t.Fatalf("once more behind %d, %s", from, c.says)
			}
		}
	}
	x := inRoles(t, 2)["stands"]
	x.play(`
		0 Promise 8 4 1x 4y 4z = 0 Adopt 8 1x 4y 4z, 1 Adopt 8 1x 4y 4z
		is = P 8 C 8 L 1x 4y 4z K 0
		0 Promise 8 4 1x 4y 4z 4u =
		1 Promise 8 5 1x =
		is = P 8 C 8 L 1x 4y 4z K 0
	`)
	x = inRoles(t, 1)["stands"]
	x.play(`
		2 Promise 7 4 1x 4y 4z = 0 Adopt 7 1a 4b 4c, 2 Adopt 7 1a 4b 4c
	`)
}

// P12.3: a promise whose lines the store refuses ends the standing; waited is 0 then.
func TestHearPromiseRefused(t *testing.T) {
	refused := []api.Line{{Epoch: 7, Bytes: []byte("x")}}
	full := many(5, 60, 400) // more than 99 pages have room for
	for _, l := range [][]api.Line{refused, full} {
		x := inRoles(t, 0)["stands"]
		x.play("ticks 2 =")
		if got := x.hear(1, api.Msg{Kind: api.MsgPromise, Epoch: 6, Current: 5, Lines: l}); len(got) != 0 {
			t.Fatal(outText(t, got))
		}
		x.play(`
			is = P 6 C 4 L 1a 4b 4c K 0
			2 Promise 6 0 =
			ticks 3 =
			tick = 1 Stand 9, 2 Stand 9
		`)
	}
}

// P12.3: what a node knew to be committed stays when it leads, but no more of it than there are lines.
func TestLeadKeepsCommitted(t *testing.T) {
	script := `
		2 Append 5 3 3 = 2 Ack 5 3
		is = P 5 C 5 L 1a 5b 5c K 3
		ticks 3 =
		tick = 1 Stand 6, 2 Stand 6
		is = P 6 C 5 L 1a 5b 5c K 3
	`
	x := newNode(t, 0, 3, 100, store.Kept{Promised: 5, Current: 5, Lines: parseLines(t, "1a", "5b", "5c")})
	x.play(script + `
		1 Promise 6 5 1a = 1 Adopt 6 1a 5b 5c, 2 Adopt 6 1a 5b 5c
		is = P 6 C 6 L 1a 5b 5c K 3
	`)
	x = newNode(t, 0, 3, 100, store.Kept{Promised: 5, Current: 5, Lines: parseLines(t, "1a", "5b", "5c")})
	x.play(script + `
		0 Stand 6 =
		1 Refuse 8 =
		2 Stand 8 = 2 Promise 8 5 1a 5b 5c
		2 Adopt 8 1a 5b = 2 Ack 8 2
		is = P 8 C 8 L 1a 5b K 2
	`)
	x = newNode(t, 0, 3, 100, store.Kept{Promised: 5, Current: 4, Lines: parseLines(t, "1a", "4b", "4c")})
	x.play(`
		2 Adopt 5 1a 4b 4c = 2 Ack 5 3
		2 Append 5 3 3 = 2 Ack 5 3
		2 Stand 8 = 2 Promise 8 5 1a 4b 4c
		ticks 3 =
		tick = 1 Stand 9, 2 Stand 9
		1 Promise 9 6 1a = 1 Adopt 9 1a, 2 Adopt 9 1a
		is = P 9 C 9 L 1a K 1
		1 Ack 9 1 =
		propose d = 0
		is = P 9 C 9 L 1a 9d K 1 leads
		propose e = 0
		is = P 9 C 9 L 1a 9d 9e K 1 leads
		1 Ack 9 2 =
		is = P 9 C 9 L 1a 9d 9e K 2 leads
	`)
}

// P12.3: Refuse: a greater epoch ends standing and leading; waited is 0 then, but not of who follows.
func TestHearRefuse(t *testing.T) {
	for name, x := range inRoles(t, 0) {
		if name == "follows" {
			continue
		}
		is := x.is()
		for _, s := range []string{"Refuse 1", "Refuse 5", "Refuse 6"} {
			for from := range 3 {
				if x.hears(from, s); x.is() != is {
					t.Fatalf("%s: %s behind %s", name, x.is(), s)
				}
			}
		}
		x.hears(0, "Refuse 7")
		if x.is() != is {
			t.Fatal("heard of itself")
		}
		x.play(`
			2 Refuse 7 =
			propose f = 64
			1 Promise 6 4 =
			1 Ack 6 4 =
			propose f = 64
			ticks 3 =
			tick = 1 Stand 9, 2 Stand 9
		`)
	}
	inRoles(t, 0)["follows"].play(`
		ticks 2 =
		1 Refuse 90 =
		ticks 1 =
		tick = 1 Stand 93, 2 Stand 93
		ticks 2 =
		1 Refuse 93 =
		1 Refuse 91 =
		ticks 1 =
		tick = 1 Stand 96, 2 Stand 96
	`)
}

// P12.3: Adopt: with fewer, as many and more lines than are kept and committed, once and again.
func TestHearAdopt(t *testing.T) {
	newNode(t, 0, 3, 100, before(t)).play(`
		1 Adopt 4 1a = 1 Refuse 5
		1 Adopt 5 1a =
		0 Adopt 6 1a =
		2 Adopt 7 1a =
		ticks 3 =
		2 Adopt 5 1a 4b 4c = 2 Ack 5 3
		is = P 5 C 5 L 1a 4b 4c K 0
		ticks 3 =
		2 Adopt 5 1a = 2 Ack 5 3
		is = P 5 C 5 L 1a 4b 4c K 0
		ticks 2 =
		2 Append 5 3 2 5d = 2 Ack 5 4
		2 Adopt 5 1x 4y 4z 5u 5v = 2 Ack 5 4
		is = P 5 C 5 L 1a 4b 4c 5d K 2
		1 Adopt 7 1a 4b 4c = 1 Ack 7 3
		is = P 7 C 7 L 1a 4b 4c K 2
		2 Adopt 5 1a 4b 4c 5d = 2 Refuse 7
		2 Adopt 8 1a 4b = 2 Ack 8 2
		is = P 8 C 8 L 1a 4b K 2
		1 Adopt 10 1a = 1 Ack 10 1
		is = P 10 C 10 L 1a K 1
		1 Adopt 13 = 1 Ack 13 0
		is = P 13 C 13 L K 0
		1 Adopt 13 = 1 Ack 13 0
		2 Adopt 14 1a 2b 14c = 2 Ack 14 3
		1 Stand 16 = 1 Promise 16 14 1a 2b 14c
		2 Adopt 14 1a = 2 Refuse 16
		ticks 3 =
		1 Adopt 16 2a 16b = 1 Ack 16 2
		ticks 3 =
		tick = 1 Stand 18, 2 Stand 18
		is = P 18 C 16 L 2a 16b K 0
	`)
	for _, x := range inRoles(t, 0) {
		x.play(`
			2 Adopt 8 2x 8y = 2 Ack 8 2
			is = P 8 C 8 L 2x 8y K ` + strconv.Itoa(min(2, len(x.z.Committed()))) + `
			1 Promise 6 0 =
			1 Ack 6 1 =
			propose f = 64
			ticks 3 =
			tick = 1 Stand 9, 2 Stand 9
		`)
	}
}

// P12.3: an Adopt that the store refuses does nothing more: who stands, or leads, goes on.
func TestHearAdoptRefused(t *testing.T) {
	full := many(5, 60, 400)
	for _, l := range [][]api.Line{{{Epoch: 9, Bytes: []byte("x")}}, full} {
		for name, x := range inRoles(t, 0) {
			is, next := x.is(), ""
			if name == "stands" || name == "follows" {
				x.play("ticks 2 =")
			}
			if got := x.hear(2, api.Msg{Kind: api.MsgAdopt, Epoch: 8, Lines: l}); len(got) != 0 || x.is() != is {
				t.Fatalf("%s: %s, %s", name, outText(t, got), x.is())
			}
			switch name {
			case "follows", "stands":
				x.play("ticks 1 =")
				next = "1 Stand 9, 2 Stand 9"
			case "leads":
				next = "1 Adopt 6 1a 4b 4c 4d, 2 Adopt 6 1a 4b 4c 4d"
			case "leads, ready":
				next = "1 Append 6 4 4, 2 Adopt 6 1a 4b 4c 4d"
			default:
				next = "1 Append 6 4 4 6e, 2 Adopt 6 1a 4b 4c 4d 6e"
			}
			x.play("tick = " + next)
		}
	}
}

// P12.3: Append: At below, at and above how many lines there are, Commit likewise, and lines that are there already.
func TestHearAppend(t *testing.T) {
	x := newNode(t, 0, 3, 100, store.Kept{Promised: 5, Current: 5, Lines: parseLines(t, "1a", "5b")})
	x.play(`
		2 Append 2 0 0 = 2 Refuse 5
		1 Append 4 0 0 = 1 Refuse 5
		1 Append 5 2 0 5c =
		2 Append 8 2 0 8c =
		0 Append 6 2 0 6c =
		is = P 5 C 5 L 1a 5b K 0
		2 Append 5 2 0 = 2 Ack 5 2
		2 Append 5 3 2 5c =
		2 Append 5 256 2 =
		is = P 5 C 5 L 1a 5b K 0
		2 Append 5 2 0 5c = 2 Ack 5 3
		2 Append 5 2 0 5c = 2 Ack 5 3
		is = P 5 C 5 L 1a 5b 5c K 0
		2 Append 5 2 1 5c = 2 Ack 5 3
		is = P 5 C 5 L 1a 5b 5c K 1
		2 Append 5 2 0 5c = 2 Ack 5 3
		is = P 5 C 5 L 1a 5b 5c K 1
		2 Append 5 0 2 1x = 2 Ack 5 3
		is = P 5 C 5 L 1a 5b 5c K 2
		2 Append 5 0 3 1x 1y 1z 5d = 2 Ack 5 4
		is = P 5 C 5 L 1a 5b 5c 5d K 3
		2 Append 5 4 4 5e = 2 Ack 5 5
		is = P 5 C 5 L 1a 5b 5c 5d 5e K 4
		2 Append 5 5 256 = 2 Ack 5 5
		is = P 5 C 5 L 1a 5b 5c 5d 5e K 5
		2 Append 5 1 256 5x 5y = 2 Ack 5 5
		2 Append 5 3 9 5x 5y 5f 5g = 2 Ack 5 7
		is = P 5 C 5 L 1a 5b 5c 5d 5e 5f 5g K 7
		2 Append 5 6 2 5x 5y 5h = 2 Ack 5 9
		is = P 5 C 5 L 1a 5b 5c 5d 5e 5f 5g 5y 5h K 7
	`)
	x.play(`
		1 Stand 7 = 1 Promise 7 5 1a 5b 5c 5d 5e 5f 5g 5y 5h
		2 Append 5 9 9 5i = 2 Refuse 7
		1 Append 7 9 9 7i =
		is = P 7 C 5 L 1a 5b 5c 5d 5e 5f 5g 5y 5h K 7
	`)
}

// P12.3: an Append lets the node wait from the start, if its epoch is P and C, also if At is above what there is, or the store refuses the lines; else not.
func TestHearAppendWaits(t *testing.T) {
	for _, c := range []struct {
		from      int
		says      string
		want, sts string
	}{
		{2, "Append 5 2 0", "2 Ack 5 2", ""},
		{2, "Append 5 3 2", "", ""},
		{2, "Append 5 2 2 4c", "", ""},                 // a line of another epoch: the store refuses it
		{2, "Append 5 2 2 5c 6d", "", ""},              // or one of two
		{2, "Append 5 1 2 4x", "2 Ack 5 2", ""},        // it is there already
		{1, "Append 4 2 2", "1 Refuse 5", "Stand 6"},   // below P
		{2, "Append 2 2 2", "2 Refuse 5", "Stand 6"},   // below P
		{1, "Append 5 2 2", "", "Stand 6"},             // from no owner
		{1, "Append 7 2 2", "", "Stand 9"},             // above P
		{2, "Append 281474976710656 2 2", "", "Stand"}, // from no owner, and no epoch is left
	} {
		x := newNode(t, 0, 3, 100, store.Kept{Promised: 5, Current: 5, Lines: parseLines(t, "1a", "5b")})
		x.play("ticks 3 =")
		if got := x.hears(c.from, c.says); got != c.want {
			t.Fatalf("Hear(%d, %s): %s, want %s", c.from, c.says, got, c.want)
		}
		if k := len(x.z.Committed()); k != 0 && c.want != "2 Ack 5 2" {
			t.Fatalf("Hear(%d, %s): %d are committed", c.from, c.says, k)
		}
		want := ""
		if len(c.sts) > 5 {
			want = "1 " + c.sts + ", 2 " + c.sts
		}
		x.play("tick = " + want)
	}
}

// P12.3: lines that the store has no room for, or that would be more than MaxLog: nothing is told.
func TestHearAppendFull(t *testing.T) {
	x := newNode(t, 0, 3, 100, store.Kept{Promised: 5, Current: 5, Lines: many(5, 250, 1)})
	more := func(at, n int) api.Msg {
		return api.Msg{Kind: api.MsgAppend, Epoch: 5, At: at, Commit: 256, Lines: many(5, n, 1)}
	}
	for _, c := range []struct{ at, n, held int }{{250, 7, -1}, {0, 256, 256}, {256, 1, -1}, {255, 2, -1}, {0, 256, 256}, {256, 0, 256}} {
		out := x.hear(2, more(c.at, c.n))
		want := ""
		if c.held >= 0 {
			want = fmt.Sprintf("2 Ack 5 %d", c.held)
		}
		if got := outText(t, out); got != want {
			t.Fatalf("At %d, %d lines: %s, want %s", c.at, c.n, got, want)
		}
	}
	if n := len(x.z.Committed()); n != 256 {
		t.Fatal(n)
	}
	x = newNode(t, 0, 3, 8, store.Kept{Promised: 5, Current: 5, Lines: many(5, 2, 400)})
	for _, size := range []int{529, 530} { // there is room for 1440: 64, 2 times 416, and 16 and 528
		if out := x.hear(2, api.Msg{Kind: api.MsgAppend, Epoch: 5, At: 2, Commit: 2, Lines: many(5, 1, size)}); len(out) != 0 || len(x.z.Committed()) != 0 {
			t.Fatal(outText(t, out))
		}
	}
	if out := x.hear(2, api.Msg{Kind: api.MsgAppend, Epoch: 5, At: 2, Commit: 2, Lines: many(5, 1, 528)}); outText(t, out) != "2 Ack 5 3" || len(x.z.Committed()) != 2 {
		t.Fatal(outText(t, out), x.is())
	}
}

// P12.3: Ack: At below, at and above what was acked and what is kept; a quorum of the base makes ready.
func TestHearAck(t *testing.T) {
	inRoles(t, 0)["leads"].play(`
		is = P 6 C 6 L 1a 4b 4c 4d K 0
		1 Ack 5 4 =
		1 Ack 7 4 =
		0 Ack 6 4 =
		3 Ack 6 4 =
		is = P 6 C 6 L 1a 4b 4c 4d K 0
		tick = 1 Adopt 6 1a 4b 4c 4d, 2 Adopt 6 1a 4b 4c 4d
		1 Ack 6 3 =
		is = P 6 C 6 L 1a 4b 4c 4d K 0
		propose e = 64
		tick = 1 Append 6 3 0 4d, 2 Adopt 6 1a 4b 4c 4d
		2 Ack 6 2 =
		is = P 6 C 6 L 1a 4b 4c 4d K 0
		2 Ack 6 256 =
		is = P 6 C 6 L 1a 4b 4c 4d K 4 leads
		tick = 1 Append 6 3 4 4d, 2 Append 6 4 4
		2 Ack 6 1 =
		tick = 1 Append 6 3 4 4d, 2 Append 6 4 4
		propose e = 0
		propose f = 0
		tick = 1 Append 6 3 4 4d 6e 6f, 2 Append 6 4 4 6e 6f
		is = P 6 C 6 L 1a 4b 4c 4d 6e 6f K 4 leads
		1 Ack 6 5 =
		is = P 6 C 6 L 1a 4b 4c 4d 6e 6f K 5 leads
		1 Ack 6 4 =
		is = P 6 C 6 L 1a 4b 4c 4d 6e 6f K 5 leads
		2 Ack 6 6 =
		is = P 6 C 6 L 1a 4b 4c 4d 6e 6f K 6 leads
		tick = 1 Append 6 5 6 6f, 2 Append 6 6 6
	`)
	for name, x := range inRoles(t, 0) {
		if strings.HasPrefix(name, "leads") {
			continue
		}
		is := x.is()
		for _, s := range []string{"Ack 4 3", "Ack 5 3", "Ack 6 3", "Ack 6 4"} {
			for from := range 3 {
				if got := x.hears(from, s); got != "" || x.is() != is {
					t.Fatalf("%s: %s, %s", name, got, x.is())
				}
			}
		}
	}
	newNode(t, 0, 2, 100, store.Kept{}).play(`
		ticks 3 =
		tick = 1 Stand 2
		1 Promise 2 1 1a 1b = 1 Adopt 2 1a 1b
		1 Ack 2 1 =
		is = P 2 C 2 L 1a 1b K 0
		1 Ack 2 2 =
		is = P 2 C 2 L 1a 1b K 2 leads
		propose c = 0
		is = P 2 C 2 L 1a 1b 2c K 2 leads
		1 Ack 2 3 =
		is = P 2 C 2 L 1a 1b 2c K 3 leads
		2 Ack 2 3 =
	`)
}

// P12.3: bytes that are no message, and who is no other node of the group, in all roles: nothing, and nothing is seen.
func TestHearNoMessage(t *testing.T) {
	stand := putMsg(t, parse(t, "Stand 100"))
	long := append(slices.Clone(stand), 0)
	zero := slices.Clone(stand)
	zero[8] = 0 // Stand 0
	other := slices.Clone(stand)
	other[0] = 7
	huge := putMsg(t, parse(t, "Refuse 100"))
	huge[1] = 1
	for id := range 3 {
		for name, x := range inRoles(t, id) {
			is := x.is()
			for _, from := range []int{math.MinInt, -1, 0, 1, 2, 3, 4, math.MaxInt} {
				for _, b := range [][]byte{nil, {}, {1}, []byte("no message"), stand[:len(stand)-1], long, zero, other, huge} {
					if out := x.z.Hear(from, b); len(out) != 0 || x.is() != is {
						t.Fatalf("%s: Hear(%d, %x): %s, %s", name, from, b, outText(t, out), x.is())
					}
				}
				if from != (id+1)%3 && from != (id+2)%3 {
					for _, s := range []string{"Stand 99", "Stand 100", "Stand 101", "Refuse 100", "Adopt 99", "Adopt 100", "Adopt 101", "Ack 6 9", "Ack 7 9", "Ack 8 9"} {
						if got := x.hears(from, s); got != "" || x.is() != is {
							t.Fatalf("%s: Hear(%d, %s): %s, %s", name, from, s, got, x.is())
						}
					}
				}
			}
			for range 20 {
				x.tick()
			}
			if x.z.Epoch() > 25 {
				t.Fatalf("%s: %s: what is no message was seen", name, x.is())
			}
		}
	}
}

// P12.3: all kinds, by nodes of all roles and numbers, from all, with epochs, counts and lines at and beside all bounds, each held against the model, and what comes behind, too.
func TestHearAll(t *testing.T) {
	lists := [][]string{nil, {"1a"}, {"1a", "4b", "4c"}, {"1x", "4b", "4c", "4d", "6e"}, {"8x"}}
	for kind := uint8(1); kind <= 6; kind++ {
		t.Run(words[kind].name, func(t *testing.T) {
			t.Parallel()
			for _, id := range []int{0, 2} {
				for e := uint64(3); e <= 11; e++ {
					for _, m := range variants(t, kind, e, lists) {
						for from := range 3 {
							for _, x := range inRoles(t, id) {
								x.hear(from, m)
								x.hear(from, m)
								x.tick()
							}
						}
					}
				}
			}
		})
	}
}

// variants are messages of a kind and epoch with other parts.
func variants(t *testing.T, kind uint8, e uint64, lists [][]string) []api.Msg {
	t.Helper()
	all := []api.Msg{{Kind: kind, Epoch: e}}
	for _, part := range words[kind].parts {
		var next []api.Msg
		for _, m := range all {
			switch part {
			case 'c':
				for _, c := range []uint64{0, 4, e - 1, e} {
					if m.Current = c; c <= e {
						next = append(next, m)
					}
				}
			case 'a':
				for _, m.At = range []int{0, 2, 3, 4, 5, 6} {
					next = append(next, m)
				}
			case 'o':
				for _, m.Commit = range []int{0, 3, 5} {
					next = append(next, m)
				}
			case 'l':
				for _, l := range lists {
					m.Lines = parseLines(t, l...)
					next = append(next, m)
				}
			}
		}
		all = next
	}
	return all
}

// P12.4: Propose: its errors, in order, by nodes of all roles.
func TestProposeErrors(t *testing.T) {
	for id := range 3 {
		for name, x := range inRoles(t, id) {
			ready := strings.HasPrefix(name, "leads, ready")
			for _, size := range []int{0, 1, 2, api.MaxEntry - 1, api.MaxEntry, api.MaxEntry + 1, 2 * api.MaxEntry} {
				want := api.OK
				switch {
				case size < 1 || size > 4096:
					want = api.ErrArg
				case !ready:
					want = api.ErrLeader
				}
				held := len(x.s.Kept().Lines)
				if e := x.propose(make([]byte, size)); e != want {
					t.Fatalf("%s: %d bytes: %v, want %v", name, size, e, want)
				}
				if l := x.s.Kept().Lines; want == api.OK && (len(l) != held+1 || l[held].Epoch != x.z.Epoch() || len(l[held].Bytes) != size) || want != api.OK && len(l) != held {
					t.Fatalf("%s: %d bytes: %d lines", name, size, len(l))
				}
			}
			if e := x.propose(nil); e != api.ErrArg {
				t.Fatal(e)
			}
			x.d.Kill()
			wantNothing(t, x.z, api.ErrDead)
		}
	}
}

// P12.4: ErrFull: of MaxLog lines, and of a store without room; the store is as it was.
func TestProposeFull(t *testing.T) {
	x := newNode(t, 0, 1, 100, store.Kept{Promised: 5, Current: 5, Lines: many(5, 254, 1)})
	x.play("ticks 4 =")
	for _, want := range []api.Errno{0, 0, 4, 4} {
		if e := x.propose([]byte("a")); e != want || len(x.z.Committed()) > 256 {
			t.Fatal(e, want)
		}
	}
	if e := x.propose(nil); e != api.ErrArg {
		t.Fatal(e)
	}
	x = newNode(t, 0, 1, 8, store.Kept{Promised: 5, Current: 5, Lines: many(5, 2, 400)})
	x.play("ticks 4 =")
	for _, c := range []struct {
		size int
		want api.Errno
	}{{4096, 4}, {530, 4}, {529, 4}, {500, 0}, {13, 4}, {12, 0}, {1, 4}} {
		if e := x.propose(make([]byte, c.size)); e != c.want {
			t.Fatalf("%d bytes: %v, want %v", c.size, e, c.want)
		}
	}
	if n := len(x.z.Committed()); n != 4 {
		t.Fatal(n)
	}
	y := newNode(t, 0, 3, 100, store.Kept{Promised: 5, Current: 5, Lines: many(5, 256, 1)})
	for _, want := range []string{"follows", "stands", "leads"} { // not ready: of more lines than may be it is not told yet
		if e := y.propose([]byte("a")); e != api.ErrLeader {
			t.Fatal(want, e)
		}
		if want == "follows" {
			y.play("ticks 3 =\ntick = 1 Stand 6, 2 Stand 6")
		} else if want == "stands" {
			y.hears(1, "Promise 6 0")
		}
	}
	y.hears(1, "Ack 6 256")
	if e := y.propose([]byte("a")); e != api.ErrFull || len(y.z.Committed()) != 256 {
		t.Fatal(e)
	}
}

// P12.4: a group of one commits at once; of two and three a quorum must have acked, and acks stand ahead of the lines that come behind.
func TestProposeCounts(t *testing.T) {
	newNode(t, 0, 1, 100, store.Kept{}).play(`
		ticks 4 =
		propose a = 0
		is = P 1 C 1 L 1a K 1 leads
		propose b = 0
		is = P 1 C 1 L 1a 1b K 2 leads
	`)
	for n := 2; n <= 3; n++ {
		x := newNode(t, 0, n, 100, store.Kept{})
		x.tick()
		x.tick()
		x.tick()
		x.tick()
		e := x.z.Epoch()
		x.hear(1, api.Msg{Kind: api.MsgPromise, Epoch: e})
		x.hear(1, api.Msg{Kind: api.MsgAck, Epoch: e, At: 7}) // no more than there are
		for i := range 5 {
			if er := x.propose([]byte{byte(i)}); er != api.OK {
				t.Fatal(er)
			}
			if k := len(x.z.Committed()); k != i {
				t.Fatalf("%d are committed, want %d", k, i)
			}
			x.hear(1, api.Msg{Kind: api.MsgAck, Epoch: e, At: i + 1})
			if k := len(x.z.Committed()); k != i+1 {
				t.Fatalf("%d are committed, want %d", k, i+1)
			}
		}
	}
}
