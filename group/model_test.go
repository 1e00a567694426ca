package group_test

import (
	"bytes"
	"fmt"
	"slices"
	"strconv"
	"strings"
	"testing"

	"outrider/api"
	"outrider/disk"
	"outrider/group"
	"outrider/store"
	"outrider/zab"
	"outrider/zmsg"
)

// model is another reading of the chapter: letters in a plain row, cut links in a table of both ways, and of each node what the layers below make of what it is told.
type model struct {
	disks  []*disk.Disk
	stores []*store.Store
	nodes  []*zab.Node
	row    []api.Letter
	closed [3][3]bool
}

func newModel(t *testing.T, n, pages int) *model {
	t.Helper()
	m := &model{}
	for i := range n {
		d, e := disk.New(pages)
		if e != api.OK {
			t.Fatal(e)
		}
		m.disks, m.stores, m.nodes = append(m.disks, d), append(m.stores, nil), append(m.nodes, nil)
		if e := m.renew(i, n); e != api.OK {
			t.Fatal(e)
		}
	}
	return m
}

// renew makes node i a new one of what its disk has.
func (m *model) renew(i, n int) (e api.Errno) {
	if m.stores[i], e = store.Open(m.disks[i]); e != api.OK {
		return e
	}
	m.nodes[i], e = zab.New(i, n, m.stores[i])
	return e
}

func (m *model) isNode(i int) bool { return i >= 0 && i <= len(m.nodes)-1 }

// send lays what a node told behind all, as long as there is room.
func (m *model) send(from int, outs []zab.Out) api.Errno {
	for _, o := range outs {
		if len(m.row) == 4096 {
			continue
		}
		m.row = append(m.row, api.Letter{From: api.Addr{Node: from}, To: api.Addr{Node: o.To}, Bytes: o.Bytes})
	}
	return 0
}

// at does an act at node i, which may be none.
func (m *model) at(verb string, i int, text string, numbers []int) api.Errno {
	if !m.isNode(i) {
		return 1
	}
	switch verb {
	case "tick":
		if m.disks[i].Dead() {
			return 9
		}
		return m.send(i, m.nodes[i].Tick())
	case "propose":
		return m.nodes[i].Propose([]byte(text))
	case "fuse":
		m.disks[i].Fuse(numbers[0])
	case "kill":
		m.disks[i].Kill()
	case "start":
		m.disks[i].Restart(numbers)
		return m.renew(i, len(m.nodes))
	}
	return 0
}

// on does an act on letter k, which may be none.
func (m *model) on(verb string, k int) api.Errno {
	if k < 0 || k > len(m.row)-1 {
		return 1
	}
	l := m.row[k]
	from, to := l.From.Node, l.To.Node
	if verb == "double" {
		if len(m.row) == 4096 {
			return 4
		}
		m.row = append(m.row, l)
		return 0
	}
	if verb == "take" && m.closed[from][to] {
		return 65
	}
	m.row = slices.Delete(slices.Clone(m.row), k, k+1)
	switch {
	case verb == "hold":
		m.row = append(m.row, l)
	case verb == "take" && m.disks[to].Dead():
		return 9
	case verb == "take":
		return m.send(to, m.nodes[to].Hear(from, l.Bytes))
	}
	return 0
}

// link cuts a link, or heals it.
func (m *model) link(verb string, i, j int) api.Errno {
	if i == j || !m.isNode(i) || !m.isNode(j) {
		return 1
	}
	m.closed[i][j] = verb == "cut"
	m.closed[j][i] = verb == "cut"
	return 0
}

// act is a call: what, of which node or letter, and with what.
type act struct {
	verb    string
	i       int
	text    string
	numbers []int
}

func (a act) String() string { return fmt.Sprintf("%s %d %.9q %v", a.verb, a.i, a.text, a.numbers) }

// parse reads an act: what, of which node or letter, and numbers, or Propose's text (- is none).
func parse(t *testing.T, s string) act {
	t.Helper()
	w := strings.Fields(s)
	a := act{verb: w[0]}
	for k, one := range w[1:] {
		n, e := strconv.Atoi(one)
		switch {
		case k == 0:
			a.i = n
		case a.verb == "propose":
			a.text, e = strings.Trim(one, "-"), nil
		default:
			a.numbers = append(a.numbers, n)
		}
		if e != nil {
			t.Fatal(s, e)
		}
	}
	return a
}

func (m *model) do(a act) api.Errno {
	switch a.verb {
	case "take", "drop", "double", "hold":
		return m.on(a.verb, a.i)
	case "cut", "heal":
		return m.link(a.verb, a.i, a.numbers[0])
	}
	return m.at(a.verb, a.i, a.text, a.numbers)
}

// call does the act on the group. What is handed in has room behind its end; it must stay as it was, and is spoilt then.
func call(t *testing.T, g *group.Group, a act) api.Errno {
	t.Helper()
	b, numbers := append([]byte(a.text), "room"...), append(slices.Clone(a.numbers), 512, 512, 512)
	var e api.Errno
	switch a.verb {
	case "tick":
		e = g.Tick(a.i)
	case "take":
		e = g.Take(a.i)
	case "drop":
		e = g.Drop(a.i)
	case "double":
		e = g.Double(a.i)
	case "hold":
		e = g.Hold(a.i)
	case "cut":
		e = g.Cut(a.i, a.numbers[0])
	case "heal":
		e = g.Heal(a.i, a.numbers[0])
	case "propose":
		e = g.Propose(a.i, b[:len(a.text)])
	case "fuse":
		e = g.Fuse(a.i, a.numbers[0])
	case "kill":
		e = g.Kill(a.i)
	case "start":
		e = g.Start(a.i, numbers[:len(a.numbers)])
	default:
		t.Fatal("no act: ", a)
	}
	if string(b) != a.text+"room" || !slices.Equal(numbers, append(slices.Clone(a.numbers), 512, 512, 512)) {
		t.Fatalf("%v: what was handed in has changed", a)
	}
	for i := range b {
		b[i] ^= 255
	}
	for i := range numbers {
		numbers[i]++
	}
	return e
}

// lab is a group, and a model to which the same is done.
type lab struct {
	t    *testing.T
	g    *group.Group
	m    *model
	done []act
}

func newLab(t *testing.T, n, pages int) *lab {
	t.Helper()
	g, e := group.New(n, pages)
	if e != api.OK || g == nil {
		t.Fatal(g, e)
	}
	return &lab{t: t, g: g, m: newModel(t, n, pages)}
}

// size is how many nodes there are.
func (x *lab) size() int { return len(x.m.nodes) }

// try does the act on both, and wants like answers.
func (x *lab) try(a act) api.Errno {
	x.t.Helper()
	x.done = append(x.done, a)
	want := x.m.do(a)
	if got := call(x.t, x.g, a); got != want {
		x.t.Fatalf("%v: %v, want %v", x.done, got, want)
	}
	return want
}

// do does acts that are answered OK, or the number behind a !, and wants all to be told alike behind each.
func (x *lab) do(acts ...string) {
	x.t.Helper()
	for _, s := range acts {
		said, number, _ := strings.Cut(s, "!")
		want, _ := strconv.Atoi(number)
		if e := x.try(parse(x.t, said)); e != api.Errno(want) {
			x.t.Fatalf("%s: %v", s, e)
		}
		x.like()
	}
}

// like wants both to tell the same of all nodes, of no nodes, and of the letters.
func (x *lab) like() {
	x.t.Helper()
	for i := -1; i <= x.size(); i++ {
		var lines []api.Line
		var kept store.Kept
		leads, dead := false, false
		if x.m.isNode(i) {
			lines, kept, leads, dead = x.m.nodes[i].Committed(), x.m.stores[i].Kept(), x.m.nodes[i].Leads(), x.m.disks[i].Dead()
		}
		if got := x.g.Committed(i); !sameLines(got, lines) {
			x.t.Fatalf("%v: Committed(%d): %s, want %s", x.done, i, tellLines(got), tellLines(lines))
		}
		if got := x.g.Kept(i); !sameKept(got, kept) {
			x.t.Fatalf("%v: Kept(%d): %s, want %s", x.done, i, tellKept(got), tellKept(kept))
		}
		if x.g.Leads(i) != leads || x.g.Dead(i) != dead {
			x.t.Fatalf("%v: Leads(%d), Dead: %v %v, want %v %v", x.done, i, x.g.Leads(i), x.g.Dead(i), leads, dead)
		}
	}
	if got := x.g.Letters(); !slices.EqualFunc(got, x.m.row, sameLetter) {
		x.t.Fatalf("%v: letters\n%q, want\n%q", x.done, tellAll(got), tellAll(x.m.row))
	}
}

// has wants just these letters to be under way, in order.
func (x *lab) has(letters ...string) {
	x.t.Helper()
	if got := tellAll(x.g.Letters()); !slices.Equal(got, letters) {
		x.t.Fatalf("%v: letters\n%q, want\n%q", x.done, got, letters)
	}
}

// keeps wants node i to keep this.
func (x *lab) keeps(i int, want string) {
	x.t.Helper()
	if got := tellKept(x.g.Kept(i)); got != want {
		x.t.Fatalf("%v: Kept(%d): %s, want %s", x.done, i, got, want)
	}
}

// committed wants, of each node, these lines to be known as committed.
func (x *lab) committed(want ...string) {
	x.t.Helper()
	for i := range x.size() {
		if got := tellLines(x.g.Committed(i)); got != want[i] {
			x.t.Fatalf("%v: Committed(%d): %s, want %s", x.done, i, got, want[i])
		}
	}
}

// leads wants just these nodes to lead.
func (x *lab) leads(want ...int) {
	x.t.Helper()
	if got := x.leaders(); !slices.Equal(got, want) {
		x.t.Fatalf("%v: %v lead, want %v", x.done, got, want)
	}
}

func (x *lab) leaders() []int {
	var all []int
	for i := range x.size() {
		if x.g.Leads(i) {
			all = append(all, i)
		}
	}
	return all
}

// takeAll takes letters, the first one each time, till none is left.
func (x *lab) takeAll() {
	x.t.Helper()
	for len(x.m.row) > 0 {
		x.try(act{verb: "take"})
	}
	x.like()
}

// round lets all tick, and takes all letters.
func (x *lab) round() {
	x.t.Helper()
	for i := range x.size() {
		x.try(act{verb: "tick", i: i})
	}
	x.takeAll()
}

// rounds lets so many rounds be.
func (x *lab) rounds(n int) {
	x.t.Helper()
	for range n {
		x.round()
	}
}

// lead lets node i tick till it leads, and takes all letters on the way.
func (x *lab) lead(i int) {
	x.t.Helper()
	for range 40 {
		if x.g.Leads(i) {
			return
		}
		x.try(act{verb: "tick", i: i})
		x.takeAll()
	}
	x.t.Fatalf("%v: %d leads not", x.done, i)
}

func sameLine(a, b api.Line) bool { return a.Epoch == b.Epoch && bytes.Equal(a.Bytes, b.Bytes) }

func sameLines(a, b []api.Line) bool { return slices.EqualFunc(a, b, sameLine) }

func sameKept(a, b store.Kept) bool {
	return a.Promised == b.Promised && a.Current == b.Current && sameLines(a.Lines, b.Lines)
}

func sameLetter(a, b api.Letter) bool {
	return a.From == b.From && a.To == b.To && bytes.Equal(a.Bytes, b.Bytes)
}

// tellLines tells lines as 3a 3b: their epochs, and their bytes.
func tellLines(l []api.Line) string {
	var all []string
	for _, one := range l {
		all = append(all, fmt.Sprintf("%d%.9s", one.Epoch, one.Bytes))
	}
	return strings.Join(all, " ")
}

func tellKept(k store.Kept) string {
	return strings.TrimSpace(fmt.Sprint(k.Promised, " ", k.Current, " ", tellLines(k.Lines)))
}

// tell tells a letter as 0>1 and its message, with the numbers that its kind has.
func tell(l api.Letter) string {
	m, e := zmsg.Get(l.Bytes)
	says := fmt.Sprintf("%x", l.Bytes)
	if e == api.OK {
		lines := tellLines(m.Lines)
		switch m.Kind {
		case api.MsgStand:
			says = fmt.Sprint("Stand ", m.Epoch)
		case api.MsgPromise:
			says = fmt.Sprint("Promise ", m.Epoch, " ", m.Current, " ", lines)
		case api.MsgRefuse:
			says = fmt.Sprint("Refuse ", m.Epoch)
		case api.MsgAdopt:
			says = fmt.Sprint("Adopt ", m.Epoch, " ", lines)
		case api.MsgAppend:
			says = fmt.Sprint("Append ", m.Epoch, " ", m.At, " ", m.Commit, " ", lines)
		case api.MsgAck:
			says = fmt.Sprint("Ack ", m.Epoch, " ", m.At)
		}
	}
	way := fmt.Sprintf("%d>%d ", l.From.Node, l.To.Node)
	if l.From.Group != 0 || l.To.Group != 0 {
		way = fmt.Sprint(l.From, l.To, " ")
	}
	return way + strings.TrimSpace(says)
}

func tellAll(l []api.Letter) []string {
	var all []string
	for _, one := range l {
		all = append(all, tell(one))
	}
	return all
}
