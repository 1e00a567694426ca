package group_test

import (
	"fmt"
	"math"
	"slices"
	"strconv"
	"strings"
	"testing"

	"outrider/api"
	"outrider/group"
	"outrider/store"
)

// times answers the act so many times.
func times(n int, s string) []string { return slices.Repeat([]string{s}, n) }

// farNumbers are far from what any group has.
var farNumbers = []int{math.MinInt, math.MinInt + 1, -1 << 32, -3, -2, 7, 1 << 32, math.MaxInt}

// P14.1: numbers of nodes and of pages that may be, and that may not.
func TestNew(t *testing.T) {
	refused := func(n, pages int) {
		t.Helper()
		if g, e := group.New(n, pages); g != nil || e != api.ErrArg {
			t.Errorf("New(%d, %d): %v, %v", n, pages, g, e)
		}
	}
	mayBe := []int{8, 9, 100, 4095, 4096}
	for _, n := range append([]int{-1, 0, 4, 5}, farNumbers...) {
		for _, pages := range append([]int{0, 7, 4097}, mayBe...) {
			refused(n, pages)
		}
	}
	for n := 1; n <= 3; n++ {
		for _, pages := range append([]int{-8, -1, 0, 1, 2, 3, 4, 5, 6, 4097, 4098, 1 << 20}, farNumbers...) { // 7: of store.Open
			refused(n, pages)
		}
		for _, pages := range mayBe {
			newLab(t, n, pages).like()
		}
	}
}

// P14.1: the nodes are new ones of a group of n, which have power, and keep nothing; the one more is none.
func TestNewNodes(t *testing.T) {
	stands := map[int][]string{ // of each size and node, what it tells when it stands
		1: {""},
		2: {"0>1 Stand 2", "1>0 Stand 1"},
		3: {"0>1 Stand 3, 0>2 Stand 3", "1>0 Stand 1, 1>2 Stand 1", "2>0 Stand 2, 2>1 Stand 2"},
	}
	for n := 1; n <= 3; n++ {
		for i := range n {
			x := newLab(t, n, 100)
			x.keeps(i, "0 0")
			x.committed(slices.Repeat([]string{""}, n)...)
			x.leads()
			for k := range n {
				if x.g.Dead(k) {
					t.Fatal("a new node has no power")
				}
			}
			for range 3 + 2*i {
				x.do("tick " + strconv.Itoa(i))
				x.has()
				x.keeps(i, "0 0")
			}
			x.do("tick " + strconv.Itoa(i))
			if got := strings.Join(tellAll(x.g.Letters()), ", "); got != stands[n][i] {
				t.Errorf("node %d of %d: %s, want %s", i, n, got, stands[n][i])
			}
			x.do(fmt.Sprintf("tick %d !1", n), "tick -1 !1")
		}
	}
	alone := newLab(t, 1, 100)
	alone.do(times(4, "tick 0")...)
	alone.leads(0)
	alone.has()
	alone.do("propose 0 a", "propose 0 b")
	alone.committed("1a 1b")
	alone.keeps(0, "1 1 1a 1b")
}

// P14.1: each node's disk has so many pages: what the group keeps has room as the chapter of stores says.
func TestPages(t *testing.T) {
	room := map[int]int{8: 1360, 9: 1360, 10: 1840, 13: 2320, 17: 3280} // bytes of one line
	for n := 1; n <= 3; n++ {
		for pages, most := range room {
			for i := range n {
				x := newLab(t, n, pages)
				x.lead(i)
				if e := x.try(act{verb: "propose", i: i, text: strings.Repeat("a", most+1)}); e != api.ErrFull {
					t.Fatal(n, pages, i, e)
				}
				x.like()
				if e := x.try(act{verb: "propose", i: i, text: strings.Repeat("a", most)}); e != api.OK {
					t.Fatal(n, pages, i, e)
				}
				x.do(fmt.Sprintf("propose %d a !4", i))
				x.rounds(3)
				for k := range n {
					if l := x.g.Committed(k); len(l) != 1 || len(l[0].Bytes) != most {
						t.Fatal(n, pages, k, len(l))
					}
					if l := x.g.Kept(k).Lines; len(l) != 1 {
						t.Fatal(n, pages, k, len(l))
					}
				}
			}
		}
	}
}

// P14.2: what a Tick tells is sent in order, behind all that is under way, from who ticks.
func TestTick(t *testing.T) {
	x := newLab(t, 3, 100)
	x.do(times(4, "tick 0")...)
	x.has("0>1 Stand 3", "0>2 Stand 3")
	x.do(times(6, "tick 1")...)
	x.do(times(8, "tick 2")...)
	six := []string{"0>1 Stand 3", "0>2 Stand 3", "1>0 Stand 1", "1>2 Stand 1", "2>0 Stand 2", "2>1 Stand 2"}
	x.has(six...)
	x.do("tick 3 !1", "tick -1 !1", "tick 4 !1", "kill 1", "tick 1 !9", "tick 1 !9")
	x.has(six...)
	x.do(times(3, "tick 0")...)
	x.has(six...)
	x.do("tick 0")
	x.has(append(six, "0>1 Stand 6", "0>2 Stand 6")...)
	for _, i := range farNumbers {
		x.do(fmt.Sprintf("tick %d !1", i))
	}
}

// P14.2: who leads tells each other node what it lacks.
func TestTickOfALeader(t *testing.T) {
	x := newLab(t, 3, 100)
	x.do(times(4, "tick 0")...)
	x.do("take 0", "take 0", "take 0", "drop 0", "take 0", "drop 0")
	x.has("1>0 Ack 3 0")
	x.leads()
	x.do("tick 0", "hold 0")
	x.has("0>1 Adopt 3", "0>2 Adopt 3", "1>0 Ack 3 0")
	x.do("take 2")
	x.leads(0)
	x.do("drop 0", "drop 0", "propose 0 a", "tick 0")
	x.has("0>1 Append 3 0 0 3a", "0>2 Adopt 3 3a")
	x.do("take 0", "take 0")
	x.has("1>0 Ack 3 1", "2>0 Ack 3 1")
	x.committed("", "", "")
	x.do("take 0")
	x.committed("3a", "", "")
	x.do("tick 0", "take 1", "tick 0", "take 0")
	x.has("0>2 Adopt 3 3a", "1>0 Ack 3 1", "0>1 Append 3 1 1", "0>2 Adopt 3 3a")
	x.do("tick 0")
	x.has("0>2 Adopt 3 3a", "1>0 Ack 3 1", "0>1 Append 3 1 1", "0>2 Adopt 3 3a", "0>1 Append 3 1 1", "0>2 Append 3 1 1")
	x.committed("3a", "3a", "")
	x.do("take 5")
	x.committed("3a", "3a", "3a")
	x.keeps(2, "3 3 3a")
	x.do("tick 1", "tick 2")
	if n := len(x.g.Letters()); n != 6 {
		t.Error(n, "letters")
	}
}

// P14.2: a Propose goes to its node, and tells nothing.
func TestPropose(t *testing.T) {
	x := newLab(t, 3, 100)
	x.do("propose 0 a !64", "propose 1 a !64", "propose 2 a !64", "propose 3 a !1", "propose -1 a !1")
	x.do(times(4, "tick 0")...)
	x.do("propose 0 a !64", "take 0", "drop 0", "take 0")
	x.has("0>1 Adopt 3", "0>2 Adopt 3")
	x.do("propose 0 a !64") // it leads, and is not ready
	x.do("take 0", "take 1")
	x.leads(0)
	x.has("0>2 Adopt 3")
	x.do("propose 0 a", "propose 1 b !64", "propose 2 b !64", "propose 3 b !1", "propose -1 b !1", "propose 0 c")
	x.has("0>2 Adopt 3")
	x.keeps(0, "3 3 3a 3c")
	x.keeps(1, "3 3")
	x.do("propose 0 - !1", "propose 1 - !1", "propose 3 - !1")
	for _, i := range []int{0, 1} {
		if e := x.try(act{verb: "propose", i: i, text: strings.Repeat("a", 4097)}); e != api.ErrArg {
			t.Error(i, e)
		}
	}
	if e := x.try(act{verb: "propose", text: strings.Repeat("a", 4096)}); e != api.OK {
		t.Error(e)
	}
	x.do("kill 0", "kill 1", "propose 0 d !9", "propose 0 - !9", "propose 1 d !9", "propose 1 - !9", "propose 2 d !64", "propose 2 - !1")
	for _, i := range farNumbers {
		x.do(fmt.Sprintf("propose %d a !1", i))
	}
	x.do("start 0", "propose 0 d !64")
	x.keeps(0, "3 3 3a 3c 3aaaaaaaaa")
}

// P14.2: each node may be who leads, and its lines are of its epoch.
func TestEachLeads(t *testing.T) {
	kept := []string{"3 3 3a", "1 1 1a", "2 2 2a"}
	for i := range 3 {
		x := newLab(t, 3, 100)
		x.lead(i)
		x.leads(i)
		for k := range 3 {
			if k != i {
				x.do(fmt.Sprintf("propose %d a !64", k))
			}
		}
		x.do(fmt.Sprintf("propose %d a", i), fmt.Sprintf("tick %d", i))
		x.takeAll()
		for k := range 3 {
			x.keeps(k, kept[i])
		}
		line := kept[i][4:]
		known := []string{"", "", ""}
		known[i] = line
		x.committed(known...)
		x.do(fmt.Sprintf("tick %d", i))
		x.takeAll()
		x.committed(line, line, line)
	}
}

// P14.2, P14.3: what the net has no room for is lost, the last ones first; that is no error.
func TestFullNet(t *testing.T) {
	x := newLab(t, 3, 100)
	x.do(times(4, "tick 0")...)
	for len(x.m.row) < 4095 {
		x.try(act{verb: "double"})
	}
	x.do(times(6, "tick 1")...)
	behind := func(want ...string) {
		t.Helper()
		l := x.g.Letters()
		if len(l) != 4096 || !slices.Equal(tellAll(l[4096-len(want):]), want) {
			t.Fatalf("%d letters, the last ones %q", len(l), tellAll(l[len(l)-len(want):]))
		}
	}
	behind("0>1 Stand 3", "1>0 Stand 1")
	x.do(times(8, "tick 2")...)
	behind("0>1 Stand 3", "1>0 Stand 1")
	x.keeps(2, "2 0")
	x.do("double 0 !4", "double 4095 !4", "double 4096 !1", "hold 4094")
	behind("1>0 Stand 1", "0>1 Stand 3")
	x.do("take 0")
	behind("0>1 Stand 3", "1>0 Promise 3 0")
	x.do("take 4095")
	behind("0>1 Stand 3", "0>1 Adopt 3") // the one to 2 is lost
	x.do("tick 0", "take 4095")
	behind("0>1 Stand 3", "1>0 Ack 3 0")
	x.do("take 4095", "tick 0")
	behind("0>1 Stand 3", "0>1 Append 3 0 0")
	x.leads(0)
	x.do("drop 0", "drop 0", "tick 0")
	behind("0>1 Append 3 0 0", "0>1 Append 3 0 0", "0>2 Adopt 3")
}

// six is a group of three of whom each one stands.
func six(t *testing.T) *lab {
	x := newLab(t, 3, 100)
	x.do(times(4, "tick 0")...)
	x.do(times(6, "tick 1")...)
	x.do(times(8, "tick 2")...)
	return x
}

// letters of six, with what each tells who hears it.
func sixLetters() [][2]string {
	return [][2]string{
		{"0>1 Stand 3", "1>0 Promise 3 0"}, {"0>2 Stand 3", "2>0 Promise 3 0"}, {"1>0 Stand 1", "0>1 Refuse 3"},
		{"1>2 Stand 1", "2>1 Refuse 2"}, {"2>0 Stand 2", "0>2 Refuse 3"}, {"2>1 Stand 2", "1>2 Promise 2 0"},
	}
}

// without answers the letters of six but for the k-th, and others behind them.
func without(k int, behind ...string) []string {
	var all []string
	for i, l := range sixLetters() {
		if i != k {
			all = append(all, l[0])
		}
	}
	return append(all, behind...)
}

// ends answers whom letter k of six is from, and whom it is to.
func ends(k int) (from, to string) {
	l := sixLetters()[k][0]
	return l[:1], l[2:3]
}

// P14.3: each letter of a row is heard by whom it was sent to, and what that tells is sent.
func TestTake(t *testing.T) {
	for k, l := range sixLetters() {
		from, to := ends(k)
		take := "take " + strconv.Itoa(k)
		x := six(t)
		x.do(take)
		x.has(without(k, l[1])...)

		x = six(t)
		x.do("kill "+from, take) // who sent it needs no power
		x.has(without(k, l[1])...)

		x = six(t)
		x.do("kill "+to, take+" !9")
		x.has(without(k)...)
		x.do("start " + to)
		x.has(without(k)...)

		x = six(t)
		x.do("cut "+from+" "+to, take+" !65", take+" !65")
		x.has(without(-1)...)
		x.do("heal "+to+" "+from, take)
		x.has(without(k, l[1])...)
	}
	x := six(t)
	x.do("take -1 !1", "take 6 !1", "take 7 !1")
	for _, k := range farNumbers {
		x.do(fmt.Sprintf("take %d !1", k))
	}
	x.has(without(-1)...)
	newLab(t, 1, 100).do("take 0 !1")
}

// P14.3: a letter that is refused, or that says nothing to who hears it, is under way no more.
func TestTakeOfWhatIsRefused(t *testing.T) {
	x := newLab(t, 3, 100)
	x.lead(0)
	x.do("propose 0 a", "tick 0")
	x.has("0>1 Append 3 0 0 3a", "0>2 Append 3 0 0 3a")
	x.do(times(6, "tick 1")...)
	x.do("take 0")
	x.has("0>2 Append 3 0 0 3a", "1>0 Stand 4", "1>2 Stand 4", "1>0 Refuse 4")
	x.keeps(1, "4 3")
	x.do("take 3", "tick 0") // a greater epoch: who leads follows
	x.leads()
	x.has("0>2 Append 3 0 0 3a", "1>0 Stand 4", "1>2 Stand 4")
	x.do("take 2", "take 0")
	x.has("1>0 Stand 4", "2>1 Promise 4 3", "2>0 Refuse 4")
	x.do("take 2")
	x.has("1>0 Stand 4", "2>1 Promise 4 3")
	x.do("take 1")
	x.has("1>0 Stand 4", "1>0 Adopt 4", "1>2 Adopt 4")
	x.do("take 0")
	x.has("1>0 Adopt 4", "1>2 Adopt 4", "0>1 Promise 4 3 3a")
	x.do("take 2")
	x.has("1>0 Adopt 4", "1>2 Adopt 4")
	x.do("take 0")
	x.keeps(0, "4 4")
	x.has("1>2 Adopt 4", "0>1 Ack 4 0")
}

// P14.3: each letter of a row is lost, doubled, or held, and nobody hears it.
func TestDropDoubleHold(t *testing.T) {
	for k, l := range sixLetters() {
		from, to := ends(k)
		for _, ahead := range []string{"", "kill " + to, "kill " + from, "cut " + from + " " + to} {
			lab := func(verb string) *lab {
				x := six(t)
				if ahead != "" {
					x.do(ahead)
				}
				x.do(fmt.Sprint(verb, " ", k))
				return x
			}
			lab("drop").has(without(k)...)
			lab("double").has(without(-1, l[0])...)
			lab("hold").has(without(k, l[0])...)
		}
	}
	for _, verb := range []string{"drop", "double", "hold"} {
		x := six(t)
		for _, k := range append([]int{-1, 6}, farNumbers...) {
			x.do(fmt.Sprintf("%s %d !1", verb, k))
		}
		x.has(without(-1)...)
		newLab(t, 2, 8).do(verb + " 0 !1")
	}
}

// P14.3: a letter that is heard twice is heard anew; what it told stays under way once more.
func TestDoubled(t *testing.T) {
	x := newLab(t, 3, 100)
	x.do(times(4, "tick 0")...)
	x.do("drop 1", "double 0", "take 0", "take 0")
	x.has("1>0 Promise 3 0", "1>0 Refuse 3")
	x.do("double 0", "take 0", "take 1")
	x.has("1>0 Refuse 3", "0>1 Adopt 3", "0>2 Adopt 3")
	x.do("double 1", "take 1", "take 2", "take 0")
	x.has("0>2 Adopt 3", "1>0 Ack 3 0", "1>0 Ack 3 0")
	x.do("take 1", "take 1")
	x.leads(0)
}

// P14.3: a link is cut for both ways, and it alone, till it is healed; twice is as once.
func TestCutHeal(t *testing.T) {
	for i := range 3 {
		for j := range 3 {
			if i == j {
				continue
			}
			cut, heal := fmt.Sprintf("cut %d %d", i, j), fmt.Sprintf("heal %d %d", i, j)
			back := fmt.Sprintf("heal %d %d", j, i)
			for _, acts := range [][]string{{cut}, {cut, cut}, {heal, cut}, {cut, heal}, {cut, cut, heal}, {cut, back}, {cut, back, heal}, {heal}} {
				x := six(t)
				x.do(acts...)
				for k := range 6 {
					from, to := ends(k)
					link := fmt.Sprintf("%d%d", i, j)
					want := api.OK
					if (from+to == link || to+from == link) && acts[len(acts)-1] == cut {
						want = api.ErrCut
					}
					x.do(fmt.Sprintf("double %d", k))
					last := len(x.g.Letters()) - 1
					if e := x.try(act{verb: "take", i: last}); e != want {
						t.Fatal(acts, k, e)
					}
					x.like()
				}
			}
		}
	}
}

// P14.3: of a node with itself, and of what is no node, there is no link.
func TestNoLink(t *testing.T) {
	for n := 1; n <= 3; n++ {
		x := newLab(t, n, 8)
		all := append([]int{-1, n, n + 1}, farNumbers...)
		for i := range n {
			x.do(fmt.Sprintf("cut %d %d !1", i, i), fmt.Sprintf("heal %d %d !1", i, i))
			for _, j := range all {
				for _, verb := range []string{"cut", "heal"} {
					x.do(fmt.Sprintf("%s %d %d !1", verb, i, j), fmt.Sprintf("%s %d %d !1", verb, j, i), fmt.Sprintf("%s %d %d !1", verb, j, j))
				}
			}
		}
		x.lead(n - 1)
	}
}

// P14.4: a countdown that comes to its end within a Tick, a Take, or a Propose: that is done as far as the node does it, and tells nothing more.
func TestFuse(t *testing.T) {
	x := newLab(t, 3, 100)
	x.do(times(3, "tick 0")...)
	x.do("fuse 0 0", "tick 1", "tick 0")
	x.has()
	if !x.g.Dead(0) || x.g.Dead(1) || x.g.Dead(2) {
		t.Error("the power of 0 alone goes")
	}
	x.do("tick 0 !9", "fuse 0 3", "fuse 0 -1", "start 0")
	x.keeps(0, "0 0")
	x.do(times(4, "tick 0")...)
	x.has("0>1 Stand 3", "0>2 Stand 3")

	x.do("fuse 1 0", "take 0")
	x.has("0>2 Stand 3")
	if !x.g.Dead(1) {
		t.Error("the power of 1 goes")
	}
	x.do("start 1")
	x.keeps(1, "0 0")

	x.do("fuse 2 0", "fuse 2 -1", "take 0", "take 0")
	x.has("0>1 Adopt 3", "0>2 Adopt 3")
	x.do("take 1", "take 1")
	x.leads(0)
	x.do("fuse 0 0", "propose 0 - !1", "propose 0 a !9")
	if !x.g.Dead(0) {
		t.Error("the power of 0 goes")
	}
	x.do("propose 0 a !9", "tick 0 !9", "start 0")
	x.keeps(0, "3 3")
	x.leads()
}

// P14.4: who leads behind a promise, and loses its power when it is to adopt, tells nobody.
func TestFuseOfWhoIsToLead(t *testing.T) {
	x := newLab(t, 3, 100)
	x.do(times(4, "tick 0")...)
	x.do("drop 1", "take 0", "fuse 0 0", "take 0")
	x.has()
	x.leads()
	if !x.g.Dead(0) {
		t.Error("the power of 0 goes")
	}
	x.do("start 0")
	x.keeps(0, "3 0")
	x.do(times(4, "tick 0")...)
	x.has("0>1 Stand 6", "0>2 Stand 6")
}

// P14.4: whatever the countdown, and whatever the numbers at the start: a node keeps what it did, or what it was at, whole; the same as such a store does.
func TestCountdowns(t *testing.T) {
	var ends [3]int // how many countdowns ended within a Tick, a Take, a Propose
	for _, fates := range []string{"", " 0", " 1 512", " 100 100 100", " 512", " 512 512 512", " 511 3", " -1 -1", " 513 1024"} {
		for n := range 24 {
			for _, pages := range []int{10, 40} {
				x := newLab(t, 2, pages)
				x.do(fmt.Sprintf("fuse 0 %d", n), "fuse 1 100")
				if verb := burn(x, fates); verb != "" {
					ends[slices.Index([]string{"tick", "take", "propose"}, verb)]++
				}
				x.do("fuse 1 -1")
				x.rounds(12)
				x.leads(0)
			}
		}
	}
	if slices.Contains(ends[:], 0) {
		t.Error("of Tick, Take and Propose: ", ends)
	}
}

// burn lets node 0 go on till its power goes, and come again, and answers within what it went. (Where the lines have no room any more, it does not.)
func burn(x *lab, fates string) string {
	x.t.Helper()
	for round := range 200 {
		was := x.g.Kept(0)
		a := act{verb: "tick"}
		if len(x.m.row) > 0 {
			a = act{verb: "take"}
		} else if x.g.Leads(0) && round%2 == 0 {
			a = act{verb: "propose", text: strings.Repeat("p", 100+round)}
		}
		e := x.try(a)
		x.like()
		if !x.g.Dead(0) {
			continue
		}
		if a.verb == "propose" && e != api.ErrDead || a.verb != "propose" && e != api.OK {
			x.t.Fatal(x.done, e)
		}
		x.do("start 0" + fates)
		if now := x.g.Kept(0); !sameKept(now, was) && !isNext(was, now) {
			x.t.Fatalf("%v: %s, and then %s", x.done, tellKept(was), tellKept(now))
		}
		return a.verb
	}
	return ""
}

// isNext tells whether b is a, and one call of its store more.
func isNext(a, b store.Kept) bool {
	switch {
	case b.Promised > a.Promised && b.Current == a.Current:
		return sameLines(a.Lines, b.Lines)
	case b.Current > a.Current:
		return b.Current == b.Promised
	}
	return b.Promised == a.Promised && len(b.Lines) == len(a.Lines)+1 && sameLines(a.Lines, b.Lines[:len(a.Lines)])
}

// P14.4: of what is no node there is no disk.
func TestFuseKillStartOfNone(t *testing.T) {
	for n := 1; n <= 3; n++ {
		x := newLab(t, n, 8)
		for _, i := range append([]int{-1, n}, farNumbers...) {
			x.do(fmt.Sprintf("fuse %d 0 !1", i), fmt.Sprintf("kill %d !1", i), fmt.Sprintf("start %d !1", i), fmt.Sprintf("start %d 5 !1", i))
		}
		x.lead(0)
	}
}

// P14.4: without who leads, another one does, and who comes again follows it.
func TestKillOfALeader(t *testing.T) {
	x := newLab(t, 3, 100)
	x.lead(0)
	x.do("propose 0 a")
	x.round()
	x.do("propose 0 b", "kill 0", "kill 0") // b is at no other node
	x.has()
	if !x.g.Dead(0) {
		t.Fatal("it has power")
	}
	x.keeps(0, "3 3 3a 3b")
	for range 9 {
		x.do("tick 0 !9", "tick 1", "tick 2")
		x.takeAll()
	}
	if !x.g.Leads(1) {
		t.Fatal("1 leads not")
	}
	x.keeps(1, "4 4 3a")
	x.do("propose 1 c")
	x.rounds(2)
	if l := x.g.Committed(2); tellLines(l) != "3a 4c" {
		t.Error(tellLines(l))
	}
	x.do("start 0")
	x.keeps(0, "3 3 3a 3b")
	x.leads(1)
	x.rounds(3)
	x.committed("3a 4c", "3a 4c", "3a 4c")
	x.keeps(0, "4 4 3a 4c")
}

// P14.4: what one other node has is there behind the leader's end, too.
func TestKillOfALeaderBehindALine(t *testing.T) {
	x := newLab(t, 3, 100)
	x.lead(0)
	x.do("propose 0 a", "tick 0", "drop 1", "take 0", "kill 0")
	x.has("1>0 Ack 3 1")
	x.committed("", "", "")
	x.do("take 0 !9")
	x.rounds(20)
	x.committed("", "3a", "3a")
	x.do("start 0")
	x.rounds(3)
	x.committed("3a", "3a", "3a")
}

// P14.4: without one that follows, the others go on.
func TestKillOfAFollower(t *testing.T) {
	x := newLab(t, 3, 100)
	x.lead(0)
	x.do("kill 2", "propose 0 a", "tick 0")
	x.has("0>1 Append 3 0 0 3a", "0>2 Append 3 0 0 3a")
	x.do("take 1 !9")
	x.has("0>1 Append 3 0 0 3a")
	x.do("take 0", "take 0")
	x.committed("3a", "", "")
	x.rounds(5)
	x.leads(0)
	x.committed("3a", "3a", "")
	x.do("kill 1", "propose 0 b")
	x.rounds(3)
	x.committed("3a", "3a", "") // one of three is no quorum
	x.do("start 2")
	x.rounds(3)
	x.committed("3a 3b", "3a", "3a 3b")
	x.leads(0)
}

// P14.4: a start makes a new node of what is kept, also of one that has power.
func TestStart(t *testing.T) {
	for _, ahead := range []string{"", "kill 0"} {
		for _, fates := range []string{"", " 512", " 3 4 5"} {
			x := newLab(t, 3, 100)
			x.lead(0)
			x.do("propose 0 a")
			x.rounds(2)
			x.do("propose 0 b")
			x.committed("3a", "3a", "3a")
			x.do("fuse 0 3")
			if ahead != "" {
				x.do(ahead)
			}
			x.do("start 0"+fates, "propose 0 c !64")
			if x.g.Dead(0) {
				t.Fatal("it has no power")
			}
			x.leads()
			x.keeps(0, "3 3 3a 3b")
			x.committed("", "3a", "3a")
			x.do("tick 0", "tick 0", "tick 0") // it waits from 0 on
			x.has()
			x.do("tick 0")
			x.has("0>1 Stand 6", "0>2 Stand 6")
			x.takeAll()
			x.rounds(2) // the countdown is none any more
			x.leads(0)
			x.committed("3a 3b", "3a 3b", "3a 3b")
			x.keeps(0, "6 6 3a 3b")
		}
	}
}

// P14.4: a start is its node's alone, letters and cut links stay.
func TestStartOfOne(t *testing.T) {
	x := six(t)
	x.do("kill 1", "kill 2", "cut 0 1", "start 1")
	x.has(without(-1)...)
	if x.g.Dead(1) || !x.g.Dead(2) {
		t.Error("1 alone has power again")
	}
	x.do("take 0 !65", "take 1 !9", "heal 0 1", "take 0")
	x.keeps(1, "3 0")
	x.do("start 0", "start 0 7", "start 2 0 0 0")
	x.keeps(0, "3 0")
	x.keeps(2, "2 0")
}

// P14.4: what waits when the power goes is there, or not, by the numbers.
func TestFates(t *testing.T) {
	kept := map[string]int{}
	for n := range 6 {
		for _, fates := range []string{"", " 512 512 512 512 512"} {
			x := newLab(t, 1, 8)
			x.do(times(4, "tick 0")...)
			x.do("propose 0 a", fmt.Sprintf("fuse 0 %d", n))
			e := x.try(act{verb: "propose", text: "b"})
			x.do("kill 0", "start 0"+fates)
			k := tellKept(x.g.Kept(0))
			if e == api.OK && k != "1 1 1a 1b" {
				t.Fatal(n, fates, k)
			}
			kept[fates+k]++
		}
	}
	if kept["1 1 1a"] == 0 || kept[" 512 512 512 512 5121 1 1a"] == 0 || kept["1 1 1a 1b"] >= kept[" 512 512 512 512 5121 1 1a 1b"] {
		t.Error("numbers make no odds: ", kept)
	}
}

// P14.5, R1: of what is no node nothing is told.
func TestOfNone(t *testing.T) {
	for n := 1; n <= 3; n++ {
		x := newLab(t, n, 100)
		x.lead(0)
		x.do("propose 0 a")
		x.rounds(3)
		for _, i := range append([]int{-1, n}, farNumbers...) {
			if x.g.Committed(i) != nil || x.g.Leads(i) || x.g.Dead(i) || !sameKept(x.g.Kept(i), store.Kept{}) {
				t.Error(n, i)
			}
		}
		x.do(times(n, "kill 0")...)
		if x.g.Dead(n) || x.g.Dead(-1) || !x.g.Dead(0) {
			t.Error("dead is who is dead")
		}
	}
}

// R1: every call of nil.
func TestNil(t *testing.T) {
	var g *group.Group
	for _, i := range append([]int{-1, 0, 1, 3}, farNumbers...) {
		for _, a := range []act{
			{verb: "tick"}, {verb: "take"}, {verb: "drop"}, {verb: "double"}, {verb: "hold"}, {verb: "cut", numbers: []int{1}}, {verb: "cut", numbers: []int{i}},
			{verb: "heal", numbers: []int{1}}, {verb: "heal", numbers: []int{i}}, {verb: "propose"}, {verb: "propose", text: "a"}, {verb: "propose", text: strings.Repeat("a", 5000)},
			{verb: "fuse", numbers: []int{0}}, {verb: "kill"}, {verb: "start"}, {verb: "start", numbers: []int{5}},
		} {
			a.i = i
			if e := call(t, g, a); e != api.ErrNil {
				t.Errorf("%v: %v", a, e)
			}
		}
		if g.Committed(i) != nil || g.Leads(i) || g.Dead(i) || !sameKept(g.Kept(i), store.Kept{}) {
			t.Error("something is told of node ", i)
		}
	}
	if len(g.Letters()) != 0 {
		t.Error("nil has letters")
	}
	for _, made := range []*group.Group{{}, new(group.Group)} { // no call made these: none may panic
		made.Tick(0)
		made.Take(0)
		made.Cut(0, 1)
		made.Propose(0, nil)
		if made.Committed(0) != nil || made.Letters() != nil || made.Dead(0) {
			t.Error("it has something")
		}
	}
}

// R5: of several errors the first one.
func TestErrorOrder(t *testing.T) {
	x := six(t)
	x.do("kill 0", "kill 1")
	x.do("tick 3 !1", "tick 0 !9")
	x.do("propose 3 - !1", "propose 0 - !9", "propose 0 a !9", "propose 2 - !1", "propose 2 a !64")
	if e := x.try(act{verb: "propose", i: 0, text: strings.Repeat("a", 4097)}); e != api.ErrDead {
		t.Error(e)
	}
	if e := x.try(act{verb: "propose", i: 2, text: strings.Repeat("a", 4097)}); e != api.ErrArg {
		t.Error(e)
	}
	x.do("cut 0 1", "take 6 !1", "take -1 !1")
	x.do("take 0 !65", "take 2 !65", "take 4 !9", "take 4 !9") // what the net refuses stays; only what it hands out may be for who has no power
	x.has("0>1 Stand 3", "0>2 Stand 3", "1>0 Stand 1", "1>2 Stand 1")
	x.do("heal 0 1", "take 0 !9", "take 1 !9", "cut 1 1 !1", "cut 0 3 !1", "fuse 0 0", "kill 0", "fuse 3 0 !1")
	x.has("0>2 Stand 3", "1>2 Stand 1")
}

// R3: what is answered is new memory: it does not change with what comes behind, and what the caller writes there is told nobody.
func TestMemory(t *testing.T) {
	x := newLab(t, 3, 100)
	x.lead(0)
	x.do("propose 0 a", "propose 0 b")
	x.rounds(3)
	x.do("propose 0 c", "tick 0", "tick 0")
	lines, kept, letters := x.g.Committed(0), x.g.Kept(0), x.g.Letters()
	again := []string{tellLines(x.g.Committed(0)), tellKept(x.g.Kept(0)), fmt.Sprint(tellAll(x.g.Letters()))}
	x.do("take 0", "take 0", "take 0", "take 0", "propose 0 d")
	x.rounds(9)
	x.do("kill 0")
	x.rounds(20)
	x.do("start 0")
	x.rounds(5)
	if is := []string{tellLines(lines), tellKept(kept), fmt.Sprint(tellAll(letters))}; !slices.Equal(is, again) || len(lines) != 2 || len(kept.Lines) != 3 || len(letters) != 4 {
		t.Fatal(is, again)
	}
	x.do("tick 0", "tick 1", "tick 2")
	if len(x.m.row) < 2 {
		t.Fatal("no letters")
	}
	for i := range 3 {
		spoilLines(x.g.Committed(i))
		spoilLines(x.g.Kept(i).Lines)
		x.like()
	}
	l := x.g.Letters()
	for i := range l {
		spoilBytes(l[i].Bytes)
		l[i].To.Node = 7
	}
	clear(l[:cap(l)])
	x.like()
	x.takeAll()
	x.rounds(4)
	x.committed("3a 3b 3c 3d", "3a 3b 3c 3d", "3a 3b 3c 3d")
}

// R3: no two lists of an answer, nor of two answers, share memory.
func TestApart(t *testing.T) {
	x := newLab(t, 3, 100)
	x.lead(0)
	x.do("propose 0 a", "propose 0 b")
	x.rounds(3)
	x.do("tick 0", "double 0", "double 0")
	answers := func() [][]byte {
		var all [][]byte
		for i := range 3 {
			for _, l := range slices.Concat(x.g.Committed(i), x.g.Kept(i).Lines) {
				all = append(all, l.Bytes)
			}
		}
		for _, l := range x.g.Letters() {
			all = append(all, l.Bytes)
		}
		return all
	}
	all := slices.Concat(answers(), answers())
	if len(all) != 2*(3*4+4) {
		t.Fatal(len(all))
	}
	for i, b := range all {
		was := slices.Clone(all)
		for k := range was {
			was[k] = slices.Clone(all[k])
		}
		spoilBytes(b)
		for k := range all {
			if k != i && string(all[k]) != string(was[k]) {
				t.Fatal(i, "and", k, "share memory")
			}
		}
	}
	x.like()
}

func spoilLines(l []api.Line) {
	for i := range l {
		spoilBytes(l[i].Bytes)
		l[i].Epoch += 9
	}
	clear(l[:cap(l)])
}

// spoilBytes writes over bytes, with the room behind their end.
func spoilBytes(b []byte) {
	b = b[:cap(b)]
	for i := range b {
		b[i] ^= 255
	}
}

// R2: two groups have nothing in common.
func TestTwoGroups(t *testing.T) {
	a, b := newLab(t, 3, 100), newLab(t, 3, 100)
	a.lead(0)
	a.do("propose 0 a", "kill 1", "cut 0 2", "tick 0")
	b.has()
	b.leads()
	b.keeps(0, "0 0")
	b.like()
	b.lead(1)
	b.do("propose 1 z")
	b.rounds(3)
	b.committed("1z", "1z", "1z")
	a.like()
}

// The chapter's examples.
func TestExamples(t *testing.T) {
	x := newLab(t, 3, 100)
	x.do("tick 0", "tick 0", "tick 0", "tick 0")
	x.has("0>1 Stand 3", "0>2 Stand 3")
	x.do("take 0", "take 0", "take 0")
	x.leads()
	x.do("tick 3 !1")
	for _, s := range [][2]int{{0, 100}, {3, 7}} {
		if g, e := group.New(s[0], s[1]); g != nil || e != api.ErrArg {
			t.Error(s, g, e)
		}
	}
}
