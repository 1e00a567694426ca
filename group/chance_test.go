package group_test

import (
	"fmt"
	"math/rand"
	"slices"
	"strings"
	"testing"

	"outrider/api"
)

// P14.1 to P14.5: all short rows of acts, behind several beginnings.
func TestShortRows(t *testing.T) {
	acts := []string{
		"tick 0", "tick 1", "take 0", "take 1", "drop 0", "double 0", "hold 0", "cut 0 1", "heal 1 0",
		"propose 0 b", "fuse 0 0", "fuse 1 0", "kill 1", "start 0", "start 1 512 9",
	}
	const long = 3
	for _, ahead := range [][]string{
		times(3, "tick 0"), times(4, "tick 0"),
		append(times(4, "tick 0"), "take 0", "take 0"),
		append(times(4, "tick 0"), "take 0", "take 0", "take 0", "take 0", "propose 0 a", "tick 0"),
		append(append(times(4, "tick 0"), times(6, "tick 1")...), "kill 0", "cut 0 1"),
	} {
		for number := range len(acts) * len(acts) * len(acts) {
			x := newLab(t, 2, 8)
			for _, s := range ahead {
				x.try(parse(t, s))
			}
			for range long {
				x.try(parse(t, acts[number%len(acts)]))
				number /= len(acts)
			}
			x.like()
		}
	}
}

// watcher knows of a group what must hold at all times.
type watcher struct {
	longest  []api.Line        // the most that anybody knew to be committed
	leaders  map[uint64]int    // of each epoch, who led
	proposed map[string]uint64 // of each text, in which epoch it may have become a line
}

func newWatcher() *watcher {
	return &watcher{leaders: map[uint64]int{}, proposed: map[string]uint64{}}
}

// look wants P14.6 of all nodes as they are.
func (w *watcher) look(x *lab) {
	x.t.Helper()
	for i := range x.size() {
		own := x.g.Committed(i)
		n := min(len(own), len(w.longest))
		if !sameLines(own[:n], w.longest[:n]) {
			x.t.Fatalf("%v: of node %d %s, of one %s", x.done, i, tellLines(own), tellLines(w.longest))
		}
		for k, l := range own[n:] {
			e, ok := w.proposed[string(l.Bytes)]
			if !ok || e != l.Epoch {
				x.t.Fatalf("%v: line %d of node %d, %s, was not proposed", x.done, n+k, i, tellLines(own))
			}
			delete(w.proposed, string(l.Bytes)) // no line comes twice
			w.longest = append(w.longest, l)
		}
		if !x.g.Leads(i) {
			continue
		}
		e := x.g.Kept(i).Promised
		if other, ok := w.leaders[e]; ok && other != i {
			x.t.Fatalf("%v: of epoch %d both %d and %d lead", x.done, e, other, i)
		}
		w.leaders[e] = i
	}
}

// do does the act, and looks.
func (w *watcher) do(x *lab, a act) api.Errno {
	x.t.Helper()
	was := x.m.isNode(a.i) && !x.g.Dead(a.i)
	e := x.try(a)
	if a.verb == "propose" && was && (e == api.OK || e == api.ErrDead) {
		w.proposed[a.text] = x.g.Kept(a.i).Promised
	}
	w.look(x)
	return e
}

// verbs answers acts, each as often as it is to come: of some runs few go wrong, of others many.
func verbs(r *rand.Rand) []string {
	var all []string
	mild := r.Intn(2) == 0
	for _, v := range []struct {
		verb        string
		least, most int
	}{
		{"tick", 12, 30}, {"take", 20, 60}, {"propose", 2, 12}, {"drop", 0, 4}, {"double", 0, 4}, {"hold", 0, 6},
		{"cut", 0, 2}, {"heal", 0, 4}, {"fuse", 0, 3}, {"kill", 0, 2}, {"start", 0, 5},
	} {
		if mild && v.least == 0 {
			v.most /= 3
		}
		all = append(all, slices.Repeat([]string{v.verb}, v.least+r.Intn(v.most-v.least+1))...)
	}
	return all
}

// some answers an act by chance; now and then one that may not be.
func some(r *rand.Rand, x *lab, kinds []string) act {
	a := act{verb: kinds[r.Intn(len(kinds))], i: r.Intn(x.size())}
	switch a.verb {
	case "take", "drop", "double", "hold":
		a.i = 0
		if n := len(x.m.row); n > 0 && r.Intn(2) == 0 {
			a.i = r.Intn(n)
		}
	case "cut", "heal":
		a.numbers = []int{r.Intn(x.size())}
	case "propose":
		a.text = fmt.Sprint("p", len(x.done))
		if r.Intn(6) == 0 {
			a.text += strings.Repeat(".", r.Intn(300))
		}
		if l := x.leaders(); len(l) > 0 && r.Intn(4) > 0 {
			a.i = l[r.Intn(len(l))]
		}
	case "fuse":
		a.numbers = []int{r.Intn(8) - 1}
	case "start":
		a.numbers = someFates(r)
	}
	if r.Intn(60) == 0 {
		a.i = r.Intn(9) - 3
	}
	return a
}

func someFates(r *rand.Rand) []int {
	all := make([]int, r.Intn(5))
	for i := range all {
		all[i] = []int{0, 512, r.Intn(513), r.Intn(1 << 20), -r.Intn(600)}[r.Intn(5)]
	}
	return all
}

// stormy is a group to which acts were done by chance.
func stormy(t *testing.T, r *rand.Rand, acts int) (*lab, *watcher) {
	t.Helper()
	x := newLab(t, []int{1, 2, 3, 3, 3, 3}[r.Intn(6)], []int{8, 9, 16, 100, 100}[r.Intn(5)])
	w, kinds := newWatcher(), verbs(r)
	for k := range acts {
		w.do(x, some(r, x, kinds))
		if k%16 == 0 {
			x.like()
		}
	}
	x.like()
	return x, w
}

// calm lets all but some nodes have power, no countdown run, and no link be cut.
func calm(r *rand.Rand, x *lab, w *watcher, but ...int) {
	x.t.Helper()
	for i := range x.size() {
		for j := range i {
			w.do(x, act{verb: "heal", i: i, numbers: []int{j}})
		}
		w.do(x, act{verb: "fuse", i: i, numbers: []int{-1}})
		switch {
		case slices.Contains(but, i):
			w.do(x, act{verb: "kill", i: i})
		case x.g.Dead(i):
			w.do(x, act{verb: "start", i: i, numbers: someFates(r)})
		}
	}
}

// quiet is a round: all tick, and all letters are taken, in any order, or in theirs.
func quiet(r *rand.Rand, x *lab, w *watcher, inOrder bool) {
	x.t.Helper()
	for _, i := range r.Perm(x.size()) {
		w.do(x, act{verb: "tick", i: i})
	}
	for n := len(x.m.row); n > 0; n = len(x.m.row) {
		a := act{verb: "take"}
		if !inOrder {
			a.i = r.Intn(n)
		}
		x.try(a)
	}
	w.look(x)
	x.like()
}

// rest wants P14.7 of the nodes that have power: behind 40 rounds one leads, and three rounds behind a line all have it. It answers whether there was room for the line.
func rest(r *rand.Rand, x *lab, w *watcher, awake []int) bool {
	x.t.Helper()
	inOrder := r.Intn(2) == 0
	for range 40 {
		quiet(r, x, w, inOrder)
	}
	lead := slices.DeleteFunc(x.leaders(), x.g.Dead)
	if len(lead) != 1 {
		x.t.Fatalf("%v: %v lead", x.done, lead)
	}
	if e := w.do(x, act{verb: "propose", i: lead[0], text: "last"}); e == api.ErrFull {
		return false
	} else if e != api.OK {
		x.t.Fatalf("%v: %v", x.done, e)
	}
	for range 3 {
		quiet(r, x, w, inOrder)
	}
	for _, i := range awake {
		l := x.g.Committed(i)
		if len(l) == 0 || string(l[len(l)-1].Bytes) != "last" {
			x.t.Fatalf("%v: of node %d %s", x.done, i, tellLines(l))
		}
	}
	return true
}

// P14.1 to P14.7: whatever comes; and then rest.
func TestByChance(t *testing.T) {
	r := rand.New(rand.NewSource(14))
	lines, epochs, room := 0, 0, 0
	for range 400 {
		x, w := stormy(t, r, 100+r.Intn(400))
		lines += len(w.longest)
		epochs += len(w.leaders)
		calm(r, x, w)
		if rest(r, x, w, []int{0, 1, 2}[:x.size()]) {
			room++
		}
	}
	if lines < 1500 || epochs < 400 || room < 300 {
		t.Error(lines, "lines", epochs, "epochs", room, "with room")
	}
}

// P14.6, P14.7: of three nodes two are a quorum: the third one needs no power.
func TestTwoOfThree(t *testing.T) {
	r := rand.New(rand.NewSource(41))
	for range 60 {
		x, w := stormy(t, r, 300)
		if x.size() < 3 {
			continue
		}
		out := r.Intn(3)
		calm(r, x, w, out)
		rest(r, x, w, slices.Delete([]int{0, 1, 2}, out, out+1))
	}
}

// P14.6: of groups in which few acts go wrong much is committed, by several leaders.
func TestManyLeaders(t *testing.T) {
	r := rand.New(rand.NewSource(6))
	lines, epochs := 0, 0
	for range 40 {
		x, w := newLab(t, 3, 200), newWatcher()
		for k := range 12 {
			calm(r, x, w)
			for range 12 {
				quiet(r, x, w, true)
			}
			lead := x.leaders()
			if len(lead) != 1 {
				t.Fatal(x.done, lead)
			}
			for n := range 1 + r.Intn(4) {
				w.do(x, act{verb: "propose", i: lead[0], text: fmt.Sprint(k, ".", n)})
			}
			w.do(x, act{verb: "tick", i: lead[0]})
			for range r.Intn(6) {
				w.do(x, act{verb: "take", i: r.Intn(len(x.m.row) + 1)})
			}
			w.do(x, act{verb: []string{"kill", "fuse", "start"}[r.Intn(3)], i: lead[0], numbers: []int{0}})
		}
		calm(r, x, w)
		if !rest(r, x, w, []int{0, 1, 2}) {
			t.Fatal(x.done)
		}
		lines += len(w.longest)
		epochs += len(w.leaders)
	}
	if lines < 1000 || epochs < 300 {
		t.Error(lines, "lines", epochs, "epochs")
	}
}

// P14.7: from whatever one node was at: one leads within 40 rounds of any beginning that is near.
func TestRestBehindShortRows(t *testing.T) {
	r := rand.New(rand.NewSource(7))
	acts := []string{"tick 0", "tick 1", "tick 2", "take 0", "drop 0", "kill 0", "cut 0 1", "cut 1 2", "fuse 1 1", "start 0"}
	for a := range acts {
		for b := range acts {
			for c := range acts {
				x, w := newLab(t, 3, 16), newWatcher()
				for range 3 + r.Intn(4) {
					for i := range 3 {
						w.do(x, act{verb: "tick", i: i})
					}
				}
				for _, k := range []int{a, b, c} {
					w.do(x, parse(t, acts[k]))
				}
				calm(r, x, w)
				if !rest(r, x, w, []int{0, 1, 2}) {
					t.Fatal(x.done)
				}
			}
		}
	}
}

// P14.7: a log takes MaxLog lines, all of which are committed at all; then it is full, and they stay.
func TestFullLog(t *testing.T) {
	r := rand.New(rand.NewSource(70))
	x, w := newLab(t, 3, 200), newWatcher()
	for n := range 256 {
		for len(x.leaders()) == 0 {
			quiet(r, x, w, true)
		}
		if e := w.do(x, act{verb: "propose", i: x.leaders()[0], text: fmt.Sprint("n", n)}); e != api.OK {
			t.Fatal(n, e)
		}
		if n%8 == 0 {
			quiet(r, x, w, true)
		}
		if n%64 == 0 { // all others have the line: whoever leads next, too
			w.do(x, act{verb: "start", i: x.leaders()[0]})
		}
	}
	if rest(r, x, w, nil) {
		t.Error("there is room for a line more")
	}
	for i := range 3 {
		l := x.g.Committed(i)
		if len(l) != 256 {
			t.Fatal(i, len(l))
		}
		for n, one := range l {
			if string(one.Bytes) != fmt.Sprint("n", n) {
				t.Fatal(i, n, tellLines(l))
			}
		}
	}
}
