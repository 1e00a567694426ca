package store_test

import (
	"bytes"
	"fmt"
	"math"
	"math/rand"
	"slices"
	"strings"
	"testing"

	"outrider/api"
	"outrider/disk"
	"outrider/log"
	"outrider/store"
)

const most = api.MaxNumber

// some is so many bytes, other ones for other numbers.
func some(number, size int) []byte {
	b := make([]byte, size)
	for i := range b {
		b[i] = byte(i*7 + i/251 + number*31)
	}
	return b
}

// lines are of one epoch, and of so many bytes each.
func lines(epoch uint64, sizes ...int) []api.Line {
	var l []api.Line
	for i, size := range sizes {
		l = append(l, api.Line{Epoch: epoch, Bytes: some(i+int(epoch%97), size)})
	}
	return l
}

// many are so many lines of so many bytes each.
func many(epoch uint64, n, size int) []api.Line {
	return lines(epoch, slices.Repeat([]int{size}, n)...)
}

func same(a, b store.Kept) bool {
	return a.Promised == b.Promised && a.Current == b.Current && sameLines(a.Lines, b.Lines)
}

func sameLines(a, b []api.Line) bool {
	return slices.EqualFunc(a, b, func(a, b api.Line) bool { return a.Epoch == b.Epoch && bytes.Equal(a.Bytes, b.Bytes) })
}

func brief(k store.Kept) string {
	s := []string{fmt.Sprintf("%d, %d:", k.Promised, k.Current)}
	for i, l := range k.Lines {
		if i == 5 {
			s = append(s, fmt.Sprintf("and %d more", len(k.Lines)-i))
			break
		}
		s = append(s, fmt.Sprintf("%d bytes of epoch %d (%.3q)", len(l.Bytes), l.Epoch, l.Bytes))
	}
	return strings.Join(s, " ")
}

// act is a call that is to change what is kept: how it is done, and what would be kept then; false: it may not be.
type act struct {
	name string
	do   func(t *testing.T, s *store.Store) api.Errno
	says func(k store.Kept) (store.Kept, bool)
}

// mayBe is what the chapter says of a line.
func mayBe(l api.Line) bool {
	return l.Epoch >= 1 && l.Epoch <= 1<<48 && len(l.Bytes) >= 1 && len(l.Bytes) <= 4096
}

func promise(e uint64) act {
	return act{
		name: fmt.Sprintf("Promise(%d)", e),
		do:   func(_ *testing.T, s *store.Store) api.Errno { return s.Promise(e) },
		says: func(k store.Kept) (store.Kept, bool) {
			ok := e > k.Promised && e <= 1<<48
			k.Promised = e
			return k, ok
		},
	}
}

func adopt(e uint64, l ...api.Line) act {
	return act{
		name: fmt.Sprintf("Adopt(%d, %d lines)", e, len(l)),
		do: func(t *testing.T, s *store.Store) api.Errno {
			return handed(t, l, func(l []api.Line) api.Errno { return s.Adopt(e, l) })
		},
		says: func(k store.Kept) (store.Kept, bool) {
			ok := e >= k.Promised && e > k.Current && e <= 1<<48 && len(l) <= 256
			for _, one := range l {
				ok = ok && mayBe(one) && one.Epoch <= e
			}
			return store.Kept{Promised: e, Current: e, Lines: l}, ok
		},
	}
}

func add(l ...api.Line) act {
	return act{
		name: fmt.Sprintf("Append(%d lines)", len(l)),
		do: func(t *testing.T, s *store.Store) api.Errno {
			return handed(t, l, s.Append)
		},
		says: func(k store.Kept) (store.Kept, bool) {
			ok := len(l) >= 1 && len(l)+len(k.Lines) <= 256
			for _, one := range l {
				ok = ok && mayBe(one) && one.Epoch == k.Current
			}
			k.Lines = append(slices.Clone(k.Lines), l...)
			return k, ok
		},
	}
}

// handed hands in a copy of the lines, with room behind them and behind the bytes of each, and wants all that to stay as it was; then it is spoilt, so that it would show if it was kept.
func handed(t *testing.T, l []api.Line, call func(l []api.Line) api.Errno) api.Errno {
	t.Helper()
	copied := func() []api.Line {
		var out []api.Line
		for _, one := range append(slices.Clone(l), api.Line{Epoch: 5, Bytes: []byte("room")}) {
			out = append(out, api.Line{Epoch: one.Epoch, Bytes: append(slices.Clone(one.Bytes), "room"...)[:len(one.Bytes)]})
		}
		return out
	}
	mine, was := copied(), copied()
	e := call(mine[:len(l)])
	for i := range mine {
		n := len(was[i].Bytes)
		if mine[i].Epoch != was[i].Epoch || len(mine[i].Bytes) != n || !bytes.Equal(mine[i].Bytes[:n+4], was[i].Bytes[:n+4]) {
			t.Fatalf("line %d of what was handed in has changed", i)
		}
		clear(mine[i].Bytes[:n+4])
		mine[i] = api.Line{Epoch: 77}
	}
	return e
}

// weight is what the chapter's room is held against.
func weight(k store.Kept) int {
	n := 64
	for _, l := range k.Lines {
		n += 16 + len(l.Bytes)
	}
	return n
}

// roomOf is how much there is on a disk of so many pages.
func roomOf(pages int) int { return 480 * (pages/2 - 1) }

// on is what the chapter says of the act, while there is power.
func (a act) on(k store.Kept, pages int) (store.Kept, api.Errno) {
	then, ok := a.says(k)
	switch {
	case !ok:
		return k, 1
	case weight(then) > roomOf(pages):
		return k, 4
	}
	return then, 0
}

// node is a disk, the store of it, and what is kept as the chapter says.
type node struct {
	t *testing.T
	d *disk.Disk
	s *store.Store
	k store.Kept
}

func newDisk(t *testing.T, pages int) *disk.Disk {
	t.Helper()
	d, e := disk.New(pages)
	if e != api.OK {
		t.Fatal(e)
	}
	return d
}

func open(t *testing.T, d *disk.Disk) *store.Store {
	t.Helper()
	s, e := store.Open(d)
	if e != api.OK || s == nil {
		t.Fatalf("Open: %v, a store: %v", e, s != nil)
	}
	return s
}

func wantNoOpen(t *testing.T, d *disk.Disk, want api.Errno) {
	t.Helper()
	if s, e := store.Open(d); s != nil || e != want {
		t.Fatalf("Open: %v, a store: %v, want %v", e, s != nil, want)
	}
}

func wantKept(t *testing.T, s *store.Store, want store.Kept) {
	t.Helper()
	for range 2 {
		if got := s.Kept(); !same(got, want) {
			t.Fatalf("Kept: %s, want %s", brief(got), brief(want))
		}
	}
}

func wantDead(t *testing.T, s *store.Store, want bool) {
	t.Helper()
	if s.Dead() != want {
		t.Fatalf("Dead: %v", !want)
	}
}

// newNode is one of a new disk, after these acts.
func newNode(t *testing.T, pages int, acts ...act) *node {
	t.Helper()
	d := newDisk(t, pages)
	n := &node{t: t, d: d, s: open(t, d)}
	n.want()
	n.do(acts...)
	return n
}

// want wants what is kept to be told as the chapter says, by the store and by a new one of its disk, to which nothing is written.
func (n *node) want() {
	n.t.Helper()
	wantDead(n.t, n.s, false)
	wantKept(n.t, n.s, n.k)
	waits, was := n.d.Waiting(), pagesOf(n.t, n.d)
	wantKept(n.t, open(n.t, n.d), n.k)
	if n.d.Waiting() != waits || !slices.Equal(pagesOf(n.t, n.d), was) {
		n.t.Fatal("Open wrote")
	}
}

// do wants each act to answer, and to change, what the chapter says: so that it stays when the power goes, and, if the act is refused, with no call of the disk.
func (n *node) do(acts ...act) {
	n.t.Helper()
	for _, a := range acts {
		then, want := a.on(n.k, n.d.Size())
		waits, was := n.d.Waiting(), pagesOf(n.t, n.d)
		if want != api.OK {
			n.d.Fuse(0)
		}
		if e := a.do(n.t, n.s); e != want {
			n.t.Fatalf("%s of %s: %v, want %v", a.name, brief(n.k), e, want)
		}
		if want != api.OK {
			if n.d.Dead() || n.d.Waiting() != waits || !slices.Equal(pagesOf(n.t, n.d), was) {
				n.t.Fatalf("%s was refused, and wrote", a.name)
			}
			n.d.Fuse(-1)
		}
		n.k = then
		n.want()
		n.d.Kill()
		n.d.Restart(nil)
		n.want()
	}
}

// wants wants the acts to answer this.
func (n *node) wants(want api.Errno, acts ...act) {
	n.t.Helper()
	for _, a := range acts {
		if _, e := a.on(n.k, n.d.Size()); e != want {
			n.t.Fatalf("%s of %s: the test's own answer is %v, want %v", a.name, brief(n.k), e, want)
		}
		n.do(a)
	}
}

// reopen takes a new store of the same disk.
func (n *node) reopen() {
	n.t.Helper()
	n.s = open(n.t, n.d)
	n.want()
}

// copied is a node of a disk with the same pages.
func (n *node) copied() *node {
	n.t.Helper()
	d := newDisk(n.t, n.d.Size())
	put(n.t, d, 0, pagesOf(n.t, n.d)...)
	return &node{t: n.t, d: d, s: open(n.t, d), k: n.k}
}

func pagesOf(t *testing.T, d *disk.Disk) []string {
	t.Helper()
	var l []string
	for at := range d.Size() {
		b, e := d.Read(at)
		if e != api.OK {
			t.Fatal(e)
		}
		l = append(l, string(b))
	}
	return l
}

// put lays pages on a disk by hand, from at on.
func put(t *testing.T, d *disk.Disk, at int, pages ...string) {
	t.Helper()
	for i, p := range pages {
		if e := d.Write(at+i, []byte(p)); e != api.OK {
			t.Fatal(e)
		}
	}
	if e := d.Sync(); e != api.OK {
		t.Fatal(e)
	}
}

// areaOf is the records of an area, 0 or 1.
func areaOf(t *testing.T, d *disk.Disk, area int) [][]byte {
	t.Helper()
	half := d.Size() / 2
	l, e := log.Open(d, area*half, half)
	if e != api.OK {
		t.Fatal(e)
	}
	return l.Batches()
}

// commit lays a record on a part of a disk.
func commit(t *testing.T, d *disk.Disk, first, n int, record []byte) {
	t.Helper()
	l, e := log.Open(d, first, n)
	if e != api.OK {
		t.Fatal(e)
	}
	if e := l.Commit(record); e != api.OK {
		t.Fatalf("a record of %d bytes: %v", len(record), e)
	}
}

// all is a page of one byte all over.
func all(b byte) string { return strings.Repeat(string([]byte{b}), 512) }

// kills are the ways in which a disk's power goes.
func kills() []func(d *disk.Disk) {
	return []func(d *disk.Disk){
		func(d *disk.Disk) { d.Kill() },
		func(d *disk.Disk) { d.Fuse(0); d.Sync() },
	}
}

// P9.1: no disk, a dead one, and one of too few pages, in this order, whatever lies there.
func TestOpenErrors(t *testing.T) {
	wantNoOpen(t, nil, api.ErrNil)
	for _, pages := range []int{1, 2, 3, 4, 5, 6, 7, 8, 9, 16} {
		for _, page := range []string{all(0), all(255)} {
			d := newDisk(t, pages)
			put(t, d, 0, slices.Repeat([]string{page}, pages)...)
			if pages < 8 {
				wantNoOpen(t, d, api.ErrArg)
			}
			for _, kill := range kills() {
				kill(d)
				wantNoOpen(t, d, api.ErrDead)
				d.Restart(nil)
			}
			if pages < 8 {
				wantNoOpen(t, d, api.ErrArg)
			} else if page == all(255) {
				wantNoOpen(t, d, api.ErrForm)
			}
		}
	}
}

// P9.1: a new disk: nothing is kept, and nothing is written, or synced.
func TestOpenNew(t *testing.T) {
	for _, pages := range []int{8, 9, 10, 11, 15, 16, 17, 100, 101, api.MaxPages - 1, api.MaxPages} {
		d := newDisk(t, pages)
		d.Fuse(0)
		n := &node{t: t, d: d, s: open(t, d)}
		if d.Dead() || d.Waiting() != 0 {
			t.Fatal("Open wrote")
		}
		n.want()
		d.Fuse(-1)
		n.do(promise(1), adopt(1), add(lines(1, 5)...))
		d.Fuse(0)
		n.reopen()
		if d.Dead() {
			t.Fatal("Open wrote")
		}
	}
}

// P9.1: something that is no store, in either half: nothing is changed of it.
func TestOpenErrForm(t *testing.T) {
	records := [][]byte{nil, {255}, []byte("no store"), some(5, 400), bytes.Repeat([]byte{255}, 1000)}
	for _, pages := range []int{8, 9, 16, 17} {
		half := pages / 2
		for at := range 2 * half {
			n := newNode(t, pages)
			put(t, n.d, at, all(255))
			n.wantNoStore()
			n = newNode(t, pages, promise(3), adopt(4, lines(2, 10)...))
			put(t, n.d, at, all(255))
			n.wantNoStore()
		}
		for area := range 2 {
			for _, record := range records {
				n := newNode(t, pages)
				commit(t, n.d, area*half, half, record)
				n.wantNoStore()
				n = newNode(t, pages, promise(3))
				commit(t, n.d, area*half, half, record[:min(len(record), 480)])
				n.wantNoStore()
			}
		}
	}
}

// P9.1: a record that a store wrote, after it was made another one: of another kind, with a byte less, with a byte more.
func TestOpenErrFormOfChangedRecord(t *testing.T) {
	changes := []func(b []byte) []byte{
		func(b []byte) []byte { return append([]byte{^b[0]}, b[1:]...) },
		func(b []byte) []byte { return b[:len(b)-1] },
		func(b []byte) []byte { return b[:1] },
		func(b []byte) []byte { return append(b, 0) },
		func(b []byte) []byte { return append(b, b...) },
	}
	rows := [][]act{
		{promise(3)}, {adopt(3, lines(2, 30, 40)...)}, {adopt(3, lines(2, 30, 40)...), add(lines(3, 50)...)},
		{adopt(3, lines(2, 30)...), promise(4), promise(5), promise(6), promise(7), promise(8)},
	}
	for _, acts := range rows {
		was := newNode(t, 10, acts...)
		for area := range 2 {
			records := areaOf(t, was.d, area)
			if len(records) == 0 {
				continue
			}
			for _, change := range changes {
				n := was.copied()
				l, _ := log.Open(n.d, area*5, 5)
				l.Reset()
				last := len(records) - 1
				for _, b := range append(slices.Clone(records[:last]), change(slices.Clone(records[last]))) {
					commit(t, n.d, area*5, 5, b)
				}
				n.wantNoStore()
			}
		}
	}
}

func (n *node) wantNoStore() {
	n.t.Helper()
	was := pagesOf(n.t, n.d)
	for range 2 {
		wantNoOpen(n.t, n.d, api.ErrForm)
		if n.d.Waiting() != 0 || !slices.Equal(pagesOf(n.t, n.d), was) {
			n.t.Fatal("Open wrote")
		}
	}
}

// P9.1: of an odd number of pages the last one is in no area: what lies there counts for nothing, and stays.
func TestLastPageOfOddDisk(t *testing.T) {
	for _, pages := range []int{9, 11, 17} {
		n := newNode(t, pages)
		put(t, n.d, pages-1, all(255))
		n.reopen()
		for e := range uint64(60) {
			n.do(promise(2*e+1), adopt(2*e+2, lines(1, int(e)*7+1)...), add(lines(2*e+2, 3)...))
		}
		if pagesOf(t, n.d)[pages-1] != all(255) {
			t.Fatalf("the page %d was written", pages-1)
		}
	}
}

// P9.2: at Promised, one below, and above; at MaxNumber, and above.
func TestPromise(t *testing.T) {
	n := newNode(t, 8)
	n.wants(api.ErrArg, promise(0), promise(most+1), promise(1<<63), promise(math.MaxUint64))
	n.wants(api.OK, promise(1))
	n.wants(api.ErrArg, promise(0), promise(1))
	n.wants(api.OK, promise(2), promise(3), promise(257))
	n.wants(api.ErrArg, promise(0), promise(1), promise(256), promise(257), promise(most+1), promise(most+257), promise(math.MaxUint64))
	n.wants(api.OK, promise(258), promise(1<<32), promise(1<<32+1), promise(most-1))
	n.wants(api.ErrArg, promise(1<<32), promise(most-2), promise(most-1))
	n.wants(api.OK, promise(most))
	n.wants(api.ErrArg, promise(most-1), promise(most), promise(most+1))
}

// P9.2: what else is kept stays.
func TestPromiseBesideLines(t *testing.T) {
	n := newNode(t, 16, adopt(4, lines(3, 5, 500, 1)...), add(lines(4, 9)...))
	n.wants(api.ErrArg, promise(3), promise(4))
	n.wants(api.OK, promise(5), promise(9), promise(most))
	n.wants(api.OK, add(lines(4, 9)...))
}

// P9.3: epochs.
func TestAdoptEpochs(t *testing.T) {
	for _, l := range [][]api.Line{nil, lines(1, 3, 4), lines(1, 1000)} {
		n := newNode(t, 16)
		n.wants(api.ErrArg, adopt(0, l...), adopt(most+1, l...), adopt(math.MaxUint64, l...))
		n.wants(api.OK, adopt(1, l...)) // above both
		n.wants(api.ErrArg, adopt(0, l...), adopt(1, l...))
		n.wants(api.OK, promise(7))
		n.wants(api.ErrArg, adopt(0, l...), adopt(1, l...), adopt(2, l...), adopt(6, l...), adopt(most+1, l...))
		n.wants(api.OK, adopt(7, l...)) // at Promised, above Current
		n.wants(api.ErrArg, adopt(6, l...), adopt(7, l...))
		n.wants(api.OK, adopt(8, l...), adopt(1<<40, l...), promise(most-1))
		n.wants(api.ErrArg, adopt(1<<40+1, l...), adopt(most-2, l...), adopt(most+1, l...), adopt(1<<63, l...))
		n.wants(api.OK, adopt(most-1, l...), adopt(most, l...))
		n.wants(api.ErrArg, adopt(most-1, l...), adopt(most, l...), adopt(most+1, l...))
	}
}

// epochsAbout are lines that may be in an epoch, and lines that may not, by their epochs.
func epochsAbout(e uint64) (may, not []uint64) {
	for _, epoch := range []uint64{0, 1, 2, e - 1, e, e + 1, 1 << 47, most - 1, most, most + 1, most + e, 1 << 63, math.MaxUint64} {
		if epoch >= 1 && epoch <= e {
			may = append(may, epoch)
		} else {
			not = append(not, epoch)
		}
	}
	return may, not
}

// P9.3: the epochs of lines, wherever among other ones such a line stands.
func TestAdoptLineEpochs(t *testing.T) {
	for _, e := range []uint64{1, 2, 5, 1 << 30, most - 1, most} {
		may, not := epochsAbout(e)
		for place := range 3 {
			n := newNode(t, 16)
			l := func(epoch uint64) []api.Line {
				l := lines(1, 2, 3, 4)
				l[place].Epoch = epoch
				return l
			}
			for _, epoch := range not {
				n.wants(api.ErrArg, adopt(e, l(epoch)...), adopt(e, lines(epoch, 1)...))
			}
			n.wants(api.OK, promise(e))
			for _, epoch := range not {
				n.wants(api.ErrArg, adopt(e, l(epoch)...))
			}
			was := n
			for _, epoch := range may {
				n = was.copied()
				n.wants(api.OK, adopt(e, l(epoch)...))
			}
		}
	}
	n := newNode(t, 16) // in any order
	n.wants(api.OK, adopt(9, slices.Concat(lines(9, 1), lines(3, 2), lines(5, 3), lines(1, 4), lines(9, 5))...))
}

// P9.3: how many bytes lines may have, and how many lines there may be; there is room.
func TestAdoptSizes(t *testing.T) {
	for place := range 3 {
		n := newNode(t, 64)
		l := func(size int) []api.Line {
			l := lines(1, 2, 3, 4)
			l[place].Bytes = some(9, size)
			return l
		}
		n.wants(api.ErrArg, adopt(1, l(0)...), adopt(1, l(4097)...), adopt(1, l(10000)...), adopt(1, lines(1, 0)...), adopt(1, lines(1, 4097)...))
		n.wants(api.OK, adopt(1, l(1)...), adopt(2, l(4096)...), adopt(3, l(4095)...))
		n.wants(api.ErrArg, adopt(4, l(0)...), adopt(4, l(4097)...))
	}
	n := newNode(t, 64)
	n.wants(api.OK, adopt(1))
	n.wants(api.ErrArg, adopt(2, many(1, 257, 1)...), adopt(2, many(1, 258, 1)...), adopt(2, many(1, 600, 1)...))
	n.wants(api.OK, adopt(2, many(1, 255, 1)...), adopt(3, many(1, 256, 1)...), adopt(4))
	n.wants(api.ErrArg, adopt(5, many(1, 257, 1)...))
	n.wants(api.OK, adopt(5, many(1, 256, 40)...))
	n.wants(api.ErrArg, adopt(6, many(1, 257, 1)...)) // instead of those that are kept, not behind them
	n.wants(api.OK, adopt(6, many(2, 256, 41)...), adopt(7, many(6, 100, 1)...))
}

// P9.4: the epochs of lines: Current, and no other one; no lines.
func TestAppendEpochs(t *testing.T) {
	n := newNode(t, 16)
	n.wants(api.ErrArg, add(), add(lines(0, 1)...), add(lines(1, 1)...))
	n.wants(api.OK, promise(5))
	n.wants(api.ErrArg, add(), add(lines(0, 1)...), add(lines(1, 1)...), add(lines(5, 1)...), add(lines(most, 1)...))
	for _, e := range []uint64{5, 6, 1 << 30, most - 1, most} {
		n.wants(api.OK, adopt(e, lines(3, 7)...))
		for place := range 3 {
			l := func(epoch uint64) []api.Line {
				l := lines(e, 2, 3, 4)
				l[place].Epoch = epoch
				return l
			}
			may, not := epochsAbout(e)
			for _, epoch := range append(may, not...) {
				if epoch != e {
					n.wants(api.ErrArg, add(l(epoch)...), add(lines(epoch, 1)...))
				}
			}
			n.wants(api.ErrArg, add())
			n.wants(api.OK, add(l(e)...), add(lines(e, 1)...))
		}
	}
	n = newNode(t, 16, adopt(5, lines(3, 7)...), promise(8)) // Current, not Promised
	n.wants(api.ErrArg, add(lines(8, 1)...), add(lines(3, 1)...))
	n.wants(api.OK, add(lines(5, 1)...))
}

// P9.4: how many bytes lines may have, and how many lines there may be; there is room. One line that may not be leaves all as it was.
func TestAppendSizes(t *testing.T) {
	t.Parallel()
	for place := range 3 {
		n := newNode(t, 80, adopt(1, lines(1, 5)...))
		l := func(size int) []api.Line {
			l := lines(1, 2, 3, 4)
			l[place].Bytes = some(9, size)
			return l
		}
		n.wants(api.ErrArg, add(l(0)...), add(l(4097)...), add(l(10000)...), add(lines(1, 0)...), add(lines(1, 4097)...))
		n.wants(api.OK, add(l(1)...), add(l(4096)...), add(l(4095)...), add(lines(1, 4096)...))
		n.wants(api.ErrArg, add(l(0)...), add(l(4097)...))
	}
	for _, kept := range []int{0, 1, 100, 254, 255, 256} {
		n := newNode(t, 64, adopt(1, many(1, kept, 1)...))
		n.wants(api.ErrArg, add(many(1, 257-kept, 1)...), add(many(1, 258-kept, 1)...), add(many(1, 600, 1)...))
		if kept == 256 {
			continue
		}
		after := n.copied()
		after.wants(api.OK, add(many(1, 256-kept, 2)...))
		after.wants(api.ErrArg, add(lines(1, 1)...), add())
		after.wants(api.OK, promise(2), adopt(3))
		n.wants(api.OK, add(many(1, max(1, 255-kept), 1)...))
	}
	n := newNode(t, 64, adopt(1))
	for range 256 {
		n.wants(api.OK, add(lines(1, 1)...))
	}
	n.wants(api.ErrArg, add(lines(1, 1)...))
}

// filling is so many lines, and of so many bytes, that they take just this much room, with as few lines of most bytes as may be.
func filling(epoch uint64, room int) []api.Line {
	var l []api.Line
	for room > 0 {
		take := min(room, 16+4096)
		if left := room - take; left > 0 && left < 17 {
			take -= 17
		}
		l = append(l, lines(epoch, take-16)...)
		room -= take
	}
	return l
}

// P9.5: what just fits, and one byte more, of Adopt and of Append; and that a promise, and what else fits, is done again and again.
func TestRoom(t *testing.T) {
	t.Parallel()
	for _, pages := range []int{8, 9, 10, 11, 16, 17, 30, 31} {
		free := roomOf(pages) - 64
		for _, ahead := range []int{0, 17, 18, 500, free - 600, free - 34, free - 18, free - 17, free} {
			if ahead < 0 {
				continue
			}
			n := newNode(t, pages)
			n.wants(api.ErrFull, adopt(2, filling(2, free+1)...), adopt(2, filling(1, free+17)...), adopt(2, filling(2, 2*free)...))
			n.wants(api.OK, adopt(2, filling(2, ahead)...))
			left := free - ahead
			for _, more := range []int{1, 2, 16, 17, 480} {
				if left+more >= 17 {
					n.wants(api.ErrFull, add(filling(2, left+more)...))
				}
			}
			if left >= 17 {
				n.wants(api.OK, add(filling(2, left)...))
			}
			n.wants(api.ErrFull, add(lines(2, 1)...), adopt(3, filling(1, free+1)...))
			n.wants(api.OK, promise(3), promise(4))
			n.reopen()
			n.wants(api.ErrFull, add(lines(2, 1)...), adopt(4, filling(3, free+1)...))
			n.wants(api.OK, adopt(4, filling(3, free)...), promise(5))
		}
	}
}

// P9.5: lines count by 16 each, beside their bytes: so many of one byte fit.
func TestRoomOfSmallLines(t *testing.T) {
	t.Parallel()
	for _, pages := range []int{8, 10, 14, 20, 21} {
		fit := (roomOf(pages) - 64) / 17
		n := newNode(t, pages)
		n.wants(api.ErrFull, adopt(1, many(1, fit+1, 1)...))
		n.wants(api.OK, adopt(1, many(1, fit, 1)...), adopt(2))
		for range fit {
			n.wants(api.OK, add(lines(2, 1)...))
		}
		n.wants(api.ErrFull, add(lines(2, 1)...))
		n.wants(api.OK, promise(9))
	}
	n := newNode(t, 22)
	n.wants(api.OK, adopt(1, many(1, 256, 1)...))
}

// P9.5: the greatest disks, filled.
func TestRoomOfGreatestDisk(t *testing.T) {
	t.Parallel()
	for _, pages := range []int{api.MaxPages, api.MaxPages - 1} {
		free := roomOf(pages) - 64
		n := newNode(t, pages)
		n.wants(api.ErrFull, adopt(1, filling(1, free+1)...))
		n.wants(api.OK, adopt(1, filling(1, free-17)...))
		n.wants(api.ErrFull, add(lines(1, 2)...))
		n.wants(api.OK, add(lines(1, 1)...), promise(2))
		n.wants(api.ErrFull, add(lines(1, 1)...))
		n.wants(api.OK, adopt(2, filling(2, free)...), promise(3))
		n.reopen()
	}
}

// P9.5: calls that fit are done far more often than an area has pages, whatever is kept.
func TestAgainAndAgain(t *testing.T) {
	t.Parallel()
	for _, pages := range []int{8, 9, 12, 16} {
		free := roomOf(pages) - 64
		for _, kept := range []int{0, 17, 400, free / 2, free - 100, free - 1, free} {
			n := newNode(t, pages)
			for e := uint64(1); e < 90; e += 3 {
				n.wants(api.OK, promise(e), adopt(e+1, filling(e, kept)...), promise(e+2))
				if free-kept >= 17 {
					n.wants(api.OK, add(lines(e+1, min(free-kept-16, 4096))...))
				}
				if e%10 == 0 {
					n.reopen()
				}
			}
		}
		n := newNode(t, pages)
		n.wants(api.OK, adopt(1, filling(1, free)...))
		for e := range uint64(200) {
			n.wants(api.OK, promise(e+2))
		}
	}
}

// Errors: of several the one that stands first. (What a refused call does not do is wanted of each, too.)
func TestOrderOfErrors(t *testing.T) {
	long := filling(1, 4000)
	n := newNode(t, 8, adopt(3, lines(1, 100)...), promise(5))
	n.wants(api.ErrArg,
		adopt(4, long...), adopt(3, long...), adopt(most+1, long...),
		adopt(6, append(long[:1:1], lines(7, 5)...)...), adopt(6, append(lines(1, 0), long...)...), adopt(6, many(1, 257, 10)...),
		add(long...), add(lines(3, 4096, 0)...), add(lines(3, 4097)...), add(many(3, 256, 10)...), add(append(filling(3, 4000), lines(5, 1)...)...))
	n.wants(api.ErrFull, adopt(5, long...), adopt(6, long...), add(filling(3, 4000)...), adopt(6, many(1, 256, 10)...), add(many(3, 255, 10)...))
	for _, kill := range kills() {
		n := n.copied()
		kill(n.d)
		for _, a := range []act{promise(0), promise(5), promise(6), promise(most + 1), adopt(3), adopt(5), adopt(6), adopt(6, long...), adopt(6, lines(9, 1)...), add(), add(lines(3, 1)...), add(lines(5, 1)...), add(filling(3, 4000)...)} {
			if e := a.do(t, n.s); e != api.ErrDead {
				t.Fatalf("%s of a dead disk: %v", a.name, e)
			}
		}
	}
}

// P9.1 to P9.4: every method of nil.
func TestNil(t *testing.T) {
	var s *store.Store
	for range 2 {
		wantKept(t, s, store.Kept{})
		wantDead(t, s, false)
		for _, a := range []act{promise(0), promise(1), promise(most + 1), adopt(0), adopt(1, lines(1, 5)...), adopt(1, lines(2, 5)...), adopt(1, filling(1, 9000)...), add(), add(lines(1, 5)...), add(many(1, 300, 5)...)} {
			if e := a.do(t, s); e != api.ErrNil {
				t.Fatalf("%s of nil: %v", a.name, e)
			}
		}
	}
}

// kinds are acts of each kind on what TestDead's node keeps, those that are done, and those that are refused.
func kinds() []act {
	return []act{
		promise(9), adopt(5, lines(2, 10)...), adopt(9), add(lines(3, 20)...), add(lines(3, 700)...),
		promise(5), adopt(4), add(), add(lines(3, 2000)...), adopt(9, filling(1, 3000)...),
	}
}

// P9.1: Dead, ahead of such a call, and behind it, also when the power has come again: then a new store goes on, the one that met it does not.
func TestDead(t *testing.T) {
	for _, meets := range kinds() {
		for _, kill := range kills() {
			n := newNode(t, 8, adopt(3, lines(1, 100)...), promise(5))
			other := n.copied()
			other.s, other.d = open(t, n.d), n.d
			kill(n.d)
			wantDead(t, n.s, true)
			wantKept(t, n.s, n.k)
			if e := meets.do(t, n.s); e != api.ErrDead {
				t.Fatalf("%s of a dead disk: %v", meets.name, e)
			}
			wantDead(t, n.s, true)
			wantKept(t, n.s, n.k)
			n.d.Restart([]int{512, 512})
			was := pagesOf(t, n.d)
			n.d.Fuse(0)
			for _, a := range kinds() {
				wantDead(t, n.s, true)
				wantKept(t, n.s, n.k)
				if e := a.do(t, n.s); e != api.ErrDead {
					t.Fatalf("%s behind %s of a dead disk: %v", a.name, meets.name, e)
				}
			}
			if n.d.Dead() || n.d.Waiting() != 0 || !slices.Equal(pagesOf(t, n.d), was) {
				t.Fatal("a dead store wrote")
			}
			n.d.Fuse(-1)
			other.want() // no call of that one met it
			other.do(kinds()...)
			wantDead(t, n.s, true)
			n.k = other.k
			n.reopen()
		}
	}
}

// P9.1: that the power had gone counts for nothing, where no call met it.
func TestNotMetDead(t *testing.T) {
	n := newNode(t, 8, adopt(3, lines(1, 100)...))
	for e := range uint64(20) {
		n.d.Kill()
		n.d.Restart([]int{5})
		n.want()
		n.do(promise(e+4), add(lines(3, 2)...))
	}
}

// P9.2 to P9.4: the power goes at one of the call's own calls of the disk: ErrDead, and the store is dead.
func TestPowerGoesInCall(t *testing.T) {
	for _, a := range kinds()[:5] {
		for cut := 0; ; cut++ {
			n := newNode(t, 8, adopt(3, lines(1, 100)...), promise(5))
			n.d.Fuse(cut)
			e := a.do(t, n.s)
			if e == api.OK {
				break
			}
			if e != api.ErrDead || !n.d.Dead() || cut > 100 {
				t.Fatalf("%s, cut behind %d: %v", a.name, cut, e)
			}
			for range 2 {
				wantDead(t, n.s, true)
				for _, a := range kinds() {
					if e := a.do(t, n.s); e != api.ErrDead {
						t.Fatalf("%s behind that: %v", a.name, e)
					}
				}
				n.d.Restart(nil)
			}
			n.either(a.name, n.k, a)
		}
	}
}

// either takes a new store, and wants what is kept to be this, or what it comes to by the act.
func (n *node) either(name string, k store.Kept, a act) {
	n.t.Helper()
	then, _ := a.on(k, n.d.Size())
	n.s = open(n.t, n.d)
	n.k = n.s.Kept()
	if !same(n.k, k) && !same(n.k, then) {
		n.t.Fatalf("%s: %s, want %s or %s", name, brief(n.k), brief(k), brief(then))
	}
	n.want()
}

// R3: what Kept answers is memory of its own.
func TestMemory(t *testing.T) {
	n := newNode(t, 40, adopt(3, lines(2, 5, 600, 1)...), add(lines(3, 7)...), add(lines(3, 8, 9)...), promise(4))
	for range 2 {
		one, other := n.s.Kept(), n.s.Kept()
		for i := range one.Lines {
			b := one.Lines[i].Bytes[:cap(one.Lines[i].Bytes)]
			for j := range b {
				b[j] ^= 255
			}
			one.Lines[i].Bytes = append(one.Lines[i].Bytes, "more"...)
			one.Lines[i].Epoch = 99
			if !sameLines(one.Lines[i+1:], n.k.Lines[i+1:]) {
				t.Fatalf("the lines behind line %d changed with it", i)
			}
		}
		_ = append(one.Lines, lines(1, 1, 2, 3)...)
		if !same(other, n.k) {
			t.Fatalf("an answer changed with another one: %s", brief(other))
		}
		n.want()
		was := n.k
		n.do(promise(n.k.Promised+1), add(lines(n.k.Current, 10)...), adopt(n.k.Promised+2, lines(1, 700)...), add(lines(n.k.Promised+2, 10, 20)...))
		if !same(other, was) {
			t.Fatalf("an answer changed behind other calls: %s", brief(other))
		}
		_ = append(other.Lines, lines(1, 1, 2, 3)...)
		n.want()
		n.reopen()
	}
}

// R2: stores of two disks are apart.
func TestDisksApart(t *testing.T) {
	a, b := newNode(t, 8, promise(3)), newNode(t, 8)
	b.want()
	b.do(adopt(7, lines(1, 5)...))
	a.want()
	a.do(adopt(4, lines(2, 6)...), add(lines(4, 2)...))
	b.want()
	a.d.Kill()
	wantDead(t, b.s, false)
	b.do(add(lines(7, 5)...), promise(8))
}

// rows are what may become of so many writes: nothing, all, each of them alone, all but it, and pages of which a part is left.
func rows(writes int) [][]int {
	rows := [][]int{nil, slices.Repeat([]int{512}, writes)}
	for at := range writes {
		for _, n := range []int{0, 8, 100, 507} {
			one, but := make([]int, writes), slices.Repeat([]int{512}, writes)
			one[at], but[at] = 512-n, n
			rows = append(rows, one, but)
		}
	}
	for _, n := range []int{1, 7, 8, 11, 17, 250, 500, 504, 511} {
		rows = append(rows, slices.Repeat([]int{n}, writes))
	}
	return rows
}

// script is a row of acts of all kinds, that come to several areas that are begun anew on disks of few pages.
func script(pages int) []act {
	free := roomOf(pages) - 64
	acts := []act{promise(3), adopt(3, lines(1, 1)...), add(lines(3, 40)...)}
	for e := uint64(4); e < 12; e += 2 {
		acts = append(acts,
			promise(e), add(lines(e-1, 30, 60)...),
			adopt(e+1, filling(e, free-200*int(e%3))...), promise(e+2))
	}
	return append(acts, adopt(20), add(filling(20, free/2)...), add(filling(20, free-free/2)...), promise(21), promise(most))
}

// P9.6: a countdown of each number in each call of the script, and the power that comes again with each row of what is left: what is kept is what it was, or what it is behind the call; and it stays, and what is done behind it stands.
func TestPowerGoes(t *testing.T) {
	for _, pages := range []int{8, 9, 12} {
		n := newNode(t, pages)
		longest := 0
		for i, a := range script(pages) {
			if strings.HasPrefix(a.name, "Promise") {
				longest = max(longest, n.calls(a))
			}
			ahead := n.copied()
			t.Run(fmt.Sprintf("%d pages, act %d", pages, i), func(t *testing.T) {
				t.Parallel()
				ahead.t = t
				ahead.cutEverywhere(a)
			})
			n.do(a)
		}
		if longest < 5 {
			t.Errorf("%d pages: no promise takes more than %d calls of the disk: no area was begun anew", pages, longest)
		}
	}
}

// cutEverywhere lets the power go at each call of the disk that an act takes, and come again in all ways.
func (n *node) cutEverywhere(a act) {
	n.t.Helper()
	for cut := range n.calls(a) {
		probe := n.copied()
		probe.d.Fuse(cut)
		a.do(n.t, probe.s)
		for _, fates := range rows(probe.d.Waiting()) {
			after := n.copied()
			after.cut(a, cut, fates)
			after.d.Kill()
			after.d.Restart(fates)
			after.reopen()
			after.goOn()
		}
	}
}

// cut lets the power go at a call of the disk, and come again.
func (n *node) cut(a act, cut int, fates []int) {
	n.t.Helper()
	name := fmt.Sprintf("%s, cut behind %d, %v", a.name, cut, fates)
	k := n.k
	n.d.Fuse(cut)
	if e := a.do(n.t, n.s); e != api.ErrDead || !n.s.Dead() {
		n.t.Fatalf("%s: %v", name, e)
	}
	n.d.Restart(fates)
	wantDead(n.t, n.s, true)
	n.either(name, k, a)
}

// goOn does some more, of which one call at least has an area begun anew.
func (n *node) goOn() {
	n.t.Helper()
	for range n.d.Size()/2 + 1 {
		if n.k.Promised >= most {
			return
		}
		if e := n.s.Promise(n.k.Promised + 1); e != api.OK {
			n.t.Fatalf("Promise(%d) behind that: %v", n.k.Promised+1, e)
		}
		n.k.Promised++
	}
	n.want()
	if n.k.Promised < most {
		n.do(adopt(n.k.Promised+1, lines(1, 30, 900)...))
	}
}

// P9.6: the power goes again, and again, in the same call and in others, behind rows that fill an area more and more.
func TestPowerGoesAgain(t *testing.T) {
	places := []int{0, 1, 6, 7, 8, 9, 12, 100, 503, 504, 508, 511, 512, 512, 512}
	for ahead := range 6 {
		t.Run(fmt.Sprint(ahead), func(t *testing.T) {
			t.Parallel()
			chance := rand.New(rand.NewSource(int64(ahead)))
			for range 60 {
				n := newNode(t, 8, adopt(3, lines(1, 10)...))
				for range ahead {
					n.do(promise(n.k.Promised + 1))
				}
				for range 8 {
					e := n.k.Promised
					a := []act{promise(e + 1), adopt(e+1, lines(2, 900)...), adopt(e+2, lines(1, 5)...), add(lines(n.k.Current, 20)...)}[chance.Intn(4)]
					var fates []int
					for range chance.Intn(6) {
						fates = append(fates, places[chance.Intn(len(places))])
					}
					n.cut(a, chance.Intn(n.copied().calls(a)), fates)
				}
				n.goOn()
			}
		})
	}
}

// P9.6: the power goes in each call but the last one, far more often than an area has pages, and pages are torn near their ends.
func TestPowerGoesManyTimes(t *testing.T) {
	t.Parallel()
	chance := rand.New(rand.NewSource(99))
	n := newNode(t, 8, adopt(3, lines(1, 10)...))
	for range 700 {
		a := promise(n.k.Promised + 1)
		n.cut(a, chance.Intn(n.copied().calls(a)), []int{chance.Intn(10), 503 + chance.Intn(10), chance.Intn(10)})
	}
	n.goOn()
}

// calls is how many calls of the disk the act takes; none, if it is refused.
func (n *node) calls(a act) int {
	n.t.Helper()
	for cut := range 1000 {
		c := n.copied()
		c.d.Fuse(cut)
		if a.do(n.t, c.s) != api.ErrDead {
			return cut
		}
	}
	n.t.Fatalf("%s: it does not end", a.name)
	return 0
}

// P9.6: the power goes with nothing under way, with numbers for what does not wait: nothing is lost.
func TestPowerGoesBetween(t *testing.T) {
	for _, pages := range []int{8, 13} {
		n := newNode(t, pages)
		for i, a := range script(pages) {
			n.do(a)
			for _, fates := range [][]int{nil, {512, 512}, {i}} {
				for _, kill := range kills() {
					kill(n.d)
					n.d.Restart(fates)
					n.reopen()
				}
			}
		}
	}
}

// anyActs does what the bytes say to a store of a small disk, and wants it to be as the chapter says all along.
func anyActs(t *testing.T, b []byte) {
	next := func(n int) int {
		if len(b) == 0 {
			return 0
		}
		v := int(b[0])
		b = b[1:]
		return v % n
	}
	n := newNode(t, 8+next(8))
	for len(b) > 0 {
		var a act
		epoch := n.k.Promised + uint64(next(4)) - 1
		switch next(4) {
		case 0:
			a = promise(epoch)
		case 1:
			a = adopt(epoch, anyLines(uint64(next(5)), next)...)
		case 2:
			a = add(anyLines(n.k.Current+uint64(next(5)/4), next)...)
		default:
			n.reopen()
			continue
		}
		if _, e := a.on(n.k, n.d.Size()); e != api.OK || next(3) > 0 {
			n.do(a)
			continue
		}
		var fates []int
		for range next(6) {
			fates = append(fates, next(9)*64+next(3)-1+513)
		}
		n.cut(a, next(n.copied().calls(a)), fates)
	}
}

func anyLines(epoch uint64, next func(n int) int) []api.Line {
	var l []api.Line
	for range next(4) {
		l = append(l, api.Line{Epoch: epoch, Bytes: some(next(256), next(5)*next(200))})
	}
	return l
}

// P9.1 to P9.6: long rows of any acts.
func TestAnyActs(t *testing.T) {
	t.Parallel()
	chance := rand.New(rand.NewSource(9))
	for range 250 {
		b := make([]byte, 300)
		chance.Read(b)
		anyActs(t, b)
	}
}

// All promises, of any acts.
func FuzzStore(f *testing.F) {
	f.Add([]byte{0, 3, 0, 0, 3, 0, 0, 3, 0, 0, 3, 0, 0, 2, 1, 0, 3, 2, 8, 8})
	f.Add([]byte{4, 2, 1, 1, 2, 9, 4, 100, 9, 2, 30, 0, 2, 2, 0, 1, 2, 3, 4, 5, 6})
	f.Fuzz(func(t *testing.T, b []byte) { anyActs(t, b[:min(len(b), 300)]) })
}

// The chapter's examples.
func TestExamples(t *testing.T) {
	n := newNode(t, 16)
	a, b := api.Line{Epoch: 1, Bytes: []byte("a")}, api.Line{Epoch: 3, Bytes: []byte("b")}
	n.wants(api.OK, promise(3))
	n.wants(api.ErrArg, promise(3), adopt(2))
	n.wants(api.OK, adopt(3, a))
	n.wants(api.ErrArg, add(api.Line{Epoch: 1, Bytes: []byte("b")}))
	n.wants(api.OK, add(b))
	wantKept(t, n.s, store.Kept{Promised: 3, Current: 3, Lines: []api.Line{a, b}})
	wantNoOpen(t, newDisk(t, 7), api.ErrArg)
}

// The chapter's first examples, told.
func Example() {
	d, _ := disk.New(16)
	s, e := store.Open(d)
	fmt.Println("Open", int(e))
	fmt.Println("Promise", int(s.Promise(3)), int(s.Promise(3)))
	fmt.Println("Adopt", int(s.Adopt(2, nil)), int(s.Adopt(3, []api.Line{{Epoch: 1, Bytes: []byte("a")}})))
	fmt.Println("Append", int(s.Append([]api.Line{{Epoch: 1, Bytes: []byte("b")}})), int(s.Append([]api.Line{{Epoch: 3, Bytes: []byte("b")}})))
	k := s.Kept()
	fmt.Println("Kept", k.Promised, k.Current)
	for _, l := range k.Lines {
		fmt.Println(l.Epoch, string(l.Bytes))
	}
	// Output:
	// Open 0
	// Promise 0 1
	// Adopt 1 0
	// Append 1 0
	// Kept 3 3
	// 1 a
	// 3 b
}
