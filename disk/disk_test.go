package disk_test

import (
	"bytes"
	"fmt"
	"math"
	"math/big"
	"math/rand"
	"slices"
	"strings"
	"testing"

	"outrider/api"
	"outrider/disk"
)

// full is a page of one byte all over.
func full(c byte) []byte { return bytes.Repeat([]byte{c}, api.Page) }

// odd is a page that differs at each byte from itself moved along, and from the odd pages of the next 255 numbers.
func odd(n int) []byte {
	b := make([]byte, api.Page)
	for i := range b {
		b[i] = byte(i*7 + i/256*3 + n*31 + 1)
	}
	return b
}

// over is the page below, with the first n bytes of the page above.
func over(below, above []byte, n int) []byte {
	return append(slices.Clone(above[:n]), below[n:]...)
}

func newDisk(t *testing.T, n int) *disk.Disk {
	t.Helper()
	d, e := disk.New(n)
	if e != api.OK || d == nil {
		t.Fatalf("New(%d): %v, %v", n, d, e)
	}
	return d
}

// unlike says where two texts differ first.
func unlike(got, want []byte) string {
	for i := range min(len(got), len(want)) {
		if got[i] != want[i] {
			return fmt.Sprintf("byte %d is %d, want %d", i, got[i], want[i])
		}
	}
	return fmt.Sprintf("%d bytes, want %d", len(got), len(want))
}

func wantRead(t *testing.T, d *disk.Disk, at int, want []byte) {
	t.Helper()
	for range 2 {
		if b, e := d.Read(at); e != api.OK || !bytes.Equal(b, want) {
			t.Fatalf("Read(%d): %v, %s", at, e, unlike(b, want))
		}
	}
}

func wantNoRead(t *testing.T, d *disk.Disk, at int, want api.Errno) {
	t.Helper()
	if b, e := d.Read(at); e != want || len(b) != 0 {
		t.Fatalf("Read(%d): %v, %d bytes, want %v, and none", at, e, len(b), want)
	}
}

// wantWrite wants b, and the room behind it, to stay as they are, too.
func wantWrite(t *testing.T, d *disk.Disk, at int, b []byte, want api.Errno) {
	t.Helper()
	mine := append(slices.Clone(b), "room"...)
	was := slices.Clone(mine)
	if e := d.Write(at, mine[:len(b)]); e != want {
		t.Fatalf("Write(%d, %d bytes): %v, want %v", at, len(b), e, want)
	}
	if !bytes.Equal(mine, was) {
		t.Fatalf("Write(%d) changed what it was given: %s", at, unlike(mine, was))
	}
}

func wantSync(t *testing.T, d *disk.Disk, want api.Errno) {
	t.Helper()
	if e := d.Sync(); e != want {
		t.Fatalf("Sync: %v, want %v", e, want)
	}
}

func wantState(t *testing.T, d *disk.Disk, dead bool, waiting int) {
	t.Helper()
	for range 2 {
		if d.Dead() != dead || d.Waiting() != waiting {
			t.Fatalf("Dead, Waiting: %v, %d, want %v, %d", d.Dead(), d.Waiting(), dead, waiting)
		}
	}
}

// wantPower wants so many calls more to be done, with no end of them near.
func wantPower(t *testing.T, d *disk.Disk) {
	t.Helper()
	for range 300 {
		wantSync(t, d, api.OK)
		wantWrite(t, d, 0, full('p'), api.OK)
	}
	wantSync(t, d, api.OK)
	wantState(t, d, false, 0)
	wantRead(t, d, 0, full('p'))
}

// restart wants the numbers, and the room behind them, to stay as they are.
func restart(t *testing.T, d *disk.Disk, fates ...int) {
	t.Helper()
	mine := append(slices.Clone(fates), 7, -7, 700)
	was := slices.Clone(mine)
	d.Restart(mine[:len(fates)])
	if !slices.Equal(mine, was) {
		t.Fatalf("Restart made %v of %v", mine, was)
	}
	wantState(t, d, false, 0)
}

// model is another reading of the chapter: pages are texts, of the countdown stands how many calls will have been done at its end.
type model struct {
	lies, row  []string
	at         []int
	dead, ends bool
	done, end  uint64
}

func newModel(n int) *model {
	return &model{lies: slices.Repeat([]string{strings.Repeat("\x00", 512)}, n)}
}

func (m *model) fault(at int) api.Errno {
	if m.dead {
		return 9
	}
	if at < 0 || at > len(m.lies)-1 {
		return 1
	}
	return 0
}

func (m *model) read(at int) (string, api.Errno) {
	if e := m.fault(at); e != 0 {
		return "", e
	}
	s := m.lies[at]
	for i, p := range m.at {
		if p == at {
			s = m.row[i]
		}
	}
	return s, 0
}

func (m *model) call() api.Errno {
	m.dead = m.ends && m.done == m.end
	if m.dead {
		return 9
	}
	m.done++
	return 0
}

func (m *model) write(at int, s string) api.Errno {
	e := m.fault(at)
	if e == 0 && len(s) != 512 {
		e = 1
	}
	if e == 0 {
		e = m.call()
	}
	if e == 0 {
		m.at, m.row = append(m.at, at), append(m.row, s)
	}
	return e
}

func (m *model) sync() api.Errno {
	e := m.fault(0)
	if e == 0 {
		e = m.call()
	}
	if e == 0 {
		for at := range m.lies {
			m.lies[at], _ = m.read(at)
		}
		m.at, m.row = nil, nil
	}
	return e
}

func (m *model) fuse(n int) {
	if !m.dead {
		m.ends, m.end = n >= 0, m.done+uint64(n)
	}
}

func (m *model) restart(fates []int) {
	for i, at := range m.at {
		n := new(big.Int)
		if i < len(fates) {
			n.Mod(big.NewInt(int64(fates[i])), big.NewInt(513))
		}
		m.lies[at] = m.row[i][:n.Int64()] + m.lies[at][n.Int64():]
	}
	m.at, m.row, m.dead, m.ends = nil, nil, false, false
}

// act is one that is done to a disk, and to a model of it, and wants them to answer the same.
type act struct {
	name string
	do   func(d *disk.Disk, m *model) (got, want api.Errno)
}

func actWrite(at int, b []byte) act {
	return act{fmt.Sprintf("Write(%d, %d of %.2q)", at, len(b), b), func(d *disk.Disk, m *model) (api.Errno, api.Errno) {
		return d.Write(at, b), m.write(at, string(b))
	}}
}

func actSync() act {
	return act{"Sync", func(d *disk.Disk, m *model) (api.Errno, api.Errno) { return d.Sync(), m.sync() }}
}

func actFuse(n int) act {
	return act{fmt.Sprintf("Fuse(%d)", n), func(d *disk.Disk, m *model) (api.Errno, api.Errno) {
		d.Fuse(n)
		m.fuse(n)
		return 0, 0
	}}
}

func actKill() act {
	return act{"Kill", func(d *disk.Disk, m *model) (api.Errno, api.Errno) {
		d.Kill()
		m.dead = true
		return 0, 0
	}}
}

func actRestart(fates ...int) act {
	return act{fmt.Sprintf("Restart(%v)", fates), func(d *disk.Disk, m *model) (api.Errno, api.Errno) {
		d.Restart(fates)
		m.restart(fates)
		return 0, 0
	}}
}

// wantModel wants the two to tell the same of themselves.
func wantModel(d *disk.Disk, m *model) error {
	if d.Size() != len(m.lies) || d.Dead() != m.dead || d.Waiting() != len(m.row) {
		return fmt.Errorf("Size, Dead, Waiting: %d, %v, %d, want %d, %v, %d", d.Size(), d.Dead(), d.Waiting(), len(m.lies), m.dead, len(m.row))
	}
	for at := -1; at <= len(m.lies); at++ {
		b, e := d.Read(at)
		want, wantE := m.read(at)
		if e != wantE || string(b) != want {
			return fmt.Errorf("Read(%d): %v, want %v; %s", at, e, wantE, unlike(b, []byte(want)))
		}
	}
	return nil
}

// wantActs wants a new disk of n pages and a model to answer the same, all along, and what lies there then to be the same, too.
func wantActs(t *testing.T, n int, acts ...act) {
	t.Helper()
	d, m := newDisk(t, n), newModel(n)
	var did []string
	for _, a := range append(slices.Clone(acts), actRestart(), actSync(), actSync()) {
		did = append(did, a.name)
		got, want := a.do(d, m)
		if got != want {
			t.Fatalf("%s: %v, want %v", strings.Join(did, ", "), got, want)
		}
		if err := wantModel(d, m); err != nil {
			t.Fatalf("%s: %v", strings.Join(did, ", "), err)
		}
	}
}

// P7.1: 1 to MaxPages pages, all 0, with power, without a countdown.
func TestNew(t *testing.T) {
	for _, n := range []int{1, 2, 3, 100, api.MaxPages - 1, api.MaxPages} {
		d := newDisk(t, n)
		if d.Size() != n {
			t.Errorf("Size of New(%d): %d", n, d.Size())
		}
		wantState(t, d, false, 0)
		for at := range n {
			wantRead(t, d, at, make([]byte, 512))
		}
		wantPower(t, d)
	}
}

// P7.1: other numbers of pages.
func TestNewErrArg(t *testing.T) {
	for _, n := range []int{0, -1, -2, -api.MaxPages, api.MaxPages + 1, api.MaxPages + 2, 1 << 16, 1 << 32, 1<<32 + 1, 1 << 62, math.MinInt, math.MinInt + 1, math.MaxInt} {
		if d, e := disk.New(n); d != nil || e != api.ErrArg {
			t.Errorf("New(%d): %v, %v", n, d, e)
		}
	}
}

// P7.1: as many pages as at first, whatever is done.
func TestSizeStays(t *testing.T) {
	d := newDisk(t, 3)
	for _, do := range []func(){
		func() { d.Write(2, full('a')) }, func() { d.Write(3, full('a')) }, func() { d.Sync() }, func() { d.Fuse(0) }, func() { d.Write(0, full('b')) },
		func() { d.Restart([]int{1}) }, func() { d.Kill() }, func() { d.Restart(nil) },
	} {
		do()
		if d.Size() != 3 {
			t.Fatalf("Size: %d", d.Size())
		}
	}
}

// R2: what is done to a disk is done to no other one.
func TestDisksApart(t *testing.T) {
	a, b := newDisk(t, 2), newDisk(t, 2)
	wantWrite(t, a, 0, full('a'), api.OK)
	wantRead(t, b, 0, full(0))
	wantState(t, b, false, 0)
	wantSync(t, a, api.OK)
	a.Fuse(0)
	wantWrite(t, b, 1, full('b'), api.OK)
	wantSync(t, a, api.ErrDead)
	wantState(t, b, false, 1)
	wantSync(t, b, api.OK)
	wantState(t, a, true, 0)
	a.Restart(nil)
	wantRead(t, a, 0, full('a'))
	wantRead(t, a, 1, full(0))
	wantRead(t, b, 0, full(0))
	wantRead(t, b, 1, full('b'))
}

// P7.2: a page is read as the row's last write of it says, or else as it lies there; behind a sync too.
func TestRead(t *testing.T) {
	d := newDisk(t, 4)
	wantWrite(t, d, 1, odd(1), api.OK)
	wantRead(t, d, 0, full(0))
	wantRead(t, d, 1, odd(1))
	wantRead(t, d, 2, full(0))
	wantWrite(t, d, 3, odd(2), api.OK)
	wantWrite(t, d, 1, odd(3), api.OK)
	wantWrite(t, d, 2, odd(4), api.OK)
	wantState(t, d, false, 4)
	for range 2 {
		wantRead(t, d, 0, full(0))
		wantRead(t, d, 1, odd(3))
		wantRead(t, d, 2, odd(4))
		wantRead(t, d, 3, odd(2))
		wantSync(t, d, api.OK)
		wantState(t, d, false, 0)
	}
	wantWrite(t, d, 3, odd(5), api.OK)
	wantRead(t, d, 3, odd(5))
	wantRead(t, d, 1, odd(3))
	wantState(t, d, false, 1)
	wantWrite(t, d, 3, full(0), api.OK)
	wantRead(t, d, 3, full(0))
	wantState(t, d, false, 2)
}

// P7.2: a write that says what the page is already stands in the row, too.
func TestWriteTheSame(t *testing.T) {
	d := newDisk(t, 2)
	for i := range 5 {
		wantWrite(t, d, 1, full(0), api.OK)
		wantState(t, d, false, i+1)
	}
	wantSync(t, d, api.OK)
	wantWrite(t, d, 1, full(0), api.OK)
	wantState(t, d, false, 1)
}

// P7.2: what is synced lies there, whatever becomes of the power behind it.
func TestSync(t *testing.T) {
	d := newDisk(t, 3)
	for i := range 9 {
		wantWrite(t, d, i%2, odd(i), api.OK)
	}
	wantSync(t, d, api.OK)
	wantSync(t, d, api.OK)
	for _, fates := range [][]int{nil, {0}, {512, 512, 512, 512}, {5, 2}, {-1}} {
		d.Kill()
		restart(t, d, fates...)
		wantRead(t, d, 0, odd(8))
		wantRead(t, d, 1, odd(7))
		wantRead(t, d, 2, full(0))
	}
}

// P7.2: the first and the last page; the one behind it, one below 0, and others that are not there.
func TestNoSuchPage(t *testing.T) {
	for _, n := range []int{1, 2, 7, api.MaxPages} {
		d := newDisk(t, n)
		wantWrite(t, d, n-1, odd(1), api.OK)
		wantRead(t, d, n-1, odd(1))
		wantWrite(t, d, 0, odd(2), api.OK)
		wantRead(t, d, 0, odd(2))
		for _, at := range []int{n, n + 1, -1, -2, -n, n + 1<<12, 1 << 16, 1 << 32, 1<<62 + 1, math.MaxInt, math.MinInt, math.MinInt + 1} {
			wantNoRead(t, d, at, api.ErrArg)
			for _, b := range [][]byte{odd(3), nil, full(0)[1:], append(full(0), 0)} {
				wantWrite(t, d, at, b, api.ErrArg)
			}
		}
		wantState(t, d, false, 2)
		wantRead(t, d, 0, odd(2))
		wantSync(t, d, api.OK)
		wantRead(t, d, 0, odd(2))
	}
}

// P7.2: bytes that are not Page: none, one less, one more, and others.
func TestWriteNoPage(t *testing.T) {
	d := newDisk(t, 2)
	wantWrite(t, d, 1, odd(1), api.OK)
	wantWrite(t, d, 1, nil, api.ErrArg)
	wantWrite(t, d, 1, []byte{}, api.ErrArg)
	for _, size := range []int{1, 4, 256, api.Page - 1, api.Page + 1, 2 * api.Page, 3 * api.Page, 1 << 16, 1<<16 + api.Page} {
		wantWrite(t, d, 1, bytes.Repeat([]byte{'x'}, size), api.ErrArg)
	}
	for size := range api.Page {
		wantWrite(t, d, 0, odd(2)[:size], api.ErrArg)
	}
	wantState(t, d, false, 1)
	wantRead(t, d, 0, full(0))
	wantRead(t, d, 1, odd(1))
	wantWrite(t, d, 0, odd(3)[:api.Page:api.Page], api.OK)
	wantRead(t, d, 0, odd(3))
}

// P7.2: of nil, of a dead disk, of a page that is not there or bytes that are not Page, and the countdown's end: the first one that holds is answered, and the countdown counts the calls alone that nothing else refuses.
func TestOrderOfErrors(t *testing.T) {
	var none *disk.Disk
	dead := newDisk(t, 2)
	dead.Kill()
	burnt := newDisk(t, 2)
	burnt.Fuse(0)
	wantSync(t, burnt, api.ErrDead)
	late := newDisk(t, 2)
	late.Fuse(0)
	late.Kill()
	for d, want := range map[*disk.Disk]api.Errno{none: api.ErrNil, dead: api.ErrDead, burnt: api.ErrDead, late: api.ErrDead} {
		for _, at := range []int{0, 1, 2, -1, math.MaxInt, math.MinInt} {
			wantNoRead(t, d, at, want)
			for _, b := range [][]byte{nil, full('a')[1:], full('a'), append(full('a'), 'a')} {
				wantWrite(t, d, at, b, want)
			}
		}
		wantSync(t, d, want)
		wantState(t, d, d != nil, 0)
	}
	last := newDisk(t, 2)
	last.Fuse(0)
	for range 3 {
		wantNoRead(t, last, 2, api.ErrArg)
		wantNoRead(t, last, -1, api.ErrArg)
		wantRead(t, last, 1, full(0))
		wantWrite(t, last, 2, full('a'), api.ErrArg)
		wantWrite(t, last, -1, nil, api.ErrArg)
		wantWrite(t, last, 1, nil, api.ErrArg)
		wantWrite(t, last, 1, full('a')[1:], api.ErrArg)
		wantWrite(t, last, 1, append(full('a'), 'a'), api.ErrArg)
		wantState(t, last, false, 0)
	}
	wantWrite(t, last, 1, full('a'), api.ErrDead)
	wantState(t, last, true, 0)
	wantWrite(t, last, 2, nil, api.ErrDead)
	wantNoRead(t, last, 2, api.ErrDead)
}

// P7.2, P7.3: a dead disk changes nothing: what waits goes on waiting, and what lies there stays.
func TestDeadChangesNothing(t *testing.T) {
	d := newDisk(t, 2)
	wantWrite(t, d, 0, odd(1), api.OK)
	wantSync(t, d, api.OK)
	wantWrite(t, d, 0, odd(2), api.OK)
	wantWrite(t, d, 1, odd(3), api.OK)
	d.Kill()
	wantWrite(t, d, 0, odd(4), api.ErrDead)
	wantWrite(t, d, 1, nil, api.ErrDead)
	wantSync(t, d, api.ErrDead)
	wantNoRead(t, d, 0, api.ErrDead)
	d.Fuse(7)
	d.Kill()
	wantState(t, d, true, 2)
	if d.Size() != 2 {
		t.Errorf("Size: %d", d.Size())
	}
	restart(t, d, 100, 10, 512, 512)
	wantRead(t, d, 0, over(odd(1), odd(2), 100))
	wantRead(t, d, 1, over(full(0), odd(3), 10))
}

// P7.3: a countdown of n: n calls of Write and Sync, in any order, are done, and the next one finds no power.
func TestFuse(t *testing.T) {
	for _, n := range []int{0, 1, 2, 3, 10, 100} {
		for turns := 1; turns < 5; turns++ {
			for _, first := range []int{0, 1} {
				d := newDisk(t, 2)
				wantWrite(t, d, 1, odd(1000), api.OK)
				d.Fuse(n)
				wants := func(i int, want api.Errno) {
					if (i/turns+first)%2 == 0 {
						wantWrite(t, d, 0, odd(i), want)
					} else {
						wantSync(t, d, want)
					}
				}
				for i := range n {
					wants(i, api.OK)
				}
				waiting := d.Waiting()
				wantState(t, d, false, waiting)
				wants(n, api.ErrDead)
				wantState(t, d, true, waiting)
				wants(n+1, api.ErrDead)
				restart(t, d)
				wantPower(t, d)
			}
		}
	}
}

// P7.3: where the countdown ends nothing else is done: the write is not in the row, the sync lays nothing on the disk.
func TestFuseEnds(t *testing.T) {
	d := newDisk(t, 2)
	wantWrite(t, d, 0, odd(1), api.OK)
	d.Fuse(1)
	wantWrite(t, d, 0, odd(2), api.OK)
	wantWrite(t, d, 1, odd(3), api.ErrDead)
	wantState(t, d, true, 2)
	restart(t, d, 512, 7, 512)
	wantRead(t, d, 0, over(odd(1), odd(2), 7))
	wantRead(t, d, 1, full(0))

	wantWrite(t, d, 0, odd(4), api.OK)
	wantWrite(t, d, 1, odd(5), api.OK)
	d.Fuse(0)
	wantSync(t, d, api.ErrDead)
	wantState(t, d, true, 2)
	restart(t, d, 0, 3)
	wantRead(t, d, 0, over(odd(1), odd(2), 7))
	wantRead(t, d, 1, over(full(0), odd(5), 3))
}

// P7.3: a sync counts, though nothing waits.
func TestFuseEmptySync(t *testing.T) {
	d := newDisk(t, 1)
	d.Fuse(3)
	for range 3 {
		wantSync(t, d, api.OK)
	}
	wantSync(t, d, api.ErrDead)
	wantState(t, d, true, 0)
}

// P7.3: what is no Write or Sync does not count, nor does one that is refused, wherever it stands.
func TestFuseDoesNotCount(t *testing.T) {
	d := newDisk(t, 2)
	d.Fuse(2)
	others := func() {
		for range 5 {
			d.Read(0)
			d.Read(2)
			d.Size()
			d.Dead()
			d.Waiting()
			wantWrite(t, d, 2, full('a'), api.ErrArg)
			wantWrite(t, d, -1, full('a'), api.ErrArg)
			wantWrite(t, d, 0, nil, api.ErrArg)
			wantWrite(t, d, 1, full('a')[1:], api.ErrArg)
		}
	}
	others()
	wantWrite(t, d, 0, odd(1), api.OK)
	others()
	wantSync(t, d, api.OK)
	others()
	wantState(t, d, false, 0)
	wantWrite(t, d, 0, odd(2), api.ErrDead)
	restart(t, d, 512)
	wantRead(t, d, 0, odd(1))
}

// P7.3: a countdown below 0 is none; it takes one that runs back.
func TestFuseBelow0(t *testing.T) {
	for _, n := range []int{-1, -2, -512, math.MinInt, math.MinInt + 1} {
		for _, running := range []int{-1, 0, 1, 5, math.MaxInt} {
			d := newDisk(t, 1)
			d.Fuse(running)
			d.Fuse(n)
			wantPower(t, d)
		}
	}
}

// P7.3: a countdown that is laid anew while another one runs takes its place, how far that ever came.
func TestFuseAnew(t *testing.T) {
	for _, was := range []int{0, 1, 2, 3, 4, 50, math.MaxInt, -1} {
		for _, n := range []int{0, 1, 2, 3, 4, 50} {
			d := newDisk(t, 1)
			d.Fuse(was)
			if was > 2 {
				wantSync(t, d, api.OK)
				wantSync(t, d, api.OK)
			}
			d.Fuse(n)
			for range n {
				wantSync(t, d, api.OK)
			}
			wantSync(t, d, api.ErrDead)
		}
	}
}

// P7.3: the greatest countdown there is comes to no end.
func TestFuseGreatest(t *testing.T) {
	for _, n := range []int{math.MaxInt, math.MaxInt - 1, 1 << 32, 1 << 16} {
		d := newDisk(t, 1)
		d.Fuse(n)
		wantPower(t, d)
	}
}

// P7.3: a countdown that is told to a dead disk is none, and one that runs when the power goes does not run on.
func TestFuseOfDead(t *testing.T) {
	for _, n := range []int{-1, 0, 1, 5, math.MaxInt, math.MinInt} {
		for _, running := range []int{-1, 0, 1, 5} {
			d := newDisk(t, 1)
			d.Fuse(running)
			d.Kill()
			d.Fuse(n)
			wantSync(t, d, api.ErrDead)
			wantState(t, d, true, 0)
			restart(t, d)
			wantPower(t, d)
		}
	}
}

// P7.3: there is no countdown behind a Restart of a disk with power, either.
func TestRestartEndsCountdown(t *testing.T) {
	for _, n := range []int{0, 1, 5} {
		d := newDisk(t, 1)
		d.Fuse(n)
		restart(t, d)
		wantPower(t, d)
		d.Fuse(n)
		for range n {
			wantSync(t, d, api.OK)
		}
		wantSync(t, d, api.ErrDead)
	}
}

// P7.3: Kill once, or twice, with what waits, or nothing.
func TestKill(t *testing.T) {
	for _, times := range []int{1, 2, 5} {
		for writes := range 4 {
			d := newDisk(t, 2)
			for i := range writes {
				wantWrite(t, d, i%2, odd(i), api.OK)
			}
			wantState(t, d, false, writes)
			for range times {
				d.Kill()
				wantState(t, d, true, writes)
			}
			wantNoRead(t, d, 0, api.ErrDead)
			restart(t, d, 512, 512, 512)
			for at := range 2 {
				want := full(0)
				for i := at; i < writes; i += 2 {
					want = odd(i)
				}
				wantRead(t, d, at, want)
			}
			wantPower(t, d)
		}
	}
}

// P7.3: a number that is told, taken modulo Page and 1, of a dead disk and of one with power.
func TestRestartNumbers(t *testing.T) {
	for f, n := range map[int]int{
		0: 0, 1: 1, 2: 2, 5: 5, 256: 256, 511: 511, 512: 512, 513: 0, 514: 1, 1024: 511, 1025: 512, 1026: 0, 1027: 1, 513000: 0, 513512: 512,
		-1: 512, -2: 511, -511: 2, -512: 1, -513: 0, -514: 512, -1025: 1, -1026: 0, -1027: 512, -513001: 512,
		1 << 32: 481, -1 << 32: 32, 1 << 62: 256, -1 << 62: 257, math.MaxInt: 511, math.MaxInt - 1: 510, math.MinInt: 1, math.MinInt + 1: 2,
	} {
		for _, end := range []func(d *disk.Disk){
			func(d *disk.Disk) {}, func(d *disk.Disk) { d.Kill() }, func(d *disk.Disk) { d.Fuse(0); d.Sync() }, func(d *disk.Disk) { d.Fuse(9) },
		} {
			d := newDisk(t, 2)
			wantWrite(t, d, 1, odd(1), api.OK)
			wantSync(t, d, api.OK)
			wantWrite(t, d, 1, odd(2), api.OK)
			end(d)
			restart(t, d, f)
			wantRead(t, d, 1, over(odd(1), odd(2), n))
			wantRead(t, d, 0, full(0))
			wantPower(t, d)
		}
	}
}

// P7.3: each number that says how many bytes, and those that say the same.
func TestRestartEachNumber(t *testing.T) {
	d := newDisk(t, 1)
	for n := range api.Page + 1 {
		for _, f := range []int{n, n + 513, n - 513, n - 513*1000000, n + 513<<40} {
			wantWrite(t, d, 0, odd(n), api.OK)
			wantSync(t, d, api.OK)
			wantWrite(t, d, 0, odd(n+1), api.OK)
			restart(t, d, f)
			wantRead(t, d, 0, over(odd(n), odd(n+1), n))
		}
	}
}

// P7.3: no numbers, fewer than the row has writes, as many, and more.
func TestRestartHowMany(t *testing.T) {
	fates := []int{1, 20, 512, 300, 40, 7}
	for writes := range 5 {
		for told := range len(fates) + 1 {
			d := newDisk(t, 4)
			for i := range writes {
				wantWrite(t, d, i, odd(i), api.OK)
			}
			d.Kill()
			restart(t, d, fates[:told]...)
			for i := range 4 {
				want := full(0)
				if i < writes && i < told {
					want = over(want, odd(i), fates[i])
				}
				wantRead(t, d, i, want)
			}
		}
	}
	d := newDisk(t, 1)
	wantWrite(t, d, 0, odd(1), api.OK)
	d.Restart([]int{})
	wantRead(t, d, 0, full(0))
	d.Restart(slices.Repeat([]int{512}, 100000))
	wantRead(t, d, 0, full(0))
	wantWrite(t, d, 0, odd(1), api.OK)
	d.Restart(slices.Repeat([]int{512}, 100000))
	wantRead(t, d, 0, odd(1))
}

// P7.3: of two writes of one page something of both may be left, or of one, or of none: the row's order counts, also where writes of other pages stand between.
func TestRestartOnePage(t *testing.T) {
	for _, first := range []int{0, 1, 2, 5, 511, 512} {
		for _, second := range []int{0, 1, 2, 5, 511, 512} {
			d := newDisk(t, 3)
			wantWrite(t, d, 1, odd(1), api.OK)
			wantSync(t, d, api.OK)
			wantWrite(t, d, 0, odd(2), api.OK)
			wantWrite(t, d, 1, odd(3), api.OK)
			wantWrite(t, d, 2, odd(4), api.OK)
			wantWrite(t, d, 1, odd(5), api.OK)
			wantWrite(t, d, 0, odd(6), api.OK)
			d.Kill()
			restart(t, d, 33, first, 44, second, 22)
			wantRead(t, d, 1, over(over(odd(1), odd(3), first), odd(5), second))
			wantRead(t, d, 0, over(over(full(0), odd(2), 33), odd(6), 22))
			wantRead(t, d, 2, over(full(0), odd(4), 44))
		}
	}
}

// P7.3: the row is empty behind a Restart: another one leaves nothing more of it, and numbers count from the next write on.
func TestRestartAgain(t *testing.T) {
	d := newDisk(t, 2)
	wantWrite(t, d, 0, odd(1), api.OK)
	wantWrite(t, d, 1, odd(2), api.OK)
	d.Kill()
	restart(t, d, 10)
	for range 3 {
		restart(t, d, 512, 512, 512)
		d.Kill()
		restart(t, d, 512, 512, 512)
		wantRead(t, d, 0, over(full(0), odd(1), 10))
		wantRead(t, d, 1, full(0))
	}
	wantWrite(t, d, 1, odd(3), api.OK)
	d.Kill()
	restart(t, d, 20, 512)
	wantRead(t, d, 1, over(full(0), odd(3), 20))
	wantWrite(t, d, 1, odd(4), api.OK)
	wantSync(t, d, api.OK)
	wantWrite(t, d, 0, odd(5), api.OK)
	d.Kill()
	restart(t, d, 30, 512)
	wantRead(t, d, 0, over(over(full(0), odd(1), 10), odd(5), 30))
	wantRead(t, d, 1, odd(4))
}

// P7.3: what is left of the row lies there as what was synced does, and a sync behind it changes nothing.
func TestLeftLies(t *testing.T) {
	d := newDisk(t, 2)
	wantWrite(t, d, 0, odd(1), api.OK)
	wantWrite(t, d, 1, odd(2), api.OK)
	restart(t, d, 100, 200)
	for range 2 {
		wantSync(t, d, api.OK)
		wantRead(t, d, 0, over(full(0), odd(1), 100))
		wantRead(t, d, 1, over(full(0), odd(2), 200))
		d.Kill()
		restart(t, d)
	}
	wantWrite(t, d, 0, odd(3), api.OK)
	restart(t, d, 50)
	wantRead(t, d, 0, over(over(full(0), odd(1), 100), odd(3), 50))
}

// P7.1 to P7.3: every method of nil.
func TestNil(t *testing.T) {
	var d *disk.Disk
	for range 2 {
		if d.Size() != 0 {
			t.Errorf("Size: %d", d.Size())
		}
		for _, at := range []int{0, -1, 5} {
			wantNoRead(t, d, at, api.ErrNil)
			wantWrite(t, d, at, full('a'), api.ErrNil)
			wantWrite(t, d, at, nil, api.ErrNil)
		}
		wantSync(t, d, api.ErrNil)
		wantState(t, d, false, 0)
		for _, n := range []int{-1, 0, 1, math.MaxInt} {
			d.Fuse(n)
		}
		d.Kill()
		wantState(t, d, false, 0)
		for _, fates := range [][]int{nil, {1}, {512, -1}} {
			restart(t, d, fates...)
		}
	}
}

// R1: a disk that New did not make has no pages, and no call of it panics.
func TestZeroDisk(t *testing.T) {
	d := new(disk.Disk)
	if d.Size() != 0 {
		t.Errorf("Size: %d", d.Size())
	}
	wantNoRead(t, d, 0, api.ErrArg)
	wantWrite(t, d, 0, full('a'), api.ErrArg)
	d.Sync()
	d.Fuse(1)
	d.Kill()
	wantSync(t, d, api.ErrDead)
	restart(t, d, 1)
	wantSync(t, d, api.OK)
}

// R3: what Write was given is not kept, and what Read answers is memory of its own, whether the page waits, or lies there.
func TestMemory(t *testing.T) {
	d := newDisk(t, 2)
	b := odd(1)
	if e := d.Write(0, b); e != api.OK {
		t.Fatal(e)
	}
	clear(b)
	wantRead(t, d, 0, odd(1))
	if e := d.Write(1, b); e != api.OK {
		t.Fatal(e)
	}
	copy(b, odd(2))
	wantRead(t, d, 0, odd(1))
	wantRead(t, d, 1, full(0))
	spoil := func() {
		for at := range 2 {
			one, _ := d.Read(at)
			other, _ := d.Read(at)
			was := slices.Clone(other)
			one = one[:cap(one)]
			for i := range one {
				one[i] ^= 0xff
			}
			if !bytes.Equal(other, was) {
				t.Fatalf("what Read(%d) answered changed: %s", at, unlike(other, was))
			}
		}
		wantRead(t, d, 0, odd(1))
		wantRead(t, d, 1, full(0))
	}
	spoil()
	wantSync(t, d, api.OK)
	spoil()
	kept, _ := d.Read(0)
	wantWrite(t, d, 0, odd(3), api.OK)
	wantSync(t, d, api.OK)
	wantWrite(t, d, 0, odd(4), api.OK)
	restart(t, d, 5)
	if !bytes.Equal(kept, odd(1)) {
		t.Errorf("what was read changed: %s", unlike(kept, odd(1)))
	}
}

// R3: what lies there, and what waits, share nothing with each other, nor do two pages that were written alike.
func TestPagesApart(t *testing.T) {
	d := newDisk(t, 2)
	b := odd(1)
	for range 2 {
		for at := range 2 {
			if e := d.Write(at, b); e != api.OK {
				t.Fatal(e)
			}
		}
	}
	wantSync(t, d, api.OK)
	wantWrite(t, d, 0, odd(2), api.OK)
	wantWrite(t, d, 0, odd(3), api.OK)
	restart(t, d, 9, 4)
	wantRead(t, d, 0, over(over(odd(1), odd(2), 9), odd(3), 4))
	wantRead(t, d, 1, odd(1))
}

// R3: the numbers are not kept.
func TestNumbersNotKept(t *testing.T) {
	d := newDisk(t, 1)
	fates := []int{3, 4}
	wantWrite(t, d, 0, odd(1), api.OK)
	d.Restart(fates)
	fates[0], fates[1] = 400, 500
	wantRead(t, d, 0, over(full(0), odd(1), 3))
	wantWrite(t, d, 0, odd(2), api.OK)
	d.Kill()
	d.Restart(nil)
	wantRead(t, d, 0, over(full(0), odd(1), 3))
}

// P7.2, P7.3: a long row, on a disk of as many pages as may be.
func TestLongRow(t *testing.T) {
	d := newDisk(t, api.MaxPages)
	var fates []int
	written := func(i int) []byte { return odd(i + i/api.MaxPages) }
	for i := range 3 * api.MaxPages {
		wantWrite(t, d, i%api.MaxPages, written(i), api.OK)
		fates = append(fates, i)
	}
	wantState(t, d, false, 3*api.MaxPages)
	for _, at := range []int{0, 1, 2047, api.MaxPages - 1} {
		wantRead(t, d, at, written(at+2*api.MaxPages))
	}
	restart(t, d, fates...)
	for at := range api.MaxPages {
		want := full(0)
		for i := at; i < len(fates); i += api.MaxPages {
			want = over(want, written(i), i%513)
		}
		wantRead(t, d, at, want)
	}
}

// shortActs are acts on a disk of two pages, each error and each edge among them.
func shortActs() []act {
	return []act{
		actWrite(0, full('a')), actWrite(1, full('b')), actWrite(0, odd(1)), actWrite(2, full('c')), actWrite(-1, nil), actWrite(0, full('d')[1:]),
		actSync(), actFuse(0), actFuse(1), actFuse(2), actFuse(-1), actKill(), actRestart(), actRestart(5), actRestart(-2, 2, 513),
	}
}

// P7.1 to P7.4: all short rows of acts.
func TestShortActs(t *testing.T) {
	acts := shortActs()
	for _, a := range acts {
		for _, b := range acts {
			for _, c := range acts {
				for _, d := range acts {
					wantActs(t, 2, a, b, c, d)
				}
			}
		}
	}
}

// anyActs are acts that the bytes say, on a disk of n pages, and on those about them.
func anyActs(b []byte, n int) []act {
	var acts []act
	next := func() int {
		if len(b) == 0 {
			return 0
		}
		v := int(b[0])
		b = b[1:]
		return v
	}
	for len(b) > 0 {
		switch next() % 16 {
		case 0, 1:
			acts = append(acts, actSync())
		case 2:
			acts = append(acts, actFuse(next()%12-2))
		case 3:
			acts = append(acts, actKill())
		case 4, 5, 6:
			var fates []int
			for range next() % 8 {
				fates = append(fates, next()*next()*next()-next()*1000)
			}
			acts = append(acts, actRestart(fates...))
		case 7:
			acts = append(acts, actWrite(next()%(n+2)-1, make([]byte, next()*4)))
		default:
			acts = append(acts, actWrite(next()%(n+2)-1, odd(next())))
		}
	}
	return acts
}

// P7.1 to P7.4: long rows of any acts.
func TestAnyActs(t *testing.T) {
	chance := rand.New(rand.NewSource(7))
	for i := range 400 {
		b := make([]byte, 400)
		chance.Read(b)
		n := 1 + i%5
		wantActs(t, n, anyActs(b, n)...)
	}
}

// may is what each byte of a page may be: what was synced there, or was written there since.
type may [api.Page]map[byte]bool

func (m *may) add(b []byte, alone bool) {
	for i, c := range b {
		if alone || m[i] == nil {
			m[i] = map[byte]bool{}
		}
		m[i][c] = true
	}
}

func wantMay(t *testing.T, d *disk.Disk, at int, m *may) []byte {
	t.Helper()
	b, e := d.Read(at)
	if e != api.OK || len(b) != api.Page {
		t.Fatalf("Read(%d): %v, %d bytes", at, e, len(b))
	}
	for i, c := range b {
		if !m[i][c] {
			t.Fatalf("byte %d of page %d is %d, which is none of %v", i, at, c, m[i])
		}
	}
	return b
}

// P7.4: each byte of a page is one that was synced there, or was written there since, whatever numbers are told. What is read behind a sync is what was written last, and what is read behind a restart stays.
func TestEachByte(t *testing.T) {
	chance := rand.New(rand.NewSource(4))
	for range 150 {
		d, n := newDisk(t, 3), 0
		pages := make([]may, 3)
		for at := range pages {
			pages[at].add(full(0), true)
		}
		for range 30 {
			for range chance.Intn(6) {
				at := chance.Intn(3)
				n++
				wantWrite(t, d, at, odd(n), api.OK)
				wantRead(t, d, at, odd(n))
				pages[at].add(odd(n), false)
			}
			if chance.Intn(3) == 0 {
				wantSync(t, d, api.OK)
			} else {
				d.Kill()
				restart(t, d, chance.Perm(600)[:chance.Intn(6)]...)
			}
			for at := range pages {
				b := wantMay(t, d, at, &pages[at])
				pages[at].add(b, true)
			}
		}
	}
}

// P7.4: what was synced lies there, but for the pages that were written behind, and for no more bytes of those than a number says.
func TestSyncedLies(t *testing.T) {
	for _, fates := range [][]int{nil, {0, 0}, {512, 512}, {1, 511}, {-1, -513}, {math.MaxInt, math.MinInt}, {512, 512, 512, 512, 512}} {
		d := newDisk(t, 5)
		for at := range 5 {
			wantWrite(t, d, at, odd(at), api.OK)
		}
		wantSync(t, d, api.OK)
		d.Fuse(2)
		wantWrite(t, d, 1, odd(11), api.OK)
		wantWrite(t, d, 3, odd(13), api.OK)
		wantWrite(t, d, 4, odd(14), api.ErrDead)
		restart(t, d, fates...)
		for _, at := range []int{0, 2, 4} {
			wantRead(t, d, at, odd(at))
		}
		for i, at := range []int{1, 3} {
			n := 0
			if i < len(fates) {
				n = (fates[i]%513 + 513) % 513
			}
			wantRead(t, d, at, over(odd(at), odd(10+at), n))
		}
	}
}

// All promises, of any acts.
func FuzzDisk(f *testing.F) {
	f.Add([]byte{8, 1, 97, 8, 1, 98, 3, 4, 2, 5, 1, 1, 0, 2, 1, 1, 0}, 1)
	f.Add([]byte{2, 3, 9, 0, 1, 0, 7, 1, 4, 8, 1, 1, 4, 1, 200, 200, 9, 3}, 0)
	f.Fuzz(func(t *testing.T, b []byte, n int) {
		n = 1 + (n%5+5)%5
		wantActs(t, n, anyActs(b[:min(len(b), 500)], n)...)
	})
}

// The chapter's examples.
func TestExamples(t *testing.T) {
	d := newDisk(t, 2)
	wantWrite(t, d, 0, full('a'), api.OK)
	wantWrite(t, d, 0, full('b'), api.OK)
	wantState(t, d, false, 2)
	d.Restart([]int{5, 2})
	wantRead(t, d, 0, append([]byte("bbaaa"), make([]byte, api.Page-5)...))

	d = newDisk(t, 2)
	d.Fuse(1)
	wantWrite(t, d, 1, full('a'), api.OK)
	wantSync(t, d, api.ErrDead)
	wantNoRead(t, d, 1, api.ErrDead)
	d.Restart([]int{512})
	wantRead(t, d, 1, full('a'))

	d = newDisk(t, 2)
	wantWrite(t, d, 2, full('a'), api.ErrArg)
	wantWrite(t, d, 0, full('a')[:4], api.ErrArg)
}

// The chapter's first example, told.
func Example() {
	d, e := disk.New(2)
	fmt.Println("New", int(e))
	fmt.Println("Write", int(d.Write(0, full('a'))), int(d.Write(0, full('b'))))
	fmt.Println("Waiting", d.Waiting())
	d.Restart([]int{5, 2})
	b, e := d.Read(0)
	fmt.Printf("Read %d %q\n", int(e), b[:6])
	// Output:
	// New 0
	// Write 0 0
	// Waiting 2
	// Read 0 "bbaaa\x00"
}
