package log_test

import (
	"bytes"
	"encoding/binary"
	"fmt"
	"hash/crc64"
	"math"
	"math/rand"
	"slices"
	"strings"
	"testing"

	"outrider/api"
	"outrider/disk"
	"outrider/log"
)

const greatest = math.MaxUint64

// The library's table of the check's polynomial: another way to the same check, which the program does not take.
var library = crc64.MakeTable(crc64.ECMA)

// said is what a page says, as it is laid by hand, field by field.
type said struct {
	stamp       uint64
	which, many int
	size        uint32
	text        []byte // as it lies there, with what stands behind the first size bytes
	check       uint64 // added to the right one, without carry
	again       uint64 // added to the stamp, without carry
}

// leaf is the one of these bytes.
func leaf(stamp uint64, which, many int, text []byte) said {
	return said{stamp: stamp, which: which, many: many, size: uint32(len(text)), text: text}
}

func headOf(stamp uint64) said { return leaf(stamp, 0, 0, nil) }

func (s said) page() []byte {
	b := binary.BigEndian.AppendUint64(nil, s.stamp)
	b = binary.BigEndian.AppendUint16(b, uint16(s.which))
	b = binary.BigEndian.AppendUint16(b, uint16(s.many))
	b = binary.BigEndian.AppendUint32(b, s.size)
	b = append(b, s.text...)
	b = append(b, make([]byte, 496-len(b))...)
	b = binary.LittleEndian.AppendUint64(b, crc64.Checksum(b, library)^s.check)
	return binary.BigEndian.AppendUint64(b, s.stamp^s.again)
}

// with is s after some of it was made another one.
func (s said) with(change func(s *said)) said {
	change(&s)
	return s
}

// some is so many bytes, none of them 0, that are other ones for other numbers.
func some(number, size int) []byte {
	b := make([]byte, size)
	for i := range b {
		b[i] = byte(1 + (i*7+i/251+number*31)%255)
	}
	return b
}

// twin is another reading of the chapter: a disk's pages, and what a log of a part of them does to these.
type twin struct {
	lies     []string
	first, n int
	top      uint64
}

func newTwin(lies []string, first, n int) *twin {
	m := &twin{lies: slices.Clone(lies), first: first, n: n}
	for _, p := range m.part() {
		m.top = max(m.top, binary.BigEndian.Uint64([]byte(p[:8])), binary.BigEndian.Uint64([]byte(p[504:])))
	}
	return m
}

func (m *twin) part() []string { return m.lies[m.first : m.first+m.n] }

// parse takes a page apart; false: it is no leaf.
func parse(p string) (said, bool) {
	b := []byte(p)
	s := said{
		stamp: binary.BigEndian.Uint64(b),
		which: int(binary.BigEndian.Uint16(b[8:])),
		many:  int(binary.BigEndian.Uint16(b[10:])),
		size:  binary.BigEndian.Uint32(b[12:]),
	}
	switch {
	case s.stamp == 0,
		s.size > 480,
		strings.Trim(p[16+s.size:496], "\x00") != "",
		binary.LittleEndian.Uint64(b[496:]) != crc64.Checksum(b[:496], library),
		binary.BigEndian.Uint64(b[504:]) != s.stamp:
		return said{}, false
	}
	s.text = b[16 : 16+s.size]
	return s, true
}

// read is whether there is a head, the records, and the end.
func (m *twin) read() (bool, [][]byte, int) {
	part := m.part()
	head, ok := parse(part[0])
	if !ok || head.which != 0 || head.many != 0 || head.size != 0 {
		return false, nil, 1
	}
	var records [][]byte
	end, stamp := 1, head.stamp
	for end < m.n {
		first, ok := parse(part[end])
		if !ok || first.stamp <= stamp || first.many == 0 || end+first.many > m.n {
			break
		}
		var record []byte
		for i := range first.many {
			s, is := parse(part[end+i])
			ok = ok && is && s.stamp == first.stamp && s.which == i && s.many == first.many
			record = append(record, s.text...)
		}
		if !ok {
			break
		}
		records, stamp, end = append(records, record), first.stamp, end+first.many
	}
	return true, records, end
}

// told is one call of the disk: the page at becomes p; or, with at below 0, a sync.
type told struct {
	at int
	p  string
}

func (m *twin) putHead(stamp uint64) []told {
	return []told{{m.first, string(headOf(stamp).page())}, {at: -1}}
}

// commit is what is told the disk, unless there is no room.
func (m *twin) commit(b []byte) ([]told, api.Errno) {
	head, _, end := m.read()
	if end == m.n || len(b) > 480*(m.n-end) {
		return nil, 4
	}
	var l []told
	stamp := m.top + 1
	if !head {
		l = m.putHead(stamp)
		stamp++
	}
	many := (len(b) + 479) / 480
	if many == 0 {
		many = 1
	}
	for i := range many {
		text := b[480*i : min(480*i+480, len(b))]
		l = append(l, told{m.first + end + i, string(leaf(stamp, i, many, text).page())})
	}
	return append(l, told{at: -1}), 0
}

func (m *twin) reset() []told { return m.putHead(m.top + 1) }

// do does all of it.
func (m *twin) do(l []told) {
	for _, w := range l {
		if w.at >= 0 {
			m.lies[w.at] = w.p
			m.top = binary.BigEndian.Uint64([]byte(w.p))
		}
	}
}

// cut answers the pages after the first so many calls of these, and the power that comes again with these numbers.
func (m *twin) cut(l []told, done int, fates []int) []string {
	lies := slices.Clone(m.lies)
	var row []told
	for _, w := range l[:done] {
		if w.at >= 0 {
			row = append(row, w)
			continue
		}
		for _, w := range row {
			lies[w.at] = w.p
		}
		row = nil
	}
	for i, w := range row {
		if i < len(fates) {
			n := fates[i] % 513
			lies[w.at] = w.p[:n] + lies[w.at][n:]
		}
	}
	return lies
}

// unlike says where two texts differ first.
func unlike(got, want string) string {
	for i := range min(len(got), len(want)) {
		if got[i] != want[i] {
			return fmt.Sprintf("byte %d is %d, want %d", i, got[i], want[i])
		}
	}
	return fmt.Sprintf("%d bytes, want %d", len(got), len(want))
}

func brief(l [][]byte) string {
	var s []string
	for _, b := range l {
		s = append(s, fmt.Sprintf("%d of %.3q", len(b), b))
	}
	return "[" + strings.Join(s, ", ") + "]"
}

func same(a, b [][]byte) bool { return slices.EqualFunc(a, b, bytes.Equal) }

// pagesOf reads all of a disk.
func pagesOf(t *testing.T, d *disk.Disk) []string {
	t.Helper()
	var l []string
	for at := range d.Size() {
		b, e := d.Read(at)
		if e != api.OK {
			t.Fatalf("Read(%d): %v", at, e)
		}
		l = append(l, string(b))
	}
	return l
}

func wantPages(t *testing.T, d *disk.Disk, want []string) {
	t.Helper()
	for at, p := range pagesOf(t, d) {
		if p != want[at] {
			t.Fatalf("page %d: %s", at, unlike(p, want[at]))
		}
	}
}

// newDisk is one of as many pages, which lie there, as are told.
func newDisk(t *testing.T, pages ...[]byte) *disk.Disk {
	t.Helper()
	d, e := disk.New(len(pages))
	if e != api.OK {
		t.Fatal(e)
	}
	put(t, d, 0, pages...)
	return d
}

// put lays pages on a disk by hand, from at on; nil leaves one as it is.
func put(t *testing.T, d *disk.Disk, at int, pages ...[]byte) {
	t.Helper()
	for i, p := range pages {
		if p == nil {
			continue
		}
		if e := d.Write(at+i, p); e != api.OK {
			t.Fatal(e)
		}
	}
	if e := d.Sync(); e != api.OK {
		t.Fatal(e)
	}
}

// blank is so many pages of zeros.
func blank(n int) [][]byte { return slices.Repeat([][]byte{make([]byte, 512)}, n) }

// noise is so many pages of which none is a leaf, and whose numbers at both ends are not great.
func noise(n int) [][]byte {
	var l [][]byte
	for i := range n {
		p := some(i, 512)
		clear(p[:7])
		clear(p[504:511])
		l = append(l, p)
	}
	return l
}

// open wants a log.
func open(t *testing.T, d *disk.Disk, first, n int) *log.Log {
	t.Helper()
	l, e := log.Open(d, first, n)
	if e != api.OK || l == nil {
		t.Fatalf("Open(%d, %d): %v, %v", first, n, l, e)
	}
	return l
}

func wantNoOpen(t *testing.T, d *disk.Disk, first, n int, want api.Errno) {
	t.Helper()
	if l, e := log.Open(d, first, n); l != nil || e != want {
		t.Fatalf("Open(%d, %d): %v, %v, want none, %v", first, n, l, e, want)
	}
}

func wantBatches(t *testing.T, l *log.Log, want ...[]byte) {
	t.Helper()
	for range 2 {
		if got := l.Batches(); !same(got, want) {
			t.Fatalf("Batches: %s, want %s", brief(got), brief(want))
		}
	}
}

func wantRoom(t *testing.T, l *log.Log, want int) {
	t.Helper()
	for range 2 {
		if got := l.Room(); got != want {
			t.Fatalf("Room: %d, want %d", got, want)
		}
	}
}

// wantCommit wants b, and the room behind it, to stay as they are, too.
func wantCommit(t *testing.T, l *log.Log, b []byte, want api.Errno) {
	t.Helper()
	mine := append(slices.Clone(b), "room"...)
	was := slices.Clone(mine)
	if e := l.Commit(mine[:len(b)]); e != want {
		t.Fatalf("Commit(%d bytes): %v, want %v", len(b), e, want)
	}
	if !bytes.Equal(mine, was) {
		t.Fatalf("Commit changed what it was given: %s", unlike(string(mine), string(was)))
	}
}

func wantReset(t *testing.T, l *log.Log, want api.Errno) {
	t.Helper()
	if e := l.Reset(); e != want {
		t.Fatalf("Reset: %v, want %v", e, want)
	}
}

// pair is a disk, a log of a part of it, and their twin.
type pair struct {
	t *testing.T
	d *disk.Disk
	l *log.Log
	m *twin
}

// newPair opens a log, and wants nothing to be written.
func newPair(t *testing.T, d *disk.Disk, first, n int) *pair {
	t.Helper()
	was, waits := pagesOf(t, d), d.Waiting()
	p := &pair{t, d, open(t, d, first, n), newTwin(was, first, n)}
	if d.Waiting() != waits {
		t.Fatalf("Waiting behind Open: %d, want %d", d.Waiting(), waits)
	}
	p.want()
	return p
}

// want wants all pages, and what the log answers, to be as the twin says.
func (p *pair) want() {
	p.t.Helper()
	wantPages(p.t, p.d, p.m.lies)
	_, records, end := p.m.read()
	wantBatches(p.t, p.l, records...)
	wantRoom(p.t, p.l, 480*(p.m.n-end))
}

// wantSynced wants what was done to lie there, whatever becomes of what waits.
func (p *pair) wantSynced() {
	p.t.Helper()
	if p.d.Waiting() != 0 {
		p.t.Fatalf("%d writes wait", p.d.Waiting())
	}
	p.want()
}

func (p *pair) commit(b []byte) {
	p.t.Helper()
	l, e := p.m.commit(b)
	waits := p.d.Waiting()
	wantCommit(p.t, p.l, b, e)
	if e != api.OK {
		p.want()
		if p.d.Waiting() != waits {
			p.t.Fatalf("Commit was refused: %d writes wait, want %d", p.d.Waiting(), waits)
		}
		return
	}
	p.m.do(l)
	p.wantSynced()
}

func (p *pair) reset() {
	p.t.Helper()
	wantReset(p.t, p.l, api.OK)
	p.m.do(p.m.reset())
	p.wantSynced()
	wantBatches(p.t, p.l)
	wantRoom(p.t, p.l, 480*(p.m.n-1))
}

// reopen opens the log anew.
func (p *pair) reopen() {
	p.t.Helper()
	*p = *newPair(p.t, p.d, p.m.first, p.m.n)
}

// cutOff wants the call to end after so many calls of the disk, where these are what it tells the disk, the pages to be what is left of that, and the log that is opened then to hold what they say.
func (p *pair) cutOff(call func() api.Errno, l []told, done int, fates ...int) {
	p.t.Helper()
	p.d.Fuse(done)
	if e := call(); e != api.ErrDead {
		p.t.Fatalf("no power behind %d calls of the disk: %v", done, e)
	}
	if !p.d.Dead() {
		p.t.Fatal("the disk is not dead")
	}
	lies := p.m.cut(l, done, fates)
	p.d.Restart(fates)
	wantPages(p.t, p.d, lies)
	p.reopen()
}

// P8.1: a part of a disk that is new holds nothing, and nothing is written.
func TestOpen(t *testing.T) {
	for _, size := range []int{2, 3, 8, api.MaxPages} {
		for _, n := range []int{2, 3, size - 1, size} {
			if n < 2 || n > size {
				continue
			}
			for _, first := range []int{0, 1, (size - n) / 2, size - n} {
				if first+n > size {
					continue
				}
				d := newDisk(t, blank(size)...)
				d.Fuse(0) // a write, or a sync, would find no power
				l := open(t, d, first, n)
				wantBatches(t, l)
				wantRoom(t, l, 480*(n-1))
				if d.Dead() || d.Waiting() != 0 {
					t.Fatal("Open wrote")
				}
				d.Fuse(-1)
				wantPages(t, d, newTwin(slices.Repeat([]string{string(make([]byte, 512))}, size), 0, size).lies)
			}
		}
	}
}

// P8.1: no disk, whatever the numbers.
func TestOpenErrNil(t *testing.T) {
	for _, first := range []int{0, 1, -1, math.MinInt, math.MaxInt} {
		for _, n := range []int{0, 1, 2, 5, -1, math.MinInt, math.MaxInt} {
			wantNoOpen(t, nil, first, n, api.ErrNil)
		}
	}
}

// P8.1: a dead disk, whatever the numbers, and whatever lies there.
func TestOpenErrDead(t *testing.T) {
	for _, p := range [][]byte{make([]byte, 512), headOf(1).page(), headOf(greatest).page()} {
		for _, kill := range []func(d *disk.Disk){func(d *disk.Disk) { d.Kill() }, func(d *disk.Disk) { d.Fuse(0); d.Sync() }} {
			d := newDisk(t, p, p, p, p)
			kill(d)
			for _, first := range []int{0, 1, 3, 4, -1, math.MinInt, math.MaxInt} {
				for _, n := range []int{0, 1, 2, 4, 5, -1, math.MinInt, math.MaxInt} {
					wantNoOpen(t, d, first, n, api.ErrDead)
				}
			}
			d.Restart(nil)
			wantPages(t, d, slices.Repeat([]string{string(p)}, 4))
		}
	}
}

// P8.1: n below 2, and pages that the disk has not, ahead of what lies there.
func TestOpenErrArg(t *testing.T) {
	for _, size := range []int{1, 2, 3, 6, api.MaxPages} {
		for _, stamp := range []uint64{5, greatest} {
			d := newDisk(t, slices.Repeat([][]byte{headOf(stamp).page()}, size)...)
			for _, first := range []int{0, 1, size - 1, size, size + 1, -1, math.MinInt, math.MaxInt} {
				for _, n := range []int{1, 0, -1, -2, -size, math.MinInt, math.MinInt + 1} {
					wantNoOpen(t, d, first, n, api.ErrArg)
				}
			}
			for n := 2; n <= size+2 && n < 9; n++ {
				for _, first := range []int{-1, -2, -n, -size, size - n + 1, size - 1, size, size + 1, 1 << 32, math.MinInt, math.MinInt + 1, math.MaxInt, math.MaxInt - 1, math.MaxInt - n, math.MaxInt - n + 1} {
					wantNoOpen(t, d, first, n, api.ErrArg)
				}
			}
			for _, first := range []int{0, 1, 2, -1, math.MinInt, math.MaxInt} {
				for _, n := range []int{size + 1, size + 2, 1 << 16, 1 << 32, 1<<32 + 2, math.MaxInt, math.MaxInt - 1} {
					wantNoOpen(t, d, first, n, api.ErrArg)
				}
			}
			wantPages(t, d, slices.Repeat([]string{string(headOf(stamp).page())}, size))
		}
	}
}

// atEnds is a page with these numbers in its first and last eight bytes, which is no leaf.
func atEnds(first, last uint64) []byte {
	b := binary.BigEndian.AppendUint64(nil, first)
	b = append(b, some(3, 496)...)
	return binary.BigEndian.AppendUint64(b, last)
}

// P8.1: there is no new stamp, where the greatest number stands at either end of any page of the part; elsewhere it counts for nothing.
func TestOpenErrForm(t *testing.T) {
	for n := 2; n < 6; n++ {
		for at := range n {
			for _, p := range [][]byte{atEnds(greatest, 0), atEnds(0, greatest), atEnds(greatest, greatest), atEnds(greatest, greatest-1), atEnds(1, greatest), headOf(greatest).page()} {
				d := newDisk(t, noise(n+2)...)
				put(t, d, 1+at, p)
				was := pagesOf(t, d)
				wantNoOpen(t, d, 1, n, api.ErrForm)
				wantNoOpen(t, d, 0, n+2, api.ErrForm)
				if d.Waiting() != 0 {
					t.Fatal("Open wrote")
				}
				wantPages(t, d, was)
				for _, first := range []int{0, at, at + 2, n} {
					if first+1 < 1+at || first > 1+at && first+2 <= n+2 {
						newPair(t, d, first, 2).commit(some(1, 9))
					}
				}
			}
		}
	}
	inside := make([]byte, 512)
	for i := 8; i < 504; i++ {
		inside[i] = 255
	}
	d := newDisk(t, inside, inside)
	p := newPair(t, d, 0, 2)
	p.commit(some(1, 3))
	wantPages(t, d, []string{string(headOf(1).page()), string(leaf(2, 0, 1, some(1, 3)).page())})
}

// P8.1, P8.3, P8.4: the last stamp there is.
func TestLastStamp(t *testing.T) {
	for _, b := range [][]byte{nil, some(1, 5), some(2, 900)} {
		d := newDisk(t, headOf(7).page(), make([]byte, 512), make([]byte, 512), atEnds(greatest-1, 3))
		newPair(t, d, 0, 4).commit(b)
		wantNoOpen(t, d, 0, 4, api.ErrForm)
	}
	for _, p := range [][]byte{atEnds(greatest-1, 3), atEnds(0, greatest-1), headOf(greatest - 1).page()} {
		d := newDisk(t, p, make([]byte, 512), make([]byte, 512))
		newPair(t, d, 0, 3).reset()
		wantPages(t, d, []string{string(headOf(greatest).page()), string(make([]byte, 512)), string(make([]byte, 512))})
		wantNoOpen(t, d, 0, 3, api.ErrForm)
	}
	d := newDisk(t, atEnds(0, greatest-2), make([]byte, 512))
	newPair(t, d, 0, 2).commit(some(1, 1))
	wantPages(t, d, []string{string(headOf(greatest - 1).page()), string(leaf(greatest, 0, 1, some(1, 1)).page())})
}

// P8.3, P8.4: where the last stamp was written, or a head would take it, there is no new one, as of Open: nothing is done. No power, and no room, stand ahead of that.
func TestBehindLastStamp(t *testing.T) {
	for _, head := range []bool{true, false} {
		d := newDisk(t, make([]byte, 512), atEnds(0, greatest-1), make([]byte, 512), make([]byte, 512))
		var want [][]byte
		if head {
			put(t, d, 0, headOf(7).page())
			want = append(want, some(1, 5))
		}
		l := open(t, d, 0, 4)
		for _, b := range want {
			wantCommit(t, l, b, api.OK)
		}
		was := pagesOf(t, d)
		for _, b := range [][]byte{nil, some(2, 5), some(2, l.Room())} {
			wantCommit(t, l, b, api.ErrForm)
		}
		wantCommit(t, l, some(2, l.Room()+1), api.ErrFull)
		if head {
			wantReset(t, l, api.ErrForm)
		}
		wantBatches(t, l, want...)
		wantRoom(t, l, 480*(3-len(want)))
		wantPages(t, d, was)
		if d.Waiting() != 0 {
			t.Fatalf("%d writes wait", d.Waiting())
		}
		d.Kill()
		if head {
			wantReset(t, l, api.ErrDead)
		}
		wantCommit(t, l, nil, api.ErrDead)
		d.Restart(nil)
		wantPages(t, d, was)
		wantCommit(t, l, nil, api.ErrDead)
		if !head {
			wantReset(t, l, api.OK) // one stamp is left for it
			wantPages(t, d, append([]string{string(headOf(greatest).page())}, was[1:]...))
			wantReset(t, l, api.ErrForm)
		}
	}
}

// P8.3: a new stamp is above all that stood at either end of any page, leaf or not, when the log was opened.
func TestNewStamp(t *testing.T) {
	for _, top := range []uint64{1, 2, 254, 255, 256, 65535, 1 << 32, 1<<63 - 1, 1 << 63, greatest - 5} {
		for at := range 4 {
			for i, p := range [][]byte{atEnds(top, 0), atEnds(0, top), atEnds(top, top-1), atEnds(top-1, top), leaf(top, 2, 9, some(1, 9)).page()} {
				for _, head := range []bool{false, true} {
					if head && at == 0 {
						continue
					}
					d := newDisk(t, blank(4)...)
					put(t, d, at, p)
					stamp := top + 1
					if head {
						put(t, d, 0, headOf(1).page())
					} else {
						stamp++
					}
					l := newPair(t, d, 0, 4)
					l.commit(some(1, 481))
					got := pagesOf(t, d)
					if want := string(leaf(stamp, 1, 2, some(1, 481)[480:]).page()); got[2] != want {
						t.Fatalf("%d at %d (%d, %v): %s", top, at, i, head, unlike(got[2], want))
					}
					l.reset()
					if got, want := pagesOf(t, d)[0], string(headOf(stamp+1).page()); got != want {
						t.Fatalf("%d at %d (%d, %v): the head's %s", top, at, i, head, unlike(got, want))
					}
				}
			}
		}
	}
}

// P8.3: each call that writes takes one new stamp for its leaves, and one for a head; one that is refused takes none.
func TestStampsRise(t *testing.T) {
	d := newDisk(t, blank(8)...)
	l := open(t, d, 0, 8)
	wantCommit(t, l, make([]byte, 480*7+1), api.ErrFull)
	wantCommit(t, l, some(1, 1000), api.OK) // 1, 2
	wantCommit(t, l, make([]byte, 480*4+1), api.ErrFull)
	wantCommit(t, l, nil, api.OK)          // 3
	wantCommit(t, l, some(2, 480), api.OK) // 4
	wantCommit(t, l, some(3, 960), api.OK) // 5
	wantCommit(t, l, nil, api.ErrFull)     //
	wantPages(t, d, []string{
		string(headOf(1).page()),
		string(leaf(2, 0, 3, some(1, 1000)[:480]).page()),
		string(leaf(2, 1, 3, some(1, 1000)[480:960]).page()),
		string(leaf(2, 2, 3, some(1, 1000)[960:]).page()),
		string(leaf(3, 0, 1, nil).page()),
		string(leaf(4, 0, 1, some(2, 480)).page()),
		string(leaf(5, 0, 2, some(3, 960)[:480]).page()),
		string(leaf(5, 1, 2, some(3, 960)[480:]).page()),
	})
	wantReset(t, l, api.OK) // 6
	wantReset(t, l, api.OK) // 7
	wantCommit(t, l, some(4, 1), api.OK)
	got := pagesOf(t, d)
	if got[0] != string(headOf(7).page()) || got[1] != string(leaf(8, 0, 1, some(4, 1)).page()) {
		t.Error("the stamps behind Reset")
	}
	wantBatches(t, l, some(4, 1))
}

// P8.2, P8.3: records of all sizes about the edges, one behind the other, byte by byte, with pages beside the part.
func TestCommitSizes(t *testing.T) {
	for _, size := range []int{0, 1, 2, 479, 480, 481, 482, 959, 960, 961, 1439, 1440, 1441} {
		for _, head := range []bool{false, true} {
			d := newDisk(t, noise(14)...)
			p := newPair(t, d, 2, 10)
			if head {
				p.reset()
			}
			for i := range 4 {
				p.commit(some(i, size))
			}
			p.reopen()
			p.commit(some(9, size))
			d.Kill()
			d.Restart(nil)
			p.reopen()
		}
	}
}

// P8.3: just as many bytes as Room, one more, and none of which no page is left.
func TestCommitRoom(t *testing.T) {
	for n := 2; n < 7; n++ {
		for ahead := range n {
			d := newDisk(t, noise(n+1)...)
			p := newPair(t, d, 0, n)
			for i := range ahead {
				p.commit(some(i, 200*i%480))
			}
			room := 480 * (n - 1 - ahead)
			wantRoom(t, p.l, room)
			for _, more := range []int{1, 2, 479, 480, 481, 100000} {
				p.commit(some(5, room+more))
			}
			wantRoom(t, p.l, room)
			p.commit(some(6, room))
			wantRoom(t, p.l, 0)
			for _, size := range []int{0, 1, 480, 481} {
				p.commit(some(7, size))
			}
			p.reopen()
			p.commit(nil)
			p.reset()
			wantRoom(t, p.l, 480*(n-1))
			p.commit(some(8, 480*(n-1)))
		}
	}
}

// P8.3: what is refused is not done: no call of the disk, also where the next one would find no power.
func TestCommitErrFull(t *testing.T) {
	for _, head := range []bool{false, true} {
		d := newDisk(t, noise(4)...)
		p := newPair(t, d, 1, 2)
		if head {
			p.reset()
		}
		d.Fuse(0)
		wantCommit(t, p.l, some(1, 481), api.ErrFull)
		if d.Dead() {
			t.Fatal("a refused Commit wrote")
		}
		d.Fuse(-1)
		p.commit(some(1, 480))
		d.Fuse(0)
		wantCommit(t, p.l, nil, api.ErrFull)
		wantCommit(t, p.l, some(1, 1), api.ErrFull)
		if d.Dead() {
			t.Fatal("a refused Commit wrote")
		}
		d.Fuse(-1)
		p.want()
	}
}

// P8.2, P8.3: all the pages that a disk may have.
func TestGreatestDisk(t *testing.T) {
	d := newDisk(t, blank(api.MaxPages)...)
	p := newPair(t, d, 0, api.MaxPages)
	p.commit(some(1, 480*(api.MaxPages-1)+1))
	p.commit(some(2, 480*(api.MaxPages-1)))
	wantRoom(t, p.l, 0)
	p.commit(nil)
	p.reopen()
	p.reset()
	for i := range 20 {
		p.commit(some(i, 480*i+1))
	}
	p.reopen()
}

// P8.3: a dead disk, ahead of too many bytes and of no page that is left.
func TestCommitErrDead(t *testing.T) {
	for _, full := range []bool{false, true} {
		for _, kill := range []func(d *disk.Disk){func(d *disk.Disk) { d.Kill() }, func(d *disk.Disk) { d.Fuse(0); d.Sync() }} {
			d := newDisk(t, blank(3)...)
			l := open(t, d, 0, 3)
			if full {
				wantCommit(t, l, some(1, 960), api.OK)
			}
			was := pagesOf(t, d)
			kill(d)
			for _, b := range [][]byte{nil, some(2, 1), some(2, 480), some(2, 960), some(2, 961), some(2, 9999)} {
				wantCommit(t, l, b, api.ErrDead)
			}
			d.Restart([]int{512, 512, 512, 512})
			wantPages(t, d, was)
		}
	}
}

// P8.3: the power is here again, but a call of this log met that it had gone: whatever call that was, and however far it came.
func TestCommitMetDead(t *testing.T) {
	meets := map[string]func(l *log.Log, d *disk.Disk) api.Errno{
		"a Commit of a dead disk": func(l *log.Log, d *disk.Disk) api.Errno { d.Kill(); return l.Commit(some(2, 7)) },
		"a Commit of none":        func(l *log.Log, d *disk.Disk) api.Errno { d.Kill(); return l.Commit(nil) },
		"a Commit of too much":    func(l *log.Log, d *disk.Disk) api.Errno { d.Kill(); return l.Commit(some(2, 9999)) },
		"a Reset of a dead disk":  func(l *log.Log, d *disk.Disk) api.Errno { d.Kill(); return l.Reset() },
		"a Commit's first call":   func(l *log.Log, d *disk.Disk) api.Errno { d.Fuse(0); return l.Commit(some(2, 7)) },
		"a Commit's second call":  func(l *log.Log, d *disk.Disk) api.Errno { d.Fuse(1); return l.Commit(some(2, 7)) },
		"a Reset's first call":    func(l *log.Log, d *disk.Disk) api.Errno { d.Fuse(0); return l.Reset() },
		"a Reset's second call":   func(l *log.Log, d *disk.Disk) api.Errno { d.Fuse(1); return l.Reset() },
	}
	for name, meet := range meets {
		for _, sizes := range [][]int{nil, {1}, {480, 480}, {960}} {
			for _, fates := range [][]int{nil, {512, 512, 512}, {9, 500}} {
				d := newDisk(t, blank(6)...)
				l, other := open(t, d, 0, 3), open(t, d, 3, 3)
				for i, size := range sizes {
					wantCommit(t, l, some(i, size), api.OK)
				}
				wantCommit(t, other, some(5, 5), api.OK)
				if e := meet(l, d); !d.Dead() && e != api.ErrFull || d.Dead() && e != api.ErrDead {
					t.Fatalf("%s: %v", name, e)
				} else if e == api.ErrFull {
					continue
				}
				d.Restart(fates)
				was := pagesOf(t, d)
				for _, b := range [][]byte{nil, some(3, 1), some(3, 480), some(3, 960), some(3, 961), some(3, 9999)} {
					wantCommit(t, l, b, api.ErrDead)
				}
				wantPages(t, d, was)
				if d.Dead() || d.Waiting() != 0 {
					t.Fatalf("%s: a refused Commit wrote", name)
				}
				wantCommit(t, other, some(6, 6), api.OK) // no call of that log met it
				wantBatches(t, other, some(5, 5), some(6, 6))
				p := newPair(t, d, 0, 3)
				p.commit(some(4, 4))
				p.reset()
			}
		}
	}
}

// P8.3: that the power had gone counts for nothing, where no call of the log met it.
func TestCommitNotMetDead(t *testing.T) {
	d := newDisk(t, blank(4)...)
	p := newPair(t, d, 0, 4)
	p.commit(some(1, 10))
	for i := range 2 {
		d.Kill()
		d.Restart([]int{5})
		p.commit(some(2+i, 20))
	}
}

// P8.4: a dead disk.
func TestResetErrDead(t *testing.T) {
	for _, kill := range []func(d *disk.Disk){func(d *disk.Disk) { d.Kill() }, func(d *disk.Disk) { d.Fuse(0); d.Sync() }} {
		for _, size := range []int{-1, 10, 960} {
			d := newDisk(t, blank(3)...)
			l := open(t, d, 0, 3)
			if size >= 0 {
				wantCommit(t, l, some(1, size), api.OK)
			}
			was := pagesOf(t, d)
			kill(d)
			wantReset(t, l, api.ErrDead)
			wantReset(t, l, api.ErrDead)
			d.Restart([]int{512})
			wantPages(t, d, was)
		}
	}
}

// P8.4: a head, and no records, whatever was there: no head, a head, records, a full part.
func TestReset(t *testing.T) {
	for _, sizes := range [][]int{nil, {0}, {1}, {960}, {1, 2, 3}, {1440, 480}, {480 * 5}, {0, 0, 0, 0, 0}} {
		d := newDisk(t, noise(9)...)
		p := newPair(t, d, 2, 6)
		for round := range 3 {
			for i, size := range sizes {
				p.commit(some(round*10+i, size))
			}
			p.reset()
			if round == 1 {
				p.reset()
			}
			p.reopen()
		}
	}
}

// P8.4: a log that met that the power had gone, and has it again: a head is put, there are no records; Commit goes on to be refused, till the log is opened again.
func TestResetMetDead(t *testing.T) {
	for _, meet := range []kind{commitOf(some(7, 100)), commitOf(some(9, 900)), resetOf()} {
		for _, sizes := range [][]int{nil, {10}, {480, 480}} {
			for _, fates := range [][]int{nil, {512, 512, 512}, {512, 0, 512}, {500, 9, 512}} {
				p := newPair(t, newDisk(t, noise(8)...), 1, 6)
				for i, size := range sizes {
					p.commit(some(i, size))
				}
				was := p.l.Batches()
				told := meet.told(p)
				for done := range told {
					p := newPair(t, newDisk(t, laidOn(p.m.lies)...), 1, 6)
					p.d.Fuse(done)
					if e := meet.call(p); e != api.ErrDead {
						t.Fatalf("%s behind %d: %v", meet.name, done, e)
					}
					wantBatches(t, p.l, was...) // what it knew: a call that failed changed nothing
					p.d.Restart(fates)
					p.m.do(told[:done])
					p.m.lies = pagesOf(t, p.d)
					p.reset()
					wantCommit(t, p.l, some(3, 3), api.ErrDead)
					wantCommit(t, p.l, some(3, 3000), api.ErrDead)
					p.reset()
					p.wantSynced()
					p.reopen()
					p.commit(some(4, 4))
				}
			}
		}
	}
}

// laidOn is these pages as lists of bytes.
func laidOn(lies []string) [][]byte {
	var pages [][]byte
	for _, p := range lies {
		pages = append(pages, []byte(p))
	}
	return pages
}

// P8.5: leaves of records that were reset don't come again, however many others come in their place.
func TestResetLeavesStayAway(t *testing.T) {
	for size := 0; size < 480*4; size += 470 {
		for _, after := range []int{0, 1, 480, 481, 961} {
			d := newDisk(t, blank(12)...)
			p := newPair(t, d, 0, 12)
			for p.l.Room() > 480*4 {
				p.commit(some(p.l.Room(), size))
			}
			p.reset()
			p.commit(some(1, after))
			wantBatches(t, p.l, some(1, after))
			p.reopen()
			wantBatches(t, p.l, some(1, after))
			p.commit(some(2, 3))
			p.reset()
			p.reopen()
			wantBatches(t, p.l)
		}
	}
}

// wantRead wants a part of these pages to hold these records, and what is committed to come behind them.
func wantRead(t *testing.T, pages [][]byte, end int, want ...[]byte) {
	t.Helper()
	all := noise(len(pages) + 3)
	for i, b := range pages {
		all[1+i] = b
	}
	d := newDisk(t, all...)
	p := newPair(t, d, 1, len(pages))
	wantBatches(t, p.l, want...)
	wantRoom(t, p.l, 480*(len(pages)-end))
	p.commit(some(99, 17))
	if end < len(pages) {
		wantBatches(t, p.l, append(slices.Clone(want), some(99, 17))...)
	}
}

// three is a part of eight pages: a head, and records of one leaf, of three, of one, and of one of no bytes.
func three() []said {
	b := some(2, 1000)
	return []said{
		headOf(10), leaf(11, 0, 1, some(1, 5)), leaf(20, 0, 3, b[:480]), leaf(20, 1, 3, b[480:960]), leaf(20, 2, 3, b[960:]),
		leaf(300, 0, 1, some(3, 480)), leaf(301, 0, 1, nil), {},
	}
}

// ends are where its records begin, and the end.
var ends = []int{1, 2, 5, 6, 7}

func records() [][]byte { return [][]byte{some(1, 5), some(2, 1000), some(3, 480), nil} }

// laid is these as pages; the one that says nothing is blank.
func laid(l []said) [][]byte {
	var pages [][]byte
	for _, s := range l {
		if s.stamp == 0 && s.check == 0 && s.size == 0 {
			pages = append(pages, make([]byte, 512))
		} else {
			pages = append(pages, s.page())
		}
	}
	return pages
}

// wantEnd wants the records of three to end ahead of the one that has the page at, after that page was made another one; of the head's page, there is no head.
func wantEnd(t *testing.T, name string, at int, page []byte) {
	t.Helper()
	pages := laid(three())
	pages[at] = page
	t.Run(fmt.Sprintf("%s at %d", name, at), func(t *testing.T) {
		if at == 0 {
			wantRead(t, pages, 1)
			return
		}
		for i, end := range ends {
			if at < ends[i+1] {
				wantRead(t, pages, end, records()[:i]...)
				return
			}
		}
	})
}

// P8.2: a part that was laid by hand.
func TestRead(t *testing.T) {
	wantRead(t, laid(three()), 7, records()...)
	wantRead(t, laid(three())[:7], 7, records()...)
	wantRead(t, laid(three())[:6], 6, records()[:3]...)
	wantRead(t, laid(three())[:4], 2, records()[:1]...) // a leaf of three is wanting, because the part ends
	wantRead(t, [][]byte{headOf(1).page(), make([]byte, 512)}, 1)
	wantRead(t, [][]byte{headOf(1).page(), leaf(2, 0, 1, some(1, 480)).page()}, 2, some(1, 480))
	wantRead(t, [][]byte{headOf(1<<63 - 1).page(), leaf(1<<63, 0, 1, some(1, 480)).page(), leaf(1<<63+1, 0, 1, nil).page(), make([]byte, 512)}, 3, some(1, 480), nil)
	wantRead(t, [][]byte{headOf(255).page(), leaf(256, 0, 1, some(1, 1)).page(), leaf(65536, 0, 1, some(2, 2)).page()}, 3, some(1, 1), some(2, 2))
	wantRead(t, blank(2), 1)
	wantRead(t, noise(5), 1)
}

// P8.2: leaves that end ahead of a record's last one, and are not full, are a record, too: it ends where its leaves do.
func TestReadLeavesNotFull(t *testing.T) {
	for _, sizes := range [][]int{{0, 0}, {3, 3}, {479, 1}, {480, 0}, {0, 480}, {1, 480, 2}, {0, 0, 0, 0}} {
		pages := [][]byte{headOf(1).page()}
		var want []byte
		for i, size := range sizes {
			pages = append(pages, leaf(5, i, len(sizes), some(i, size)).page())
			want = append(want, some(i, size)...)
		}
		wantRead(t, pages, len(pages), want)
		wantRead(t, append(slices.Clone(pages), make([]byte, 512)), len(pages), want)
		wantRead(t, append(slices.Clone(pages), leaf(6, 0, 1, some(9, 9)).page(), make([]byte, 512)), len(pages)+1, want, some(9, 9))
	}
}

// P8.2: bytes of all values, also 0 at a record's end, which count.
func TestReadZeros(t *testing.T) {
	for _, b := range [][]byte{make([]byte, 1), make([]byte, 480), make([]byte, 481), append(some(1, 470), make([]byte, 15)...), bytes.Repeat([]byte{255}, 700)} {
		p := newPair(t, newDisk(t, blank(6)...), 0, 6)
		p.commit(b)
		p.commit(b)
		wantBatches(t, p.l, b, b)
		p.reopen()
		wantBatches(t, p.l, b, b)
	}
}

// P8.2: a page that is no leaf, for one thing alone.
func TestNoLeaf(t *testing.T) {
	for at, s := range three()[:7] {
		for _, put := range []uint64{1, 1 << 8, 1 << 56, 1 << 63, s.stamp} {
			wantEnd(t, "another stamp once more", at, s.with(func(s *said) { s.again = put }).page())
		}
		for i := range 8 {
			for _, put := range []uint64{1, 128, 255} {
				wantEnd(t, "another check", at, s.with(func(s *said) { s.check = put << (8 * i) }).page())
			}
		}
		for _, size := range []uint32{481, 482, 488, 495, 496, 497, 511, 512, 1 << 16, 1<<16 + 5, 1 << 31, 1<<32 - 1} {
			wantEnd(t, fmt.Sprintf("%d bytes", size), at, s.with(func(s *said) { s.size = size }).page())
			wantEnd(t, fmt.Sprintf("%d bytes, all there", size), at, s.with(func(s *said) { s.size, s.text = size, some(1, 480) }).page())
		}
		for _, place := range []int{len(s.text), len(s.text) + 1, 240, 478, 479} {
			if place < len(s.text) || place > 479 {
				continue
			}
			wantEnd(t, fmt.Sprintf("a byte that is not 0 at %d", place), at, s.with(func(s *said) {
				s.text = append(slices.Clone(s.text), make([]byte, 480-len(s.text))...)
				s.text[place] = 1
			}).page())
		}
		page := s.page()
		slices.Reverse(page[496:504])
		wantEnd(t, "a check the other way round", at, page)
		wantEnd(t, "a blank page", at, make([]byte, 512))
		wantEnd(t, "noise", at, noise(9)[8])
	}
}

// P8.2: the stamp of 0, twice, with a right check: also where no other stamp would be too great.
func TestNoLeafOfStamp0(t *testing.T) {
	for at, s := range three()[:7] {
		s.stamp = 0
		if page := s.page(); at > 0 || !bytes.Equal(page[496:504], make([]byte, 8)) {
			wantEnd(t, "the stamp 0", at, page)
		}
	}
	wantRead(t, [][]byte{headOf(0).page(), leaf(1, 0, 1, some(1, 5)).page(), leaf(2, 0, 1, some(1, 5)).page()}, 1)
	wantRead(t, [][]byte{headOf(1).page(), leaf(0, 0, 1, some(1, 5)).page(), leaf(2, 0, 1, some(1, 5)).page()}, 1)
}

// P8.2: a leaf of which any one bit is another one is none.
func TestNoLeafOfAnotherBit(t *testing.T) {
	for i, s := range []said{headOf(3), leaf(4, 0, 1, some(1, 5)), leaf(4, 0, 1, some(1, 480))} {
		for bit := range 512 * 8 {
			pages := [][]byte{headOf(3).page(), leaf(4, 0, 1, some(1, 7)).page(), leaf(5, 0, 1, some(2, 7)).page()}
			at := min(i, 1)
			pages[at] = s.page()
			pages[at][bit/8] ^= 1 << (bit % 8)
			d := newDisk(t, pages...)
			l, e := log.Open(d, 0, 3)
			if e != api.OK || len(l.Batches()) != 0 || l.Room() != 960 {
				t.Fatalf("bit %d of page %d: %v, %s", bit, at, e, brief(l.Batches()))
			}
		}
	}
}

// P8.2: a leaf on the page 0 that is no head.
func TestNoHead(t *testing.T) {
	for _, s := range []said{leaf(10, 0, 0, []byte{0}), leaf(10, 0, 0, some(1, 480)), leaf(10, 0, 1, nil), leaf(10, 1, 0, nil), leaf(10, 1, 1, nil), leaf(10, 0, 256, nil), leaf(10, 256, 0, nil), leaf(10, 0, 1, some(1, 4)), leaf(10, 65535, 65535, nil)} {
		wantEnd(t, fmt.Sprintf("%d of %d, %d bytes", s.which, s.many, s.size), 0, s.page())
	}
	for _, pages := range [][][]byte{
		{make([]byte, 512), headOf(1).page(), leaf(2, 0, 1, some(1, 5)).page(), make([]byte, 512)}, // a head, but not on the page 0
		{leaf(1, 0, 1, some(1, 5)).page(), leaf(2, 0, 1, some(2, 5)).page()},                       // records, but no head
	} {
		wantRead(t, pages, 1)
	}
}

// P8.2: leaves that end the records, though they are leaves.
func TestOtherLeaf(t *testing.T) {
	for at, s := range three()[1:7] {
		at++
		for _, which := range []int{s.which + 1, s.which + 2, s.which - 1, s.which + 256, s.which ^ 32768, 65535} {
			if which >= 0 {
				wantEnd(t, fmt.Sprintf("the number %d", which), at, leaf(s.stamp, which, s.many, s.text).page())
			}
		}
		for _, many := range []int{0, s.many + 100, s.many + 256, s.many + 32768, 65535} {
			wantEnd(t, fmt.Sprintf("of %d", many), at, leaf(s.stamp, s.which, many, s.text).page())
		}
		if s.many == 3 {
			for _, many := range []int{1, 2, 4} {
				if s.which > 0 || many != 1 {
					wantEnd(t, fmt.Sprintf("of %d", many), at, leaf(s.stamp, s.which, many, s.text).page())
				}
			}
			for _, stamp := range []uint64{s.stamp + 1, s.stamp - 1, s.stamp + 256, s.stamp + 1<<40, greatest - 9} {
				if s.which > 0 || stamp != s.stamp {
					wantEnd(t, fmt.Sprintf("the stamp %d", stamp), at, leaf(stamp, s.which, s.many, s.text).page())
				}
			}
		}
		wantEnd(t, "a head", at, headOf(s.stamp).page())
	}
	for i, at := range ends[:4] {
		ahead := three()[at-1].stamp
		s := three()[at]
		for _, stamp := range []uint64{ahead, ahead - 1, 1} {
			pages := laid(three())
			for j := at; j < ends[i+1]; j++ {
				f := three()[j]
				pages[j] = leaf(stamp, f.which, f.many, f.text).page()
			}
			t.Run(fmt.Sprintf("the stamp %d instead of %d behind %d", stamp, s.stamp, ahead), func(t *testing.T) {
				wantRead(t, pages, at, records()[:i]...)
			})
		}
	}
}

// P8.2: a record that seems to be gone does not hide that those behind it are gone, too; a leaf of a record that is longer than the part ends it.
func TestReadLonger(t *testing.T) {
	for many := 1; many < 7; many++ {
		pages := [][]byte{headOf(1).page(), leaf(2, 0, 1, some(1, 3)).page()}
		var want []byte
		for i := range many {
			b := some(i, 480)
			want = append(want, b...)
			pages = append(pages, leaf(3, i, many, b).page())
		}
		for n := 2; n < len(pages); n++ {
			wantRead(t, pages[:n], 2, some(1, 3))
		}
		wantRead(t, pages, many+2, some(1, 3), want)
		wantRead(t, append(slices.Clone(pages), leaf(4, 0, 1, nil).page()), many+3, some(1, 3), want, nil)
		wantRead(t, append(slices.Clone(pages), leaf(3, many, many, nil).page()), many+2, some(1, 3), want)
	}
}

// P8.3: without a head, one is put, and what lies behind it does not come again with it.
func TestCommitPutsHead(t *testing.T) {
	for _, first := range [][]byte{make([]byte, 512), noise(1)[0], leaf(400, 0, 1, some(1, 3)).page(), headOf(9).with(func(s *said) { s.check = 1 }).page(), atEnds(999, 5)} {
		for _, size := range []int{0, 5, 480, 481, 1000, 480 * 7} {
			pages := laid(three())
			pages[0] = first
			d := newDisk(t, append(noise(2), pages...)...)
			p := newPair(t, d, 2, 8)
			wantBatches(t, p.l)
			p.commit(some(5, size))
			wantBatches(t, p.l, some(5, size))
			if got := pagesOf(t, d)[2]; got != string(headOf(max(301, uint64(binary.BigEndian.Uint64(first)))+1).page()) {
				t.Errorf("the head is %x", got[:16])
			}
			p.reopen()
			p.commit(some(6, 1))
		}
	}
}

// P8.2 to P8.4: two logs of parts of one disk, each its own, whoever writes.
func TestTwoLogs(t *testing.T) {
	d := newDisk(t, noise(16)...)
	spans := [][2]int{{1, 4}, {5, 6}, {12, 3}}
	logs, want := make([]*log.Log, 3), make([][][]byte, 3)
	for i, s := range spans {
		logs[i] = open(t, d, s[0], s[1])
	}
	for step := range 60 {
		i := step * 7 % 3
		room := logs[i].Room()
		b := some(step, step*131%700)
		var m *twin
		if step%11 == 10 {
			m = newTwin(pagesOf(t, d), spans[i][0], spans[i][1])
			wantReset(t, logs[i], api.OK)
			m.do(m.reset())
			want[i] = nil
		} else if len(b) <= room && room > 0 {
			m = newTwin(pagesOf(t, d), spans[i][0], spans[i][1])
			wantCommit(t, logs[i], b, api.OK)
			told, _ := m.commit(b)
			m.do(told)
			want[i] = append(want[i], b)
		} else {
			m = newTwin(pagesOf(t, d), spans[i][0], spans[i][1])
			wantCommit(t, logs[i], b, api.ErrFull)
		}
		for at, p := range pagesOf(t, d) {
			if at < spans[i][0] || at >= spans[i][0]+spans[i][1] {
				if p != m.lies[at] {
					t.Fatalf("page %d beside the part: %s", at, unlike(p, m.lies[at]))
				}
			}
		}
		for j := range logs {
			wantBatches(t, logs[j], want[j]...)
			wantBatches(t, open(t, d, spans[j][0], spans[j][1]), want[j]...)
		}
	}
	for j := range want {
		if len(want[j]) == 0 {
			t.Errorf("the log %d has nothing", j)
		}
	}
}

// P8.1: a log that is opened again has what another one wrote, and goes on behind it.
func TestOpenAgain(t *testing.T) {
	d := newDisk(t, blank(9)...)
	a := newPair(t, d, 1, 7)
	a.commit(some(1, 500))
	b := newPair(t, d, 1, 7)
	wantBatches(t, b.l, some(1, 500))
	b.commit(some(2, 20))
	a.reopen()
	wantBatches(t, a.l, some(1, 500), some(2, 20))
	a.reset()
	a.commit(some(3, 30))
	b.reopen()
	wantBatches(t, b.l, some(3, 30))
	b.commit(some(4, 40))
	wantBatches(t, b.l, some(3, 30), some(4, 40))
	wantPages(t, d, b.m.lies)
}

// P8.1: a page is what the disk's row says of it, though it lies there otherwise.
func TestOpenOfWaiting(t *testing.T) {
	d := newDisk(t, blank(5)...)
	for at, p := range [][]byte{headOf(40).page(), leaf(50, 0, 1, some(1, 9)).page(), atEnds(0, 700)} {
		if e := d.Write(at, p); e != api.OK {
			t.Fatal(e)
		}
	}
	p := newPair(t, d, 0, 5)
	wantBatches(t, p.l, some(1, 9))
	p.commit(some(2, 9))
	if got, want := pagesOf(t, d)[2], string(leaf(701, 0, 1, some(2, 9)).page()); got != want {
		t.Error(unlike(got, want))
	}
}

// P8.2 to P8.4: every method of nil.
func TestNil(t *testing.T) {
	var l *log.Log
	for range 2 {
		wantBatches(t, l)
		wantRoom(t, l, 0)
		for _, b := range [][]byte{nil, {}, some(1, 5), some(1, 5000)} {
			wantCommit(t, l, b, api.ErrNil)
		}
		wantReset(t, l, api.ErrNil)
	}
}

// R1: a log that no call answered: nothing panics, and nothing is there.
func TestZeroLog(t *testing.T) {
	l := new(log.Log)
	for range 2 {
		wantBatches(t, l)
		wantRoom(t, l, 0)
		for _, b := range [][]byte{nil, some(1, 5), some(1, 5000)} {
			if l.Commit(b) == api.OK {
				t.Fatal("Commit with no disk")
			}
		}
		if l.Reset() == api.OK {
			t.Fatal("Reset with no disk")
		}
	}
}

// R3: what Commit was given is not kept, and what Batches answers is memory of its own.
func TestMemory(t *testing.T) {
	d := newDisk(t, blank(8)...)
	l := open(t, d, 0, 8)
	var want [][]byte
	for i, size := range []int{5, 480, 700, 0} {
		want = append(want, some(i, size))
		mine := some(i, size)
		if e := l.Commit(mine); e != api.OK {
			t.Fatal(e)
		}
		clear(mine)
		wantBatches(t, l, want...)
	}
	for range 2 {
		was := pagesOf(t, d)
		one, other := l.Batches(), l.Batches()
		for i := range one {
			b := one[i][:cap(one[i])]
			for j := range b {
				b[j] ^= 255
			}
			one[i] = append(one[i], "more"...)
			for j := i + 1; j < len(one); j++ {
				if !bytes.Equal(one[j], want[j]) {
					t.Fatalf("record %d changed with record %d", j, i)
				}
			}
		}
		clear(one[:cap(one)])
		if !same(other, want) {
			t.Fatalf("an answer changed with another one: %s", brief(other))
		}
		wantBatches(t, l, want...)
		wantPages(t, d, was)
		kept := l.Batches()
		wantReset(t, l, api.OK)
		wantCommit(t, l, some(9, 2000), api.OK)
		if !same(kept, want) {
			t.Fatalf("an answer changed behind a Reset: %s", brief(kept))
		}
		wantReset(t, l, api.OK)
		for _, b := range want {
			wantCommit(t, l, b, api.OK)
		}
		l = open(t, d, 0, 8)
	}
}

// R2: logs of two disks are apart.
func TestDisksApart(t *testing.T) {
	a, b := newPair(t, newDisk(t, blank(4)...), 0, 4), newPair(t, newDisk(t, blank(4)...), 0, 4)
	a.commit(some(1, 9))
	b.want()
	b.commit(some(2, 9))
	b.commit(some(3, 9))
	a.want()
	a.d.Kill()
	wantCommit(t, a.l, nil, api.ErrDead)
	b.commit(some(4, 9))
	b.reset()
}

// rows are what may become of so many writes: nothing, all, each of the places at which a page may be cut, for one write and for several.
func rows(writes int) [][]int {
	rows := [][]int{nil, slices.Repeat([]int{512}, writes)}
	for _, n := range []int{1, 6, 7, 8, 9, 11, 12, 16, 17, 250, 495, 496, 497, 500, 503, 504, 505, 510, 511} {
		rows = append(rows, slices.Repeat([]int{n}, writes))
		for at := range writes {
			one, but := make([]int, writes), slices.Repeat([]int{512}, writes)
			one[at], but[at] = n, n
			rows = append(rows, one, but)
		}
	}
	for at := range writes {
		one, but := make([]int, writes), slices.Repeat([]int{512}, writes)
		one[at], but[at] = 512, 0
		rows = append(rows, one, but)
	}
	return rows
}

// waiting is how many writes wait behind these calls.
func waiting(l []told) int {
	n := 0
	for _, w := range l {
		n++
		if w.at < 0 {
			n = 0
		}
	}
	return n
}

// kind is a call that the power may go in, and what the records may be then beside those that were there.
type kind struct {
	name string
	call func(p *pair) api.Errno
	told func(p *pair) []told
	then func(was [][]byte) [][]byte
}

func commitOf(b []byte) kind {
	return kind{
		fmt.Sprintf("Commit(%d bytes)", len(b)),
		func(p *pair) api.Errno { return p.l.Commit(b) },
		func(p *pair) []told { l, _ := p.m.commit(b); return l },
		func(was [][]byte) [][]byte { return append(slices.Clone(was), b) },
	}
}

func resetOf() kind {
	return kind{
		"Reset",
		func(p *pair) api.Errno { return p.l.Reset() },
		func(p *pair) []told { return p.m.reset() },
		func([][]byte) [][]byte { return nil },
	}
}

// starts are parts of six pages, from page 1 of a disk of eight on: new, with no head, with a head alone, with records, with leaves of records that were reset, with old heads whose stamps have other bytes that are like those of the next one.
func starts(t *testing.T) map[string]func() *disk.Disk {
	by := func(pages ...[]byte) func() *disk.Disk {
		return func() *disk.Disk {
			all := append(noise(1), pages...)
			return newDisk(t, append(all, noise(8-len(all))...)...)
		}
	}
	old := func(head, stamp uint64) func() *disk.Disk {
		pages := [][]byte{headOf(head).page()}
		for i := range 5 {
			pages = append(pages, leaf(stamp+uint64(i), 0, 1, some(20+i, 40)).page())
		}
		return by(pages...)
	}
	return map[string]func() *disk.Disk{
		"new":                      by(blank(6)...),
		"noise":                    by(noise(6)...),
		"a head":                   by(headOf(255).page(), blank(1)[0]),
		"a record":                 by(headOf(1).page(), leaf(2, 0, 1, some(1, 30)).page(), blank(1)[0]),
		"records":                  by(headOf(1).page(), leaf(254, 0, 1, some(1, 30)).page(), leaf(255, 0, 1, some(2, 480)).page(), noise(3)[2]),
		"reset":                    old(65535, 100),
		"reset, a page longer ago": old(255, 251),
		"leaves, but no head":      by(noise(1)[0], leaf(2, 0, 1, some(1, 30)).page(), leaf(3, 0, 2, some(2, 480)).page(), leaf(3, 1, 2, some(2, 480)).page(), leaf(4, 0, 1, nil).page()),
		"a torn record":            by(headOf(1).page(), leaf(2, 0, 1, some(1, 30)).page(), leaf(3, 1, 3, some(2, 480)).page(), leaf(3, 1, 3, some(2, 480)).page(), leaf(3, 2, 3, some(2, 40)).page()),
	}
}

// P8.5: a countdown of each number, in each kind of call, ahead of each kind of part, whatever becomes of the row: the pages are what is left of what was told the disk, the records are those that were there, or those that the call comes to, and what is done behind it stands.
func TestPowerGoes(t *testing.T) {
	kinds := []kind{commitOf(nil), commitOf(some(7, 100)), commitOf(some(8, 480)), commitOf(some(9, 1000)), resetOf()}
	for name, start := range starts(t) {
		for _, k := range kinds {
			told := k.told(newPair(t, start(), 1, 6))
			for done := range told {
				for _, fates := range rows(waiting(told[:done])) {
					p := newPair(t, start(), 1, 6)
					was := p.l.Batches()
					p.cutOff(func() api.Errno { return k.call(p) }, told, done, fates...)
					wantEither(p, fmt.Sprintf("%s, %s, cut behind %d, %v", name, k.name, done, fates), was, k.then(was))
					wantGoesOn(p)
				}
			}
			p := newPair(t, start(), 1, 6)
			was := p.l.Batches()
			p.d.Fuse(len(told))
			if e := k.call(p); e != api.OK || p.d.Dead() {
				t.Fatalf("%s, %s, with power for %d calls: %v", name, k.name, len(told), e)
			}
			p.d.Kill()
			p.d.Restart(nil)
			p.reopen()
			wantBatches(t, p.l, k.then(was)...)
		}
	}
}

// wantEither wants the records to be these, or those.
func wantEither(p *pair, name string, these, those [][]byte) {
	p.t.Helper()
	if got := p.l.Batches(); !same(got, these) && !same(got, those) {
		p.t.Fatalf("%s: %s, want %s or %s", name, brief(got), brief(these), brief(those))
	}
}

// wantGoesOn wants a record to stand behind those that are there, and a Reset to let there be none.
func wantGoesOn(p *pair) {
	p.t.Helper()
	was := p.l.Batches()
	if p.l.Room() > 0 {
		p.commit(some(50, 33))
		was = append(was, some(50, 33))
	}
	p.reopen()
	wantBatches(p.t, p.l, was...)
	p.reset()
	p.reopen()
	p.commit(some(51, 34))
	wantBatches(p.t, p.l, some(51, 34))
}

// P8.5: power that goes again, and again, in the first calls behind each start.
func TestPowerGoesAgain(t *testing.T) {
	fates := [][]int{nil, {512, 512, 512}, {7, 512, 8}, {512, 8, 511}, {500, 0, 512}}
	for _, first := range []kind{commitOf(some(9, 1000)), resetOf()} {
		for _, second := range []kind{commitOf(some(10, 700)), resetOf()} {
			for i := range 3 * 5 * 5 * 5 {
				p := newPair(t, starts(t)["a record"](), 1, 6)
				for turn, k := range []kind{first, second, first} {
					if p.l.Room() < 1000 {
						p.reset()
					}
					told, was := k.told(p), p.l.Batches()
					done := min(i%3+turn%2, len(told)-1)
					p.cutOff(func() api.Errno { return k.call(p) }, told, done, fates[(i/3+turn*(i/15))%5]...)
					wantEither(p, k.name, was, k.then(was))
				}
				wantGoesOn(p)
			}
		}
	}
}

// P8.5: the numbers of a stamp that was torn may be greater than all stamps: those behind it are greater still.
func TestTornStamp(t *testing.T) {
	d := newDisk(t, headOf(1).page(), leaf(254, 0, 1, some(1, 3)).page(), leaf(255, 0, 1, some(2, 3)).page(), make([]byte, 512))
	l := open(t, d, 0, 4)
	wantReset(t, l, api.OK) // 256
	wantCommit(t, l, some(3, 3), api.OK)
	put(t, d, 0, headOf(255).page())
	l = open(t, d, 0, 4)
	d.Fuse(1)
	wantReset(t, l, api.ErrDead) // 258, of which seven bytes are left: 01, and 255
	d.Restart([]int{7})
	l = open(t, d, 0, 4)
	wantBatches(t, l)
	wantCommit(t, l, some(4, 4), api.OK)
	if got, want := pagesOf(t, d)[0], string(headOf(512).page()); got != want {
		t.Error(unlike(got, want))
	}
	wantBatches(t, l, some(4, 4))
}

// P8.5: what is told the disk, call by call: a head is synced ahead of the leaves, these wait for one sync, in their order.
func TestCallsOfDisk(t *testing.T) {
	b := some(1, 1000)
	waits := []int{0, 1, 0, 1, 2, 3}
	for done, waiting := range waits {
		d := newDisk(t, blank(5)...)
		l := open(t, d, 0, 5)
		d.Fuse(done)
		wantCommit(t, l, b, api.ErrDead)
		if d.Waiting() != waiting {
			t.Errorf("behind %d calls %d writes wait, want %d", done, d.Waiting(), waiting)
		}
		d.Restart([]int{512, 512, 512})
		want := []string{string(headOf(1).page()), string(leaf(2, 0, 3, b[:480]).page()), string(leaf(2, 1, 3, b[480:960]).page()), string(leaf(2, 2, 3, b[960:]).page()), string(make([]byte, 512))}
		pages := []int{0, 1, 1, 2, 3, 4}[done]
		for at := pages; at < 5; at++ {
			want[at] = string(make([]byte, 512))
		}
		wantPages(t, d, want)
	}
	d := newDisk(t, blank(5)...)
	l := open(t, d, 0, 5)
	d.Fuse(len(waits))
	wantCommit(t, l, b, api.OK)
	d.Fuse(2)
	wantReset(t, l, api.OK)
	d.Fuse(2)
	wantCommit(t, l, nil, api.OK)
	d.Fuse(1)
	wantCommit(t, l, nil, api.ErrDead)
}

// anyActs does what the bytes say to a log of a part of a small disk, and wants it to be as the twin says all along.
func anyActs(t *testing.T, b []byte) {
	next := func(n int) int {
		if len(b) == 0 {
			return 0
		}
		v := int(b[0])
		b = b[1:]
		return v % n
	}
	size := 2 + next(7)
	n := 2 + next(size-1)
	first := next(size - n + 1)
	d := newDisk(t, blank(size)...)
	p := newPair(t, d, first, n)
	bytesOf := func() []byte { return some(next(256), next(4)*480+next(3)*next(240)) }
	for len(b) > 0 {
		var k kind
		switch next(9) {
		case 0:
			p.reset()
			continue
		case 1, 2:
			p.commit(bytesOf())
			continue
		case 3:
			p.reopen()
			continue
		case 4:
			handWrites(t, p, next)
			continue
		case 5, 6:
			k = resetOf()
		default:
			k = commitOf(bytesOf())
		}
		l := k.told(p)
		if len(l) == 0 {
			continue
		}
		var fates []int
		for range next(5) {
			fates = append(fates, next(9)*64+next(3)-1+513)
		}
		was := p.l.Batches()
		p.cutOff(func() api.Errno { return k.call(p) }, l, next(len(l)), fates...)
		wantEither(p, k.name, was, k.then(was))
	}
}

// handWrites lays a page of the part by hand: a leaf that may fit, or a torn one.
func handWrites(t *testing.T, p *pair, next func(n int) int) {
	at := next(p.m.n)
	page := leaf(uint64(next(40)), next(3), next(4), some(next(9), next(3)*240)).page()
	if next(3) == 0 {
		old := p.m.lies[p.m.first+at]
		cut := next(9) * 64
		page = append(page[:cut:cut], old[cut:]...)
	}
	put(t, p.d, p.m.first+at, page)
	p.reopen()
}

// P8.1 to P8.5: long rows of any acts.
func TestAnyActs(t *testing.T) {
	chance := rand.New(rand.NewSource(8))
	for range 600 {
		b := make([]byte, 300)
		chance.Read(b)
		anyActs(t, b)
	}
}

// All promises, of any acts.
func FuzzLog(f *testing.F) {
	f.Add([]byte{4, 3, 1, 1, 7, 2, 1, 9, 8, 5, 1, 2, 200, 3, 8, 0, 8, 0, 2, 0})
	f.Add([]byte{6, 5, 0, 4, 0, 9, 0, 0, 0, 0, 1, 4, 1, 12, 0, 1, 3, 1, 1, 2, 1, 2})
	f.Fuzz(func(t *testing.T, b []byte) { anyActs(t, b[:min(len(b), 400)]) })
}

// The chapter's examples.
func TestExamples(t *testing.T) {
	d := newDisk(t, blank(4)...)
	l := open(t, d, 0, 4)
	wantRoom(t, l, 1440)
	wantCommit(t, l, []byte("abc"), api.OK)
	wantBatches(t, l, []byte("abc"))
	wantRoom(t, l, 960)

	wantCommit(t, l, some(1, 960), api.OK)
	wantCommit(t, l, nil, api.ErrFull)
	wantReset(t, l, api.OK)
	wantBatches(t, l)
	wantRoom(t, l, 1440)

	wantNoOpen(t, d, 1, 4, api.ErrArg)
	wantNoOpen(t, d, 0, 1, api.ErrArg)
}

// The chapter's first example, told.
func Example() {
	d, _ := disk.New(4)
	l, e := log.Open(d, 0, 4)
	fmt.Println("Open", int(e))
	fmt.Println("Room", l.Room())
	fmt.Println("Commit", int(l.Commit([]byte("abc"))))
	fmt.Printf("Batches %q\n", l.Batches())
	fmt.Println("Room", l.Room())
	// Output:
	// Open 0
	// Room 1440
	// Commit 0
	// Batches ["abc"]
	// Room 960
}
