package store_test

import (
	"bytes"
	"encoding/binary"
	"fmt"
	"math"
	"slices"
	"strings"
	"testing"

	"outrider/api"
	"outrider/disk"
	"outrider/store"
)

// What is wanted here leans on how this store lays its records, and on which area it begins with, which the chapter leaves to it. (Of a store that lays them otherwise none of it is wanted.)

// The kinds of records, as they are laid by hand.
const (
	wholeKind   = 1
	promiseKind = 2
	adoptKind   = 3
	appendKind  = 4
)

// rec is a record of a kind and of these numbers.
func rec(kind byte, numbers ...uint64) []byte {
	b := []byte{kind}
	for _, n := range numbers {
		b = binary.BigEndian.AppendUint64(b, n)
	}
	return b
}

// with is a record of these lines, too.
func with(record []byte, l ...api.Line) []byte {
	b := binary.BigEndian.AppendUint64(slices.Clone(record), uint64(len(l)))
	for _, one := range l {
		b = binary.BigEndian.AppendUint64(b, one.Epoch)
		b = binary.BigEndian.AppendUint32(b, uint32(len(one.Bytes)))
		b = append(b, one.Bytes...)
	}
	return b
}

// ownLayout lets a test be passed over, where another store lays its records otherwise.
func ownLayout(t *testing.T) {
	t.Helper()
	n := newNode(t, 8, promise(3))
	if got := areaOf(t, n.d, 0); len(got) != 1 || !bytes.Equal(got[0], rec(2, 3)) {
		t.Skip("records are laid otherwise")
	}
}

func wantRecords(t *testing.T, d *disk.Disk, area int, want ...[]byte) {
	t.Helper()
	if got := areaOf(t, d, area); !slices.EqualFunc(got, want, bytes.Equal) {
		t.Fatalf("area %d: %x, want %x", area, got, want)
	}
}

// laid is a disk with these records in its areas.
func laid(t *testing.T, pages int, areas ...[][]byte) *disk.Disk {
	t.Helper()
	d := newDisk(t, pages)
	for i, records := range areas {
		for _, b := range records {
			commit(t, d, i*(pages/2), pages/2, b)
		}
	}
	return d
}

// A record for each call, and the other area with all that is kept, when one of them is full; the older area stays till its turn comes again.
func TestRecords(t *testing.T) {
	ownLayout(t)
	n := newNode(t, 8, promise(3), adopt(5, lines(2, 3, 4)...), add(lines(5, 6)...))
	first := [][]byte{rec(promiseKind, 3), with(rec(adoptKind, 5), lines(2, 3, 4)...), with(rec(appendKind), lines(5, 6)...)}
	wantRecords(t, n.d, 0, first...)
	wantRecords(t, n.d, 1)
	n.do(promise(7))
	k := n.k.Lines
	second := [][]byte{with(rec(wholeKind, 7, 5), k...), rec(promiseKind, 8), rec(promiseKind, 9)}
	wantRecords(t, n.d, 0, first...)
	wantRecords(t, n.d, 1, second[0])
	n.do(promise(8), promise(9))
	wantRecords(t, n.d, 0, first...)
	wantRecords(t, n.d, 1, second...)
	n.do(adopt(10))
	wantRecords(t, n.d, 0, with(rec(wholeKind, 10, 10)))
	wantRecords(t, n.d, 1, second...)
	n.do(add(lines(10, 481)...)) // of two leaves: no page is left
	n.do(promise(11))
	wantRecords(t, n.d, 0, with(rec(wholeKind, 10, 10)), with(rec(appendKind), lines(10, 481)...))
	wantRecords(t, n.d, 1, with(rec(wholeKind, 11, 10), lines(10, 481)...))
}

// An area that was begun anew, and lost its power ahead of its first record, is none: the older one goes on, and the power may go there as often as it will.
func TestAreaBegunInVain(t *testing.T) {
	ownLayout(t)
	n := newNode(t, 8, promise(1), promise(2), promise(3))
	full := areaOf(t, n.d, 0)
	for range 5 {
		for cut := range 4 {
			n.cut(promise(4), cut, nil)
			wantRecords(t, n.d, 0, full...)
			wantRecords(t, n.d, 1)
		}
	}
	n.do(promise(4))
	wantRecords(t, n.d, 0, full...)
	wantRecords(t, n.d, 1, rec(wholeKind, 4, 0, 0))
}

// kept is short for what is kept.
func kept(promised, current uint64, l ...api.Line) store.Kept {
	return store.Kept{Promised: promised, Current: current, Lines: l}
}

// Records that were laid by hand come to what they say, in either area.
func TestReadRecords(t *testing.T) {
	ownLayout(t)
	for _, c := range []struct {
		records [][]byte
		want    store.Kept
	}{
		{[][]byte{rec(promiseKind, 1)}, kept(1, 0)},
		{[][]byte{rec(promiseKind, most)}, kept(most, 0)},
		{[][]byte{with(rec(adoptKind, 1))}, kept(1, 1)},
		{[][]byte{with(rec(adoptKind, most), lines(most, 1)...)}, kept(most, most, lines(most, 1)...)},
		{[][]byte{with(rec(wholeKind, 4, 0))}, kept(4, 0)},
		{[][]byte{with(rec(wholeKind, 4, 4))}, kept(4, 4)},
		{[][]byte{with(rec(wholeKind, 4, 3), lines(3, 5, 6)...)}, kept(4, 3, lines(3, 5, 6)...)},
		{[][]byte{with(rec(wholeKind, 4, 4), lines(2, 5, 6)...), with(rec(appendKind), lines(4, 7)...), rec(promiseKind, 9)}, kept(9, 4, append(lines(2, 5, 6), lines(4, 7)...)...)},
		{[][]byte{rec(promiseKind, 4), rec(promiseKind, 5), with(rec(adoptKind, 5), lines(1, 9)...)}, kept(5, 5, lines(1, 9)...)},
		{[][]byte{with(rec(adoptKind, 4), lines(1, 9)...), with(rec(adoptKind, 5), lines(2, 3)...)}, kept(5, 5, lines(2, 3)...)},
		{[][]byte{with(rec(adoptKind, 4), lines(1, 1360)...)}, kept(4, 4, lines(1, 1360)...)},
	} {
		for area := range 2 {
			areas := make([][][]byte, 2)
			areas[area] = c.records
			d := laid(t, 8, areas...)
			n := &node{t: t, d: d, s: open(t, d), k: c.want}
			n.want()
			n.goOn()
		}
	}
}

// Of two areas the later one counts, by the epoch that was promised, by the current one, by how many lines there are.
func TestLaterArea(t *testing.T) {
	ownLayout(t)
	for _, c := range []struct {
		older, later [][]byte
		want         store.Kept
	}{
		{[][]byte{rec(promiseKind, 2)}, [][]byte{rec(promiseKind, 3)}, kept(3, 0)},
		{[][]byte{rec(promiseKind, 255)}, [][]byte{rec(promiseKind, 256)}, kept(256, 0)},
		{[][]byte{rec(promiseKind, 5)}, [][]byte{with(rec(adoptKind, 5))}, kept(5, 5)},
		{[][]byte{with(rec(wholeKind, 5, 3), lines(2, 4, 5)...)}, [][]byte{with(rec(wholeKind, 5, 4))}, kept(5, 4)},
		{[][]byte{with(rec(wholeKind, 5, 4), lines(2, 4, 5)...)}, [][]byte{with(rec(wholeKind, 6, 4))}, kept(6, 4)},
		{[][]byte{with(rec(adoptKind, 5), lines(2, 4)...)}, [][]byte{with(rec(wholeKind, 5, 5), lines(2, 4, 5)...)}, kept(5, 5, lines(2, 4, 5)...)},
		{[][]byte{with(rec(adoptKind, 5), lines(2, 4)...)}, [][]byte{with(rec(wholeKind, 5, 5), lines(2, 4)...), with(rec(appendKind), lines(5, 9)...)}, kept(5, 5, append(lines(2, 4), lines(5, 9)...)...)},
	} {
		for _, areas := range [][][][]byte{{c.older, c.later}, {c.later, c.older}} {
			d := laid(t, 8, areas...)
			n := &node{t: t, d: d, s: open(t, d), k: c.want}
			n.want()
			n.goOn()
		}
	}
}

// Records that no store writes, in either area, alone or beside a store's.
func TestNoRecords(t *testing.T) {
	ownLayout(t)
	adopted := with(rec(adoptKind, 3), lines(2, 5)...)
	rows := map[string][][]byte{
		"no bytes":                         {nil},
		"kind 0":                           {rec(0, 3)},
		"kind 5":                           {rec(5, 3)},
		"kind 255":                         {rec(255, 3)},
		"promise 0":                        {rec(promiseKind, 0)},
		"promise above MaxNumber":          {rec(promiseKind, most+1)},
		"promise of the greatest number":   {rec(promiseKind, math.MaxUint64)},
		"promise twice":                    {rec(promiseKind, 3), rec(promiseKind, 3)},
		"promise less":                     {rec(promiseKind, 3), rec(promiseKind, 2)},
		"promise what was adopted":         {adopted, rec(promiseKind, 3)},
		"promise without its number":       {{promiseKind}},
		"promise of half a number":         {rec(promiseKind, 3)[:5]},
		"promise with a byte more":         {append(rec(promiseKind, 3), 0)},
		"adopt 0":                          {with(rec(adoptKind, 0))},
		"adopt above MaxNumber":            {with(rec(adoptKind, most+1))},
		"adopt less than promised":         {rec(promiseKind, 3), with(rec(adoptKind, 2))},
		"adopt twice":                      {adopted, with(rec(adoptKind, 3))},
		"adopt a line of the epoch 0":      {with(rec(adoptKind, 3), lines(0, 5)...)},
		"adopt a line of a later epoch":    {with(rec(adoptKind, 3), lines(1, 5)[0], lines(4, 5)[0])},
		"adopt a line of no bytes":         {with(rec(adoptKind, 3), lines(1, 5, 0)...)},
		"adopt with a byte more":           {append(bytes.Clone(adopted), 0)},
		"adopt with a byte less":           {adopted[:len(adopted)-1]},
		"adopt without a count":            {rec(adoptKind, 3)},
		"adopt more lines than there are":  {rec(adoptKind, 3, 1)},
		"adopt fewer lines":                {append(rec(adoptKind, 3, 0), adopted[17:]...)},
		"adopt a count of 2^63":            {rec(adoptKind, 3, 1<<63)},
		"adopt more than there is room":    {with(rec(adoptKind, 3), lines(1, 1361)...)},
		"append first":                     {with(rec(appendKind), lines(1, 5)...)},
		"append to no lines' epoch":        {rec(promiseKind, 3), with(rec(appendKind), lines(3, 5)...)},
		"append none":                      {adopted, with(rec(appendKind))},
		"append lines of another epoch":    {adopted, with(rec(appendKind), lines(2, 5)...)},
		"append a line of no bytes":        {adopted, with(rec(appendKind), lines(3, 0)...)},
		"append with a byte more":          {adopted, append(with(rec(appendKind), lines(3, 5)...), 7)},
		"append more than there is room":   {with(rec(adoptKind, 3), lines(2, 900)...), with(rec(appendKind), lines(3, 445)...)},
		"whole of nothing":                 {with(rec(wholeKind, 0, 0))},
		"whole of lines alone":             {with(rec(wholeKind, 3, 0), lines(1, 5)...)},
		"whole with lines of the epoch 0":  {with(rec(wholeKind, 3, 0), lines(0, 5)...)},
		"whole with a later current one":   {with(rec(wholeKind, 3, 4))},
		"whole with no epoch promised":     {with(rec(wholeKind, 0, 4))},
		"whole above MaxNumber":            {with(rec(wholeKind, most+1, 4))},
		"whole with lines of later ones":   {with(rec(wholeKind, 5, 4), lines(5, 5)...)},
		"whole behind a promise":           {rec(promiseKind, 3), with(rec(wholeKind, 4, 0))},
		"whole behind a promise of 1":      {rec(promiseKind, 1), with(rec(wholeKind, 4, 0))},
		"whole twice":                      {with(rec(wholeKind, 4, 0)), with(rec(wholeKind, 5, 0))},
		"whole with a byte more":           {append(with(rec(wholeKind, 4, 0)), 0)},
		"whole with a byte less":           {with(rec(wholeKind, 4, 0))[:24]},
		"whole of more than there is room": {with(rec(wholeKind, 4, 4), lines(1, 1361)...)},
	}
	for name, records := range rows {
		t.Run(name, func(t *testing.T) {
			for area := range 2 {
				areas := make([][][]byte, 2)
				areas[area] = records
				(&node{t: t, d: laid(t, 8, areas...)}).wantNoStore()
				areas[1-area] = [][]byte{rec(promiseKind, 9)}
				(&node{t: t, d: laid(t, 8, areas...)}).wantNoStore()
			}
		})
	}
	for _, records := range [][][]byte{
		{with(rec(adoptKind, 3), many(1, 257, 1)...)},
		{with(rec(adoptKind, 3), many(1, 200, 1)...), with(rec(appendKind), many(3, 57, 1)...)},
		{with(rec(adoptKind, 3), lines(1, 4097)...)},
		{rec(255, 3), rec(promiseKind, 3)}, // ahead of others
		{rec(promiseKind, 3), rec(255, 3), rec(promiseKind, 4)},
	} {
		(&node{t: t, d: laid(t, 64, records)}).wantNoStore()
	}
	d := laid(t, 64, [][]byte{with(rec(adoptKind, 3), many(1, 200, 1)...), with(rec(appendKind), many(3, 56, 1)...)})
	wantKept(t, open(t, d), kept(3, 3, append(many(1, 200, 1), many(3, 56, 1)...)...))
}

// A store that no call answered: nothing panics, and nothing is there.
func TestZeroStore(t *testing.T) {
	ownLayout(t)
	s := new(store.Store)
	for range 2 {
		wantKept(t, s, store.Kept{})
		wantDead(t, s, false)
		for _, a := range []act{promise(0), promise(1), adopt(1, lines(1, 5)...), add(), add(lines(1, 5)...)} {
			if a.do(t, s) == api.OK {
				t.Fatalf("%s with no disk", a.name)
			}
		}
	}
}

// Two areas of which neither is later: no store writes them.
func TestNoLaterArea(t *testing.T) {
	ownLayout(t)
	for _, areas := range [][][][]byte{
		{{rec(promiseKind, 1)}, {rec(promiseKind, 1)}},
		{{rec(promiseKind, 3)}, {rec(promiseKind, 3)}},
		{{rec(promiseKind, 3)}, {with(rec(wholeKind, 3, 0))}},
		{{with(rec(adoptKind, 3), lines(1, 5)...)}, {with(rec(adoptKind, 3), lines(2, 6)...)}},
	} {
		(&node{t: t, d: laid(t, 8, areas...)}).wantNoStore()
	}
}

// A page of other bytes, wherever in either half, is no store's: also beside what a store wrote.
func TestForeignPages(t *testing.T) {
	ownLayout(t)
	text := func(at int, s string) string {
		return strings.Repeat("\x00", at) + s + strings.Repeat("\x00", 512-at-len(s))
	}
	pages := map[string]string{
		"a text":         text(0, "this is no store"),
		"a short text":   text(0, "no"),
		"a first byte":   text(0, "\x01"),
		"a later text":   text(8, "no store"),
		"a late byte":    text(511, "\x01"),
		"any bytes":      string(some(3, 512)),
		"the stamp 0":    text(8, "\x00\x00\x00\x01"),
		"too many bytes": text(7, "\x01\x00\x00\x00\x01\x00\x00\x02\x00"),
		"most bytes":     text(7, "\x01\x00\x00\x00\x01\x80\x00\x00\x00"),
		"a great stamp":  text(0, "\x01\x00\x00\x00\x00\x00\x00\x00\x00\x00\x00\x01"),
		"a great end":    text(7, "\x01")[:504] + "\x01\x00\x00\x00\x00\x00\x00\x00",
	}
	for b := 1; b < 256; b++ {
		pages[fmt.Sprintf("%d all over", b)] = all(byte(b))
	}
	for name, page := range pages {
		t.Run(name, func(t *testing.T) {
			for at := range 8 {
				n := newNode(t, 9)
				put(t, n.d, at, page)
				n.wantNoStore()
				n = newNode(t, 9, promise(3), promise(4))
				put(t, n.d, at, page)
				n.wantNoStore()
			}
			n := newNode(t, 9)
			put(t, n.d, 8, page) // of no area
			n.reopen()
		})
	}
}

// A page that a loss of power may have left is no other one: what begins with a stamp, and has bytes of leaves behind it.
func TestTornPages(t *testing.T) {
	ownLayout(t)
	stamp, greatest := "\x00\x00\x00\x00\x00\x00\x01\x01", "\x00\xff\xff\xff\xff\xff\xff\xfe"
	for name, page := range map[string]string{
		"a stamp alone":        stamp + strings.Repeat("\x00", 504),
		"of many":              stamp + "\x07\xff\x07\xff\x00\x00\x01\xe0" + strings.Repeat("\x01", 488) + stamp,
		"bytes of two numbers": stamp + "\x00\x00\x00\x01\x00\x00\x01\xff" + strings.Repeat("\xff", 488) + "\x00\x00\x00\x00\x00\x00\xff\xff",
		"a great stamp":        greatest + strings.Repeat("\x01", 2) + strings.Repeat("\x00", 494) + stamp,
		"a great stamp behind": stamp + strings.Repeat("\x01", 2) + strings.Repeat("\x00", 494) + greatest,
	} {
		t.Run(name, func(t *testing.T) {
			for at := range 8 {
				n := newNode(t, 8)
				put(t, n.d, at, page)
				n.reopen()
				if !strings.HasPrefix(name, "a great") { // there are none above it
					n.goOn()
				}
			}
		})
	}
}
