package store

import (
	"outrider/api"
	"outrider/wire"
)

// Kinds of records, which are their first bytes.
const (
	wholeKind byte = iota + 1
	promiseKind
	adoptKind
	appendKind
)

// record is one that is being read.
type record struct{ *wire.Reader }

// readers answers what reads each kind of record, behind its first byte.
func readers() map[byte]func(record) deed {
	return map[byte]func(record) deed{
		wholeKind:   record.whole,
		promiseKind: record.promise,
		adoptKind:   record.adopt,
		appendKind:  record.added,
	}
}

// deedOf answers what a record says was done.
func deedOf(b []byte) deed {
	r := record{wire.New(b)}
	read, ok := readers()[r.Byte()]
	throwIf(!ok, api.ErrForm)
	d := read(r)
	throwIf(r.Done() != api.OK, api.ErrForm)
	return d
}

func (r record) whole() deed {
	return becoming(Kept{Promised: r.Uint(), Current: r.Uint(), Lines: r.lines()})
}

func (r record) promise() deed { return promising(r.Uint()) }

func (r record) adopt() deed { return adopting(r.Uint(), r.lines()) }

func (r record) added() deed { return appending(r.lines()) }

func (r record) lines() []api.Line {
	var l []api.Line
	for range r.Count(api.MaxLog) {
		l = append(l, api.Line{Epoch: r.Uint(), Bytes: r.Text()})
	}
	return l
}

// lay answers a record of a kind that says these numbers.
func lay(kind byte, numbers ...uint64) []byte {
	b := wire.Byte(nil, kind)
	for _, n := range numbers {
		b = wire.Uint(b, n)
	}
	return b
}

// layLines answers a record that says these lines, too. Each is laid for itself, since wire copies what stands ahead.
func layLines(record []byte, l []api.Line) []byte {
	b := wire.Uint(record, uint64(len(l)))
	for _, line := range l {
		b = append(b, wire.Text(wire.Uint(nil, line.Epoch), line.Bytes)...)
	}
	return b
}

func layWhole(k Kept) []byte { return layLines(lay(wholeKind, k.Promised, k.Current), k.Lines) }
