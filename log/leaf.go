package log

import (
	"bytes"
	"iter"
	"math/bits"

	"outrider/api"
	"outrider/crc"
	"outrider/wire"
)

// hold is how many bytes of a record a leaf holds at most.
const hold = 480

// stampAgain is where in a page the stamp stands once more.
const stampAgain = api.Page - 8

// leaf is what a page says. No leaf has the stamp 0: the zero leaf is that of a page that says nothing.
type leaf struct {
	stamp       uint64
	which, many uint16
	text        []byte
}

// lay answers the page that says f.
func (f leaf) lay() []byte {
	stamp, room := wire.Uint(nil, f.stamp), make([]byte, hold-len(f.text))
	says := together(stamp, putTwo(f.which), putTwo(f.many), wire.Text(nil, f.text), room)
	lowestFirst := bits.ReverseBytes64(crc.Sum(says))
	return together(says, wire.Uint(nil, lowestFirst), stamp)
}

// leafOf answers what a page says. It is held against the page that would say that: so no byte of it goes unread, and how a leaf is laid stands in one place.
func leafOf(page []byte) leaf {
	r := wire.New(page)
	f := leaf{stamp: r.Uint(), which: readTwo(r), many: readTwo(r), text: r.Text()}
	if f.stamp == 0 || len(f.text) > hold || !bytes.Equal(page, f.lay()) {
		return leaf{}
	}
	return f
}

// headStamp answers the stamp of a head, 0 if f is none.
func headStamp(f leaf) uint64 {
	if f.which != 0 || f.many != 0 || len(f.text) > 0 {
		return 0
	}
	return f.stamp
}

// firstRecord answers the record that the leaves begin with, behind one of the stamp last; none, if they begin with no such record.
func firstRecord(leaves []leaf, last uint64) []leaf {
	for i, f := range leaves {
		first := leaves[0]
		if f.stamp <= last || f.stamp != first.stamp || f.many != first.many || int(f.which) != i {
			return nil
		}
		if i+1 == int(first.many) {
			return leaves[:i+1]
		}
	}
	return nil
}

// textOf answers a record's bytes.
func textOf(record []leaf) []byte {
	var texts [][]byte
	for _, f := range record {
		texts = append(texts, f.text)
	}
	return together(texts...)
}

func putTwo(v uint16) []byte { return []byte{byte(v >> 8), byte(v)} }

func readTwo(r *wire.Reader) uint16 { return uint16(r.Byte())<<8 | uint16(r.Byte()) }

// together answers the parts, one behind the other, in new memory.
func together(parts ...[]byte) []byte {
	var all []byte
	for _, part := range parts {
		all = append(all, part...)
	}
	return all
}

// cut goes through the pieces of b that a leaf each holds, numbered. A record of no bytes has a leaf, too.
func cut(b []byte) iter.Seq2[int, []byte] {
	return func(yield func(int, []byte) bool) {
		for i := range pieces(len(b)) {
			from := i * hold
			if !yield(i, b[from:min(from+hold, len(b))]) {
				return
			}
		}
	}
}

// pieces tells how many leaves hold so many bytes.
func pieces(size int) int { return max(1, (size+hold-1)/hold) }
