package store

import (
	"bytes"

	"outrider/api"
	"outrider/disk"
	"outrider/log"
	"outrider/wire"
)

// stampBound is above all stamps that a store's logs come to, and those below it have no bits in their highest byte, so that what is left of several is below it, too.
const stampBound = 1 << 56

// read reads both areas, and throws, if they are no store's. The live one is that of which more came.
func (s *Store) read() {
	var found [2]Kept
	for i := range found {
		s.areas[i], found[i] = readArea(s.disk, i*s.pages(), s.pages())
	}
	order := compare(found[0], found[1])
	throwIf(order == 0 && found[0].Promised > 0, api.ErrForm)
	if order < 0 {
		s.live = 1
	}
	s.kept = found[s.live]
}

// readArea answers the log of the pages from first on, and what its records come to.
func readArea(d *disk.Disk, first, pages int) (*log.Log, Kept) {
	for at := range pages {
		page, e := d.Read(first + at)
		throwIf(e != api.OK || isForeign(page), api.ErrForm)
	}
	l, e := log.Open(d, first, pages)
	throwIf(e != api.OK, e)
	var k Kept
	for _, b := range l.Batches() {
		deedOf(b)(&k)
		throwIf(!hasRoom(k, pages), api.ErrForm)
	}
	return l, k
}

// isForeign tells whether something else than a store's log wrote the page. A leaf (8) begins with its stamp, which is above 0, ends with it, too, and says further on that it holds fewer bytes than a page has; so does what a loss of power left of leaves, but for the end, for each of its bytes is one that a leaf had at that place.
func isForeign(page []byte) bool {
	if bytes.Equal(page, make([]byte, api.Page)) {
		return false
	}
	r := wire.New(page)
	stamp, size := r.Uint(), uint32(r.Uint())
	again := wire.New(page[api.Page-8:]).Uint()
	return stamp == 0 || max(stamp, again) >= stampBound || size >= api.Page
}
