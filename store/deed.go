package store

import (
	"bytes"
	"slices"

	"outrider/api"
)

// What room is reckoned by: how much of each page counts, and what is wanted for the store, and for each line beside its own bytes. A record of all that is kept is no longer, so an area that is begun anew has room for it.
const (
	roomOfPage  = 480
	roomOfStore = 64
	roomOfLine  = 16
)

// deed is what a call does, and what a record says that one did, to what is kept; it throws why it may not.
type deed func(k *Kept)

func promising(e uint64) deed {
	return func(k *Kept) {
		throwIf(e <= k.Promised || e > api.MaxNumber, api.ErrArg)
		k.Promised = e
	}
}

func adopting(e uint64, l []api.Line) deed {
	return func(k *Kept) {
		throwIf(e < k.Promised || e <= k.Current || e > api.MaxNumber, api.ErrArg)
		throwIf(len(l) > api.MaxLog, api.ErrArg)
		demandLines(l, func(epoch uint64) bool { return epoch <= e })
		*k = Kept{Promised: e, Current: e, Lines: copyOf(l)}
	}
}

func appending(l []api.Line) deed {
	return func(k *Kept) {
		throwIf(len(l) == 0 || len(l) > api.MaxLog-len(k.Lines), api.ErrArg)
		demandLines(l, func(epoch uint64) bool { return epoch == k.Current })
		k.Lines = slices.Concat(k.Lines, copyOf(l))
	}
}

// becoming is what the first record of an area that was begun anew says: it lets there be what other calls had come to, and throws what none could have come to.
func becoming(all Kept) deed {
	return func(k *Kept) {
		throwIf(k.Promised > 0 || all.Promised == 0, api.ErrForm)
		if all.Current > 0 || len(all.Lines) > 0 {
			adopting(all.Current, all.Lines)(k)
		}
		if all.Promised != all.Current {
			promising(all.Promised)(k)
		}
	}
}

// demandLines throws, if one of the lines may not be, or its epoch does not suit.
func demandLines(l []api.Line, suits func(epoch uint64) bool) {
	for _, line := range l {
		throwIf(line.Epoch < 1 || line.Epoch > api.MaxNumber || !suits(line.Epoch), api.ErrArg)
		throwIf(len(line.Bytes) < 1 || len(line.Bytes) > api.MaxEntry, api.ErrArg)
	}
}

// hasRoom tells whether areas of so many pages have room for all of it.
func hasRoom(k Kept, pages int) bool {
	wanted := roomOfStore
	for _, line := range k.Lines {
		wanted += roomOfLine + len(line.Bytes)
	}
	return wanted <= roomOfPage*(pages-1)
}

// compare tells which one is later of two that one store kept, as the library's comparisons do: each call that is done raises the first of these numbers that it changes.
func compare(a, b Kept) int { return slices.Compare(rank(a), rank(b)) }

func rank(k Kept) []uint64 { return []uint64{k.Promised, k.Current, uint64(len(k.Lines))} }

func copyOf(l []api.Line) []api.Line {
	var out []api.Line
	for _, line := range l {
		out = append(out, api.Line{Epoch: line.Epoch, Bytes: bytes.Clone(line.Bytes)})
	}
	return out
}
