package net_test

import (
	"bytes"
	"fmt"
	"math"
	"math/rand"
	"slices"
	"testing"

	"outrider/api"
	"outrider/net"
)

func at(group, node int) api.Addr { return api.Addr{Group: group, Node: node} }

func letter(from, to api.Addr, text string) api.Letter {
	return api.Letter{From: from, To: to, Bytes: []byte(text)}
}

func newNet(t *testing.T, sizes ...int) *net.Net {
	t.Helper()
	n, e := net.New(sizes)
	if e != api.OK || n == nil {
		t.Fatalf("New(%v): %v, %v", sizes, n, e)
	}
	return n
}

// addresses are those of a net, told one by one.
func addresses(sizes ...int) []api.Addr {
	var all []api.Addr
	for g, size := range sizes {
		for i := range size {
			all = append(all, at(g, i))
		}
	}
	return all
}

// around are all addresses that any net may have, those beside them, and those far from them.
func around() []api.Addr {
	far := []int{math.MinInt, -1 << 32, 1 << 32, math.MaxInt}
	var all []api.Addr
	for _, g := range append([]int{-2, -1, 0, 1, 2, 3, 4, 5}, far...) {
		for _, i := range append([]int{-2, -1, 0, 1, 2, 3, 4}, far...) {
			all = append(all, at(g, i))
		}
	}
	return all
}

// wrongPlaces are numbers beside those of n letters, and far from them.
func wrongPlaces(n int) []int {
	return []int{-1, n, n + 1, -2, -n - 1, math.MinInt, math.MaxInt, 1 << 32, -1 << 32}
}

func sameLetter(a, b api.Letter) bool {
	return a.From == b.From && a.To == b.To && bytes.Equal(a.Bytes, b.Bytes)
}

func tell(all []api.Letter) string {
	s := "["
	for _, l := range all {
		b := l.Bytes
		if len(b) > 12 {
			b = b[:12]
		}
		s += fmt.Sprintf(" %v>%v:%q(%d)", l.From, l.To, b, len(l.Bytes))
	}
	return s + " ]"
}

// spoil writes over all that was handed out, and over the room behind.
func spoil(all []api.Letter) {
	for i := range all {
		spoilBytes(all[i].Bytes)
		all[i] = letter(at(-7, -7), at(-8, -8), "spoilt")
	}
	_ = append(all[:0], make([]api.Letter, cap(all))...)
}

func spoilBytes(b []byte) {
	b = b[:cap(b)]
	for i := range b {
		b[i] ^= 0xff
	}
}

// wantRow wants these letters, whatever was done to what was told of them.
func wantRow(t *testing.T, n *net.Net, want ...api.Letter) {
	t.Helper()
	for range 2 {
		if n.Len() != len(want) {
			t.Fatalf("Len: %d, want %d", n.Len(), len(want))
		}
		got := n.Letters()
		if !slices.EqualFunc(got, want, sameLetter) {
			t.Fatalf("Letters: %s, want %s", tell(got), tell(want))
		}
		spoil(got)
	}
}

// send wants the bytes, and the room behind them, to stay as they are, and writes over them afterwards.
func send(t *testing.T, n *net.Net, l api.Letter, want api.Errno) {
	t.Helper()
	mine := append(slices.Clone(l.Bytes), "room"...)
	was := slices.Clone(mine)
	if e := n.Send(api.Letter{From: l.From, To: l.To, Bytes: mine[:len(l.Bytes)]}); e != want {
		t.Fatalf("Send(%v to %v, %d bytes): %v, want %v", l.From, l.To, len(l.Bytes), e, want)
	}
	if !bytes.Equal(mine, was) {
		t.Fatalf("Send(%v to %v) changed what it was handed", l.From, l.To)
	}
	spoilBytes(mine)
}

func sendAll(t *testing.T, n *net.Net, all []api.Letter) {
	t.Helper()
	for _, l := range all {
		send(t, n, l, api.OK)
	}
}

// take spoils what it was answered.
func take(t *testing.T, n *net.Net, i int, want api.Letter) {
	t.Helper()
	l, e := n.Take(i)
	if e != api.OK || !sameLetter(l, want) {
		t.Fatalf("Take(%d): %s, %v, want %s", i, tell([]api.Letter{l}), e, tell([]api.Letter{want}))
	}
	spoilBytes(l.Bytes)
}

func wantNoTake(t *testing.T, n *net.Net, i int, want api.Errno) {
	t.Helper()
	if l, e := n.Take(i); e != want || !sameLetter(l, api.Letter{}) {
		t.Fatalf("Take(%d): %s, %v, want none, %v", i, tell([]api.Letter{l}), e, want)
	}
}

func wantErrno(t *testing.T, what string, got, want api.Errno) {
	t.Helper()
	if got != want {
		t.Fatalf("%s: %v, want %v", what, got, want)
	}
}

// wantCuts wants just these links to be cut, of all pairs that there are.
func wantCuts(t *testing.T, n *net.Net, all []api.Addr, cut ...[2]api.Addr) {
	t.Helper()
	for _, a := range all {
		for _, b := range all {
			want := slices.Contains(cut, [2]api.Addr{a, b}) || slices.Contains(cut, [2]api.Addr{b, a})
			if n.Cuts(a, b) != want {
				t.Fatalf("Cuts(%v, %v): %v, want %v", a, b, !want, want)
			}
		}
	}
}

// someRow is of n letters, of which each tells another text, by turns to and fro between the nodes of a net of 1 and 2.
func someRow(n int) []api.Letter {
	ways := [][2]api.Addr{{at(0, 0), at(1, 0)}, {at(1, 0), at(1, 1)}, {at(1, 1), at(0, 0)}, {at(1, 0), at(0, 0)}}
	var row []api.Letter
	for i := range n {
		way := ways[i%len(ways)]
		row = append(row, letter(way[0], way[1], fmt.Sprint("letter ", i)))
	}
	return row
}

// P13.1: there are 1 to MaxSites and 1 groups, of 1 to MaxNodes nodes each; the addresses are just theirs.
func TestNew(t *testing.T) {
	tried := []int{-1, 0, 1, 2, 3, 4}
	var grow func(sizes []int)
	grow = func(sizes []int) {
		want := api.OK
		if len(sizes) < 1 || len(sizes) > 4 || slices.Min(sizes) < 1 || slices.Max(sizes) > 3 {
			want = api.ErrArg
		}
		if n, e := net.New(sizes); e != want || (n == nil) != (want != api.OK) {
			t.Fatalf("New(%v): %v, %v, want %v", sizes, n, e, want)
		}
		if len(sizes) < 5 {
			for _, size := range tried {
				grow(append(slices.Clone(sizes), size))
			}
		}
	}
	grow(nil)
}

// P13.1: no groups, a group too many, a node too few or too many, wherever the group stands.
func TestNewEdges(t *testing.T) {
	for _, c := range []struct {
		sizes []int
		want  api.Errno
	}{
		{nil, api.ErrArg}, {[]int{}, api.ErrArg},
		{[]int{1}, api.OK}, {[]int{api.MaxNodes}, api.OK}, {[]int{0}, api.ErrArg}, {[]int{api.MaxNodes + 1}, api.ErrArg},
		{slices.Repeat([]int{2}, api.MaxSites), api.OK},
		{slices.Repeat([]int{api.MaxNodes}, api.MaxSites+1), api.OK},
		{slices.Repeat([]int{1}, api.MaxSites+2), api.ErrArg},
		{slices.Repeat([]int{1}, 1000), api.ErrArg},
		{slices.Repeat([]int{0}, 1000), api.ErrArg},
	} {
		if n, e := net.New(c.sizes); e != c.want || (n == nil) != (c.want != api.OK) {
			t.Errorf("New(%v): %v, %v, want %v", c.sizes, n, e, c.want)
		}
	}
	for place := range 4 {
		for _, size := range []int{0, -1, -2, math.MinInt, api.MaxNodes + 1, 1 << 32, 1<<32 + 1, -1<<32 + 1, math.MaxInt} {
			sizes := []int{1, 2, 3, 1}
			sizes[place] = size
			if n, e := net.New(sizes); e != api.ErrArg || n != nil {
				t.Errorf("New(%v): %v, %v", sizes, n, e)
			}
		}
	}
}

// P13.1: New leaves what it is handed as it was, and keeps none of it.
func TestNewKeepsNothingOfSizes(t *testing.T) {
	mine := []int{1, 2, 3, 1, 2}
	n, e := net.New(mine[:2])
	if e != api.OK || !slices.Equal(mine, []int{1, 2, 3, 1, 2}) {
		t.Fatalf("New: %v, and %v is left", e, mine)
	}
	copy(mine, []int{3, 3, 3, 3, 3})
	for _, a := range []api.Addr{at(0, 1), at(1, 2), at(2, 0)} {
		send(t, n, letter(a, at(0, 0), "x"), api.ErrArg)
	}
	copy(mine, []int{0, 0, 0, 0, 0})
	send(t, n, letter(at(1, 1), at(0, 0), "x"), api.OK)
	bad := []int{1, 9}
	if _, e := net.New(bad); e != api.ErrArg || !slices.Equal(bad, []int{1, 9}) {
		t.Fatalf("New: %v, and %v is left", e, bad)
	}
}

// P13.1: a new net has no letters, and no link of it is cut, whatever became of another one.
func TestNewIsEmpty(t *testing.T) {
	for _, sizes := range [][]int{{1}, {3}, {1, 1}, {1, 2}, {3, 3, 3, 3}, {3, 1, 2}} {
		n := newNet(t, sizes...)
		wantRow(t, n)
		wantCuts(t, n, around())
		for _, b := range addresses(sizes...)[1:] {
			send(t, n, letter(at(0, 0), b, "x"), api.OK)
			wantErrno(t, "Cut", n.Cut(at(0, 0), b), api.OK)
		}
		other := newNet(t, sizes...)
		wantRow(t, other)
		wantCuts(t, other, addresses(sizes...))
	}
}

// P13.1: a net of one node has an address, and no link.
func TestOneNode(t *testing.T) {
	n := newNet(t, 1)
	send(t, n, letter(at(0, 0), at(0, 0), ""), api.ErrArg)
	wantErrno(t, "Cut", n.Cut(at(0, 0), at(0, 0)), api.ErrArg)
	wantErrno(t, "Heal", n.Heal(at(0, 0), at(0, 0)), api.ErrArg)
	wantRow(t, n)
}

// P13.1: Len and Letters tell all that is under way, in order.
func TestLetters(t *testing.T) {
	n := newNet(t, 1, 2)
	row := someRow(9)
	for i, l := range row {
		wantRow(t, n, row[:i]...)
		send(t, n, l, api.OK)
	}
	wantRow(t, n, row...)
	var none *net.Net
	if none.Len() != 0 || len(none.Letters()) != 0 {
		t.Errorf("of nil: %d, %v", none.Len(), none.Letters())
	}
}

// P13.2: From and To are two addresses of the net.
func TestSendAddresses(t *testing.T) {
	for _, sizes := range [][]int{{1}, {2}, {1, 2}, {3, 1, 2}, {1, 3, 2, 3}} {
		n := newNet(t, sizes...)
		own := addresses(sizes...)
		var row []api.Letter
		for _, from := range around() {
			for _, to := range around() {
				l, want := letter(from, to, fmt.Sprint(from, to)), api.ErrArg
				if from != to && slices.Contains(own, from) && slices.Contains(own, to) {
					row, want = append(row, l), api.OK
				}
				send(t, n, l, want)
			}
		}
		wantRow(t, n, row...)
	}
}

// P13.2: a letter has up to MaxBytes bytes, and may have none.
func TestSendBytes(t *testing.T) {
	n := newNet(t, 1, 2)
	var row []api.Letter
	for _, b := range [][]byte{nil, {}, {0}, make([]byte, api.MaxBytes-1), bytes.Repeat([]byte("ab"), api.MaxBytes/2)} {
		l := api.Letter{From: at(1, 1), To: at(0, 0), Bytes: b}
		row = append(row, l)
		send(t, n, l, api.OK)
	}
	wantErrno(t, "Send", n.Send(api.Letter{From: at(0, 0), To: at(1, 0)}), api.OK)
	row = append(row, letter(at(0, 0), at(1, 0), ""))
	for _, more := range []int{1, 2, api.MaxBytes} {
		send(t, n, api.Letter{From: at(1, 1), To: at(0, 0), Bytes: make([]byte, api.MaxBytes+more)}, api.ErrArg)
	}
	wantRow(t, n, row...)
	for _, l := range row {
		take(t, n, 0, l)
	}
}

// P13.2, P13.3: MaxLetters letters may be under way; an argument that may not be is told first; room is there again once one is gone.
func TestFull(t *testing.T) {
	n := newNet(t, 1, 2)
	row := someRow(api.MaxLetters)
	sendAll(t, n, row[:api.MaxLetters-1])
	wantErrno(t, "Double", n.Double(5), api.OK)
	full := append(slices.Clone(row[:api.MaxLetters-1]), row[5])
	wantRow(t, n, full...)
	for range 2 {
		send(t, n, row[0], api.ErrFull)
		for _, i := range []int{0, 77, api.MaxLetters - 1} {
			wantErrno(t, "Double", n.Double(i), api.ErrFull)
		}
		wantErrno(t, "Double", n.Double(api.MaxLetters), api.ErrArg)
		wantErrno(t, "Double", n.Double(-1), api.ErrArg)
		send(t, n, letter(at(0, 0), at(0, 0), ""), api.ErrArg)
		send(t, n, letter(at(0, 1), at(1, 0), ""), api.ErrArg)
		send(t, n, letter(at(1, 0), at(2, 0), ""), api.ErrArg)
		send(t, n, letter(at(0, 0), at(1, 0), string(make([]byte, api.MaxBytes+1))), api.ErrArg)
		wantRow(t, n, full...)
	}
	wantErrno(t, "Hold", n.Hold(2), api.OK)
	full = append(slices.Delete(full, 2, 3), row[2])
	wantRow(t, n, full...)
	take(t, n, 0, full[0])
	send(t, n, row[3], api.OK)
	send(t, n, row[4], api.ErrFull)
	full = append(full[1:], row[3])
	wantRow(t, n, full...)
	wantErrno(t, "Drop", n.Drop(api.MaxLetters-1), api.OK)
	full = full[:api.MaxLetters-1]
	wantErrno(t, "Double", n.Double(0), api.OK)
	wantErrno(t, "Double", n.Double(0), api.ErrFull)
	wantRow(t, n, append(full, full[0])...)
}

// P13.2, P13.3: one letter less than MaxLetters leaves room for one, sent too.
func TestLastRoom(t *testing.T) {
	n := newNet(t, 1, 2)
	row := someRow(api.MaxLetters)
	sendAll(t, n, row)
	wantRow(t, n, row...)
	send(t, n, row[0], api.ErrFull)
	for i := range row {
		wantErrno(t, "Drop", n.Drop(0), api.OK)
		if n.Len() != len(row)-i-1 {
			t.Fatalf("Len: %d behind %d drops", n.Len(), i+1)
		}
	}
	wantRow(t, n)
	wantNoTake(t, n, 0, api.ErrArg)
}

// P13.2: across a link that is cut, letters are sent all the same.
func TestSendAcrossCut(t *testing.T) {
	n := newNet(t, 1, 2)
	wantErrno(t, "Cut", n.Cut(at(0, 0), at(1, 1)), api.OK)
	to, fro := letter(at(0, 0), at(1, 1), "to"), letter(at(1, 1), at(0, 0), "fro")
	sendAll(t, n, []api.Letter{to, fro})
	wantRow(t, n, to, fro)
	wantNoTake(t, n, 0, api.ErrCut)
	wantNoTake(t, n, 1, api.ErrCut)
	wantRow(t, n, to, fro)
}

// P13.3: what Take, Drop, Double and Hold make of each row, at each letter of it.
func TestEachLetter(t *testing.T) {
	for size := range 7 {
		row := someRow(size)
		for i := range row {
			rest := slices.Delete(slices.Clone(row), i, i+1)
			for what, want := range map[string][]api.Letter{
				"take": rest, "drop": rest,
				"double": append(slices.Clone(row), row[i]), "hold": append(slices.Clone(rest), row[i]),
			} {
				n := newNet(t, 1, 2)
				sendAll(t, n, row)
				switch what {
				case "take":
					take(t, n, i, row[i])
				case "drop":
					wantErrno(t, what, n.Drop(i), api.OK)
				case "double":
					wantErrno(t, what, n.Double(i), api.OK)
				case "hold":
					wantErrno(t, what, n.Hold(i), api.OK)
				}
				wantRow(t, n, want...)
				for _, l := range want {
					take(t, n, 0, l)
				}
				wantRow(t, n)
			}
		}
	}
}

// P13.3: of a number that no letter has, nothing becomes.
func TestNoLetter(t *testing.T) {
	for _, size := range []int{0, 1, 2, 5} {
		n := newNet(t, 1, 2)
		row := someRow(size)
		sendAll(t, n, row)
		for _, cut := range []bool{false, true} {
			for _, i := range wrongPlaces(size) {
				wantNoTake(t, n, i, api.ErrArg)
				wantErrno(t, "Drop", n.Drop(i), api.ErrArg)
				wantErrno(t, "Double", n.Double(i), api.ErrArg)
				wantErrno(t, "Hold", n.Hold(i), api.ErrArg)
			}
			wantRow(t, n, row...)
			if !cut {
				cutAll(t, n, addresses(1, 2))
			}
		}
	}
}

func cutAll(t *testing.T, n *net.Net, all []api.Addr) {
	t.Helper()
	for i, a := range all {
		for _, b := range all[:i] {
			wantErrno(t, "Cut", n.Cut(a, b), api.OK)
		}
	}
}

// P13.3: across a link that is cut, Take alone takes nothing; the letter stays in its place till the link is healed.
func TestTakeAcrossCut(t *testing.T) {
	n := newNet(t, 1, 2)
	row := someRow(8)
	sendAll(t, n, row)
	wantErrno(t, "Cut", n.Cut(at(1, 0), at(0, 0)), api.OK)
	for i, l := range row {
		if l.From != at(1, 1) && l.To != at(1, 1) {
			wantNoTake(t, n, i, api.ErrCut)
		}
	}
	wantRow(t, n, row...)
	take(t, n, 1, row[1])
	take(t, n, 1, row[2])
	wantNoTake(t, n, 0, api.ErrCut)
	wantNoTake(t, n, 1, api.ErrCut)
	wantErrno(t, "Hold", n.Hold(0), api.OK)
	wantErrno(t, "Double", n.Double(0), api.OK)
	wantErrno(t, "Drop", n.Drop(1), api.OK)
	left := []api.Letter{row[3], row[5], row[6], row[7], row[0], row[3]}
	wantRow(t, n, left...)
	wantNoTake(t, n, 4, api.ErrCut)
	wantNoTake(t, n, 5, api.ErrCut)
	wantRow(t, n, left...)
	wantErrno(t, "Heal", n.Heal(at(0, 0), at(1, 0)), api.OK)
	wantRow(t, n, left...)
	for _, l := range left {
		take(t, n, 0, l)
	}
}

// P13.3: each link of a net holds up the letters of both its ways, and no others.
func TestTakeAcrossEachCut(t *testing.T) {
	own := addresses(2, 1, 2)
	for _, a := range own {
		for _, b := range own {
			if a == b {
				continue
			}
			n := newNet(t, 2, 1, 2)
			wantErrno(t, "Cut", n.Cut(a, b), api.OK)
			var left []api.Letter
			for _, from := range own {
				for _, to := range own {
					if from == to {
						continue
					}
					l := letter(from, to, fmt.Sprint(from, to))
					send(t, n, l, api.OK)
					if from == a && to == b || from == b && to == a {
						wantNoTake(t, n, len(left), api.ErrCut)
						left = append(left, l)
					} else {
						take(t, n, len(left), l)
					}
				}
			}
			wantRow(t, n, left...)
		}
	}
}

// P13.3: what is doubled is the same letter once more, and both have bytes of their own for whoever takes them.
func TestDouble(t *testing.T) {
	n := newNet(t, 1, 2)
	a, b := letter(at(0, 0), at(1, 0), "abc"), letter(at(1, 1), at(1, 0), "")
	sendAll(t, n, []api.Letter{a, b})
	for _, i := range []int{0, 1, 2} {
		wantErrno(t, "Double", n.Double(i), api.OK)
	}
	wantRow(t, n, a, b, a, b, a)
	all := n.Letters()
	all[0].Bytes = append(all[0].Bytes, "more"...)
	all[2].Bytes[0] = 'X'
	if string(all[0].Bytes) != "abcmore" || string(all[4].Bytes) != "abc" {
		t.Errorf("Letters has letters with like memory: %s", tell(all))
	}
	take(t, n, 2, a)
	wantRow(t, n, a, b, b, a)
	take(t, n, 0, a)
	take(t, n, 2, a)
	wantRow(t, n, b, b)
	wantErrno(t, "Drop", n.Drop(0), api.OK)
	wantRow(t, n, b)
}

// P13.3: what Letters and Take answered stays as it was, whatever comes behind.
func TestAnswersStay(t *testing.T) {
	n := newNet(t, 1, 2)
	row := someRow(6)
	sendAll(t, n, row)
	told := n.Letters()
	taken, _ := n.Take(1)
	later := n.Letters()
	for i := range 40 {
		wantErrno(t, "Hold", n.Hold(i%n.Len()), api.OK)
		wantErrno(t, "Double", n.Double(i%3), api.OK)
		send(t, n, letter(at(1, 1), at(1, 0), fmt.Sprint("other ", i)), api.OK)
		wantErrno(t, "Drop", n.Drop(i%4), api.OK)
		if _, e := n.Take(0); e != api.OK {
			t.Fatal(e)
		}
	}
	if !slices.EqualFunc(told, row, sameLetter) {
		t.Errorf("Letters became %s", tell(told))
	}
	if !sameLetter(taken, row[1]) {
		t.Errorf("Take became %s", tell([]api.Letter{taken}))
	}
	if !slices.EqualFunc(later, slices.Delete(row, 1, 2), sameLetter) {
		t.Errorf("Letters became %s", tell(later))
	}
}

// P13.4: a link is one for both ways, and says nothing of the others; to cut it twice is to cut it once.
func TestCuts(t *testing.T) {
	for _, sizes := range [][]int{{2}, {1, 1}, {1, 2}, {2, 1, 3}, {3, 3, 3, 3}} {
		own := addresses(sizes...)
		n := newNet(t, sizes...)
		for _, a := range own {
			for _, b := range own {
				if a == b {
					continue
				}
				wantErrno(t, "Heal", n.Heal(a, b), api.OK)
				wantCuts(t, n, own)
				wantErrno(t, "Cut", n.Cut(a, b), api.OK)
				wantCuts(t, n, own, [2]api.Addr{a, b})
				wantErrno(t, "Cut", n.Cut(b, a), api.OK)
				wantErrno(t, "Cut", n.Cut(a, b), api.OK)
				wantCuts(t, n, own, [2]api.Addr{a, b})
				wantErrno(t, "Heal", n.Heal(b, a), api.OK)
				wantCuts(t, n, own)
				wantErrno(t, "Cut", n.Cut(a, b), api.OK)
				wantErrno(t, "Heal", n.Heal(a, b), api.OK)
				wantCuts(t, n, own)
			}
		}
	}
}

// P13.4: links that are cut one behind the other, and healed one behind the other.
func TestManyCuts(t *testing.T) {
	sizes := []int{2, 3, 1, 2}
	own := addresses(sizes...)
	n := newNet(t, sizes...)
	var cut [][2]api.Addr
	for i, a := range own {
		for _, b := range own[:i] {
			cut = append(cut, [2]api.Addr{a, b})
		}
	}
	rand.New(rand.NewSource(4)).Shuffle(len(cut), func(i, j int) { cut[i], cut[j] = cut[j], cut[i] })
	for i, l := range cut {
		wantErrno(t, "Cut", n.Cut(l[i%2], l[1-i%2]), api.OK)
		wantCuts(t, n, own, cut[:i+1]...)
	}
	for i, l := range cut {
		wantErrno(t, "Heal", n.Heal(l[i/2%2], l[1-i/2%2]), api.OK)
		wantCuts(t, n, own, cut[i+1:]...)
	}
	wantRow(t, n)
}

// P13.4: what is no link is not cut, and nothing becomes of it.
func TestNoLink(t *testing.T) {
	for _, sizes := range [][]int{{1}, {1, 2}, {3, 1, 2}, {2, 2, 2, 2}} {
		own := addresses(sizes...)
		all := around()
		n := newNet(t, sizes...)
		var cut [][2]api.Addr
		for round := range 2 {
			for _, a := range all {
				for _, b := range all {
					if a != b && slices.Contains(own, a) && slices.Contains(own, b) {
						continue
					}
					wantErrno(t, fmt.Sprint("Cut", a, b), n.Cut(a, b), api.ErrArg)
					wantErrno(t, fmt.Sprint("Heal", a, b), n.Heal(a, b), api.ErrArg)
				}
			}
			wantCuts(t, n, all, cut...)
			if round == 0 {
				cutAll(t, n, own)
				for _, a := range own {
					for _, b := range own {
						if a != b {
							cut = append(cut, [2]api.Addr{a, b})
						}
					}
				}
			}
		}
	}
}

// P13.4: links are cut and healed with letters under way, which stay where they are.
func TestCutKeepsLetters(t *testing.T) {
	n := newNet(t, 1, 2)
	row := someRow(5)
	sendAll(t, n, row)
	cutAll(t, n, addresses(1, 2))
	wantRow(t, n, row...)
	for i := range row {
		wantNoTake(t, n, i, api.ErrCut)
	}
	wantErrno(t, "Heal", n.Heal(at(1, 1), at(1, 0)), api.OK)
	wantRow(t, n, row...)
	take(t, n, 1, row[1])
	wantNoTake(t, n, 1, api.ErrCut)
}

// P13.1 to P13.4: of nil, ErrNil and zeros, whatever else is wrong.
func TestNil(t *testing.T) {
	var n *net.Net
	for _, a := range []api.Addr{at(0, 0), at(1, 0), at(-1, 9)} {
		for _, b := range []api.Addr{at(0, 0), at(1, 1)} {
			wantErrno(t, "Send", n.Send(letter(a, b, "x")), api.ErrNil)
			wantErrno(t, "Cut", n.Cut(a, b), api.ErrNil)
			wantErrno(t, "Heal", n.Heal(a, b), api.ErrNil)
			if n.Cuts(a, b) {
				t.Error("Cuts of nil")
			}
		}
	}
	wantErrno(t, "Send", n.Send(api.Letter{Bytes: make([]byte, api.MaxBytes+1)}), api.ErrNil)
	for _, i := range []int{-1, 0, 1, math.MinInt, math.MaxInt} {
		wantNoTake(t, n, i, api.ErrNil)
		wantErrno(t, "Drop", n.Drop(i), api.ErrNil)
		wantErrno(t, "Double", n.Double(i), api.ErrNil)
		wantErrno(t, "Hold", n.Hold(i), api.ErrNil)
	}
	if n.Len() != 0 || len(n.Letters()) != 0 {
		t.Error("letters of nil")
	}
}

// The chapter's section 'Examples'.
func TestExamples(t *testing.T) {
	n := newNet(t, 1, 2)
	a, b := letter(at(0, 0), at(1, 0), "a"), letter(at(1, 0), at(1, 1), "b")
	send(t, n, a, api.OK)
	send(t, n, b, api.OK)
	wantRow(t, n, a, b)
	wantErrno(t, "Hold", n.Hold(0), api.OK)
	take(t, n, 0, b)
	wantErrno(t, "Cut", n.Cut(at(1, 0), at(0, 0)), api.OK)
	wantNoTake(t, n, 0, api.ErrCut)
	wantErrno(t, "Heal", n.Heal(at(0, 0), at(1, 0)), api.OK)
	take(t, n, 0, a)
	send(t, n, letter(at(0, 0), at(0, 0), ""), api.ErrArg)
	send(t, n, letter(at(0, 0), at(0, 1), ""), api.ErrArg)
	if n, e := net.New(nil); n != nil || e != api.ErrArg {
		t.Errorf("New(none): %v, %v", n, e)
	}
}
