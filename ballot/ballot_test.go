package ballot_test

import (
	"math"
	"math/big"
	"math/bits"
	"math/rand"
	"slices"
	"testing"

	"outrider/api"
	"outrider/ballot"
)

// sizes are those of groups: of none, small ones, those at which numbers change their width, the greatest ones.
var sizes = []int{
	math.MinInt, math.MinInt + 1, -api.MaxNumber, -4, -3, -2, -1, 0, 1, 2, 3, 4, 5, 6, 7, 8, 255, 256, 257, 65536, 1<<31 - 1, 1 << 31, 1 << 32,
	api.MaxNumber - 1, api.MaxNumber, api.MaxNumber + 1, 1 << 53, 1 << 62, math.MaxInt - 1, math.MaxInt,
}

// epochs are small ones, those at which numbers change their width, those around the greatest one, and greater ones.
var epochs = []uint64{
	0, 1, 2, 3, 4, 5, 6, 7, 8, 9, 255, 256, 257, 65535, 65536, 1<<31 - 1, 1 << 31, 1<<32 - 1, 1 << 32, 1<<32 + 1,
	api.MaxNumber - 3, api.MaxNumber - 2, api.MaxNumber - 1, api.MaxNumber, api.MaxNumber + 1, api.MaxNumber + 2, 1 << 53, 1<<63 - 1, 1 << 63, 1<<63 + 1,
	math.MaxUint64 - 1, math.MaxUint64,
}

// nodesAround are nodes of n, and numbers that are none of them.
func nodesAround(n int) []int {
	return []int{math.MinInt, -api.MaxNumber, -n, -2, -1, 0, 1, 2, n / 2, n - 2, n - 1, n, n + 1, 2 * n, api.MaxNumber, math.MaxInt}
}

func isNode(node, n int) bool { return n > 0 && 0 <= node && node < n }

// oracleNext goes from the first epoch that may be as far as the owner of that epoch is away from node, round the group.
func oracleNext(after uint64, node, n int) uint64 {
	if !isNode(node, n) || after > 1<<48 {
		return 0
	}
	first := new(big.Int).SetUint64(after)
	first.Add(first, big.NewInt(1))
	away := new(big.Int).Sub(big.NewInt(int64(node)), first)
	away.Mod(away, big.NewInt(int64(n)))
	return first.Add(first, away).Uint64()
}

func oracleOwner(e uint64, n int) int {
	if n < 1 {
		return -1
	}
	rest := new(big.Int).SetUint64(e)
	return int(rest.Mod(rest, big.NewInt(int64(n))).Int64())
}

func wantNext(t *testing.T, after uint64, node, n int, want uint64) {
	t.Helper()
	for range 2 {
		if e := ballot.Next(after, node, n); e != want {
			t.Errorf("Next(%d, %d, %d) = %d, want %d", after, node, n, e, want)
		}
	}
}

func wantOwner(t *testing.T, e uint64, n, want int) {
	t.Helper()
	for range 2 {
		if node := ballot.Owner(e, n); node != want {
			t.Errorf("Owner(%d, %d) = %d, want %d", e, n, node, want)
		}
	}
}

func wantQuorum(t *testing.T, n, want int) {
	t.Helper()
	for range 2 {
		if q := ballot.Quorum(n); q != want {
			t.Errorf("Quorum(%d) = %d, want %d", n, q, want)
		}
	}
}

// P10.1: the chapter's examples, and others that are written down.
func TestNextKnown(t *testing.T) {
	for _, x := range []struct {
		after   uint64
		node, n int
		want    uint64
	}{
		{0, 0, 3, 3}, {0, 1, 3, 1}, {4, 1, 3, 7}, {7, 3, 3, 0},
		{0, 2, 3, 2}, {1, 0, 3, 3}, {1, 1, 3, 4}, {1, 2, 3, 2}, {2, 0, 3, 3}, {2, 2, 3, 5}, {3, 0, 3, 6}, {3, 1, 3, 4}, {100, 2, 3, 101},
		{0, 0, 1, 1}, {1, 0, 1, 2}, {41, 0, 1, 42}, {0, 0, 2, 2}, {0, 1, 2, 1}, {1, 1, 2, 3}, {2, 0, 2, 4}, {3, 0, 2, 4}, {10, 4, 5, 14}, {0, 0, 5, 5},
	} {
		wantNext(t, x.after, x.node, x.n, x.want)
	}
}

// P10.1: a group of none, and what is none of a group, get no epoch, whatever after is.
func TestNextNoNode(t *testing.T) {
	for _, n := range sizes {
		for _, node := range nodesAround(n) {
			for _, after := range epochs {
				if !isNode(node, n) {
					wantNext(t, after, node, n, 0)
				}
			}
		}
	}
	for n := 1; n <= 9; n++ {
		for _, node := range []int{math.MinInt, -2 * n, -n - 1, -n, -1, n, n + 1, 2 * n, math.MaxInt} {
			wantNext(t, 0, node, n, 0)
			wantNext(t, 7, node, n, 0)
		}
	}
}

// P10.1: behind MaxNumber there is an epoch yet, which is above it; behind a greater one there is none.
func TestNextAtTheEnd(t *testing.T) {
	const end = 1 << 48 // 1 modulo 3, and 1 modulo 5
	for _, x := range []struct {
		after   uint64
		node, n int
		want    uint64
	}{
		{end - 1, 0, 1, end}, {end, 0, 1, end + 1}, {end, 0, 2, end + 2}, {end, 1, 2, end + 1}, {end - 1, 1, 3, end}, {end - 2, 0, 3, end - 1},
		{end, 0, 3, end + 2}, {end, 1, 3, end + 3}, {end, 2, 3, end + 1}, {end, 1, 5, end + 5}, {end, 2, 5, end + 1}, {end, 0, 5, end + 4},
		{end, 0, math.MaxInt, math.MaxInt}, {end, end, math.MaxInt, end + math.MaxInt}, {end, end + 1, math.MaxInt, end + 1},
		{end, end - 1, math.MaxInt, end - 1 + math.MaxInt}, {end, math.MaxInt - 1, math.MaxInt, math.MaxInt - 1},
	} {
		wantNext(t, x.after, x.node, x.n, x.want)
	}
	for _, n := range sizes {
		for _, node := range nodesAround(n) {
			for _, after := range []uint64{end + 1, end + 2, end + 3, 1<<48 + 1<<32, 1 << 49, 1<<63 - 1, 1 << 63, math.MaxUint64 - 1, math.MaxUint64} {
				wantNext(t, after, node, n, 0)
			}
		}
	}
}

// P10.1: just below an epoch of the node it is that one; at it, and just above, the one behind it.
func TestNextAroundOwned(t *testing.T) {
	for n := 1; n <= 9; n++ {
		for node := range n {
			for _, k := range []uint64{0, 1, 2, 3, 10, 1 << 20, 1 << 40} {
				e := k*uint64(n) + uint64(node)
				if e > 0 {
					wantNext(t, e-1, node, n, e)
				}
				wantNext(t, e, node, n, e+uint64(n))
				if n > 1 {
					wantNext(t, e+1, node, n, e+uint64(n))
				}
			}
		}
	}
}

// P10.1: it is what counting up from after comes to.
func TestNextCounted(t *testing.T) {
	for n := 1; n <= 12; n++ {
		for node := range n {
			for after := range uint64(60) {
				e := after + 1
				for e%uint64(n) != uint64(node) {
					e++
				}
				wantNext(t, after, node, n, e)
			}
		}
	}
}

// P10.1: all sizes, nodes and epochs that are told above, and numbers of all widths.
func TestNextAll(t *testing.T) {
	for _, n := range sizes {
		for _, node := range nodesAround(n) {
			for _, after := range epochs {
				wantNext(t, after, node, n, oracleNext(after, node, n))
			}
		}
	}
	r := rand.New(rand.NewSource(1))
	for range 50000 {
		n := int(r.Uint64()>>r.Intn(63)>>1) + 1
		if n < 1 {
			continue
		}
		node, after := int(r.Uint64()%uint64(n)), r.Uint64()>>(15+r.Intn(49))
		wantNext(t, after, node, n, oracleNext(after, node, n))
	}
}

// P10.1: what a node gets is above after and its own, and no number between is.
func TestNextIsTheLeast(t *testing.T) {
	for _, n := range sizes {
		for _, node := range nodesAround(n) {
			for _, after := range epochs {
				if !isNode(node, n) || after > api.MaxNumber {
					continue
				}
				e := ballot.Next(after, node, n)
				if e <= after || ballot.Owner(e, n) != node {
					t.Errorf("Next(%d, %d, %d) = %d, which is not above, or owned by %d", after, node, n, e, ballot.Owner(e, n))
				}
				if e >= uint64(n) && e-uint64(n) > after { // the one of that node ahead of it
					t.Errorf("Next(%d, %d, %d) = %d, but %d is above, too", after, node, n, e, e-uint64(n))
				}
				for between := after + 1; between < e && between < after+300; between++ {
					if ballot.Owner(between, n) == node {
						t.Errorf("Next(%d, %d, %d) = %d, but %d is owned, too", after, node, n, e, between)
					}
				}
			}
		}
	}
}

// P10.1: the owners of small epochs go round the group; any number has one, also above MaxNumber.
func TestOwner(t *testing.T) {
	for n := 1; n <= 9; n++ {
		node := 0
		for e := range uint64(100) {
			wantOwner(t, e, n, node)
			if node++; node == n {
				node = 0
			}
		}
	}
	for _, x := range []struct {
		e       uint64
		n, want int
	}{
		{0, 1, 0}, {1, 1, 0}, {math.MaxUint64, 1, 0}, {7, 3, 1}, {1 << 48, 3, 1}, {1<<48 + 1, 3, 2}, {math.MaxUint64, 2, 1}, {math.MaxUint64, 3, 0},
		{math.MaxUint64 - 1, 3, 2}, {1 << 63, 3, 2}, {1 << 63, math.MaxInt, 1}, {math.MaxInt, math.MaxInt, 0}, {math.MaxInt - 1, math.MaxInt, math.MaxInt - 1},
		{math.MaxUint64, math.MaxInt, 1}, {math.MaxUint64 - 1, math.MaxInt, 0}, {math.MaxUint64 - 2, math.MaxInt, math.MaxInt - 1}, {5, 1 << 62, 5},
	} {
		wantOwner(t, x.e, x.n, x.want)
	}
}

// P10.1: no epoch has an owner in a group of none.
func TestOwnerOfNone(t *testing.T) {
	for _, n := range []int{math.MinInt, math.MinInt + 1, -api.MaxNumber, -1 << 32, -256, -3, -2, -1, 0} {
		for _, e := range epochs {
			wantOwner(t, e, n, -1)
		}
	}
}

// P10.1: all sizes and epochs that are told above.
func TestOwnerAll(t *testing.T) {
	for _, n := range sizes {
		for _, e := range epochs {
			wantOwner(t, e, n, oracleOwner(e, n))
		}
	}
}

// P10.2: the chapter's examples, and others that are written down.
func TestQuorumKnown(t *testing.T) {
	for n, want := range []int{0, 1, 2, 2, 3, 3, 4, 4, 5, 5, 6} {
		wantQuorum(t, n, want)
	}
	wantQuorum(t, 1<<32, 1<<31+1)
	wantQuorum(t, math.MaxInt-1, 1<<62)
	wantQuorum(t, math.MaxInt, 1<<62)
}

// P10.2: a group of none has no quorum.
func TestQuorumOfNone(t *testing.T) {
	for n := -1000; n < 1; n++ {
		wantQuorum(t, n, 0)
	}
	for _, n := range []int{math.MinInt, math.MinInt + 1, -1 << 62, -api.MaxNumber, -1 << 32} {
		wantQuorum(t, n, 0)
	}
}

// P10.2: it is more than half, and one less is not.
func TestQuorumIsTheLeast(t *testing.T) {
	var many []int
	for n := range 5000 {
		many = append(many, n)
	}
	for _, n := range append(many, sizes...) {
		if n < 1 {
			continue
		}
		q := uint64(ballot.Quorum(n))
		if 2*q <= uint64(n) || 2*(q-1) > uint64(n) || q > uint64(n) {
			t.Errorf("Quorum(%d) = %d", n, q)
		}
	}
}

type pair struct {
	c uint64
	l int
}

func better(a, b pair) bool { return ballot.Better(a.c, a.l, b.c, b.l) }

// pairs are some, rising: each is better than all that stand ahead of it.
func pairs() []pair {
	var all []pair
	for _, c := range []uint64{0, 1, 2, api.MaxNumber, 1<<63 - 1, 1 << 63, math.MaxUint64} {
		for _, l := range []int{math.MinInt, math.MinInt + 1, -api.MaxNumber, -2, -1, 0, 1, 2, api.MaxLog, math.MaxInt - 1, math.MaxInt} {
			all = append(all, pair{c, l})
		}
	}
	return all
}

// P10.3: the first numbers alike and not, the second ones alike and not, in all ways to be so.
func TestBetterKnown(t *testing.T) {
	for _, x := range []struct {
		a, b pair
		want bool
	}{
		{pair{1, 5}, pair{1, 5}, false}, {pair{1, 6}, pair{1, 5}, true}, {pair{1, 5}, pair{1, 6}, false},
		{pair{2, 5}, pair{1, 5}, true}, {pair{1, 5}, pair{2, 5}, false}, {pair{2, 0}, pair{1, 9}, true}, {pair{1, 9}, pair{2, 0}, false},
		{pair{2, 9}, pair{1, 0}, true}, {pair{1, 0}, pair{2, 9}, false}, {pair{0, 0}, pair{0, 0}, false}, {pair{5, 1}, pair{6, 1}, false},
		{pair{3, -1}, pair{3, 0}, false}, {pair{3, 0}, pair{3, -1}, true}, {pair{3, -1}, pair{3, -2}, true}, {pair{3, -2}, pair{3, -1}, false},
		{pair{3, -1}, pair{3, -1}, false}, {pair{4, -1}, pair{3, 1}, true}, {pair{3, 1}, pair{4, -1}, false},
		{pair{0, math.MaxInt}, pair{0, math.MinInt}, true}, {pair{0, math.MinInt}, pair{0, math.MaxInt}, false},
		{pair{1, math.MinInt}, pair{0, math.MaxInt}, true}, {pair{math.MaxUint64, 0}, pair{0, 0}, true}, {pair{0, 0}, pair{math.MaxUint64, 0}, false},
	} {
		for range 2 {
			if got := better(x.a, x.b); got != x.want {
				t.Errorf("Better(%d, %d, %d, %d) = %v", x.a.c, x.a.l, x.b.c, x.b.l, got)
			}
		}
	}
}

// P10.3: each pair is better than those ahead of it, and than no other.
func TestBetterAll(t *testing.T) {
	all := pairs()
	for i, a := range all {
		for j, b := range all {
			if got := better(a, b); got != (i > j) {
				t.Errorf("Better(%d, %d, %d, %d) = %v", a.c, a.l, b.c, b.l, got)
			}
		}
	}
}

// P10.5: of two that are not alike just one is better, of alike ones none; and what is better than a better one is better.
func TestBetterIsAnOrder(t *testing.T) {
	all := pairs()
	for _, a := range all {
		for _, b := range all {
			if a == b && better(a, b) || a != b && better(a, b) == better(b, a) {
				t.Errorf("%v and %v: %v, %v", a, b, better(a, b), better(b, a))
			}
			for _, c := range all {
				if better(a, b) && better(b, c) && !better(a, c) {
					t.Errorf("%v is better than %v, that than %v, but the first one not than the last one", a, b, c)
				}
			}
		}
	}
}

// oracleCommit counts for each number how many are no lower: of those where these are more than half, the greatest.
func oracleCommit(match []int) int {
	found, best := false, 0
	for _, m := range match {
		count := 0
		for _, other := range match {
			if other >= m {
				count++
			}
		}
		if 2*count > len(match) && (!found || m > best) {
			found, best = true, m
		}
	}
	return best
}

// wantCommit hands in the numbers with room behind them, and wants all of it to stay as it is.
func wantCommit(t *testing.T, match []int, want int) {
	t.Helper()
	mine := append(slices.Clone(match), math.MaxInt, math.MinInt, 3)
	was := slices.Clone(mine)
	for range 2 {
		if n := ballot.Commit(mine[:len(match)]); n != want {
			t.Errorf("Commit(%d) = %d, want %d", match, n, want)
		}
	}
	if !slices.Equal(mine, was) {
		t.Fatalf("%d became %d", was, mine)
	}
}

// P10.4: the chapter's examples, and others that are written down.
func TestCommitKnown(t *testing.T) {
	for _, x := range []struct {
		match []int
		want  int
	}{
		{[]int{5, 3, 4}, 4}, {[]int{5, -1, -1}, -1}, {[]int{7}, 7},
		{[]int{0}, 0}, {[]int{-7}, -7}, {[]int{math.MinInt}, math.MinInt}, {[]int{math.MaxInt}, math.MaxInt},
		{[]int{1, 2}, 1}, {[]int{2, 1}, 1}, {[]int{-1, 5}, -1}, {[]int{5, -1}, -1}, {[]int{4, 4}, 4},
		{[]int{5, 5, -1}, 5}, {[]int{-1, 5, 5}, 5}, {[]int{5, -1, 5}, 5}, {[]int{0, 0, 0}, 0}, {[]int{-3, -2, -1}, -2}, {[]int{9, 0, 9}, 9},
		{[]int{1, 2, 3, 4}, 2}, {[]int{4, 3, 2, 1}, 2}, {[]int{4, 4, 1, 1}, 1}, {[]int{4, 4, 4, 1}, 4},
		{[]int{1, 2, 3, 4, 5}, 3}, {[]int{5, 4, 3, 2, 1}, 3}, {[]int{1, 1, 1, 2, 3}, 1}, {[]int{3, 3, 3, 1, 2}, 3},
		{[]int{math.MinInt, math.MaxInt}, math.MinInt}, {[]int{math.MaxInt, math.MinInt, 0}, 0}, {[]int{math.MaxInt, math.MinInt, math.MaxInt}, math.MaxInt},
		{[]int{math.MinInt, 1, math.MinInt}, math.MinInt}, {[]int{math.MinInt, math.MaxInt, -1}, -1},
	} {
		wantCommit(t, x.match, x.want)
	}
}

// P10.4: of none it is 0, whatever lies in the room behind.
func TestCommitOfNone(t *testing.T) {
	for range 2 {
		if n := ballot.Commit(nil); n != 0 {
			t.Errorf("Commit(nil) = %d", n)
		}
		if n := ballot.Commit([]int{}); n != 0 {
			t.Errorf("Commit of none = %d", n)
		}
	}
	wantCommit(t, nil, 0)
	wantCommit(t, []int{}, 0)
}

// P10.4: several that are alike.
func TestCommitAlike(t *testing.T) {
	for _, v := range []int{math.MinInt, math.MinInt + 1, -1 << 32, -2, -1, 0, 1, 2, 256, 1 << 32, math.MaxInt - 1, math.MaxInt} {
		for n := 1; n <= 9; n++ {
			wantCommit(t, slices.Repeat([]int{v}, n), v)
		}
	}
}

// P10.4: rising and falling, few and many.
func TestCommitRisingAndFalling(t *testing.T) {
	for _, n := range []int{1, 2, 3, 4, 5, 6, 7, 8, 9, 10, 11, 12, 13, 63, 64, 65, 999, 1000, 1001} {
		for _, first := range []int{math.MinInt, -n, -n / 2, -1, 0, 1, math.MaxInt - n} {
			var rising []int
			for i := range n {
				rising = append(rising, first+i)
			}
			falling := slices.Clone(rising)
			slices.Reverse(falling)
			want := first + (n-1)/2 // more than half are no lower: as many are above it as below it, or one more
			wantCommit(t, rising, want)
			wantCommit(t, falling, want)
		}
	}
}

// orders are all orders of l.
func orders(l []int) [][]int {
	if len(l) == 0 {
		return [][]int{nil}
	}
	var all [][]int
	for i, first := range l {
		for _, rest := range orders(slices.Delete(slices.Clone(l), i, i+1)) {
			all = append(all, append([]int{first}, rest...))
		}
	}
	return all
}

// P10.4: every order of a few has the same answer.
func TestCommitEveryOrder(t *testing.T) {
	for _, few := range [][]int{
		{1, 2}, {3, 4, 5}, {-1, -1, 5}, {-1, 5, 5}, {1, 2, 3, 4}, {1, 1, 2, 2}, {-2, -1, 0, 1, 2}, {0, 0, 0, 1, 1}, {0, 0, 1, 1, 1}, {7, 8, 9, 10, 11, 12},
		{-1, -1, -1, 4, 4, 4}, {math.MinInt, 0, math.MaxInt}, {math.MinInt, math.MinInt, math.MaxInt, math.MaxInt}, {1, 2, 3, 4, 5, 6, 7},
	} {
		want := oracleCommit(few)
		for _, l := range orders(few) {
			wantCommit(t, l, want)
		}
	}
}

// P10.4: all short rows of these, below 0, at the ends and between.
func TestCommitAll(t *testing.T) {
	last := [][]int{nil}
	for range 6 {
		var next [][]int
		for _, l := range last {
			for _, v := range []int{math.MinInt, -1, 0, 1, 9, math.MaxInt} {
				next = append(next, append(slices.Clone(l), v))
			}
		}
		for _, l := range next {
			wantCommit(t, l, oracleCommit(l))
		}
		last = next
	}
}

// P10.4: long rows, of numbers that often are alike, seldom, and of all widths.
func TestCommitLong(t *testing.T) {
	r := rand.New(rand.NewSource(2))
	for n := 1; n <= 150; n++ {
		for _, span := range []int{2, 5, 300, math.MaxInt} {
			var l []int
			for range n {
				l = append(l, r.Intn(span)-span/2)
			}
			wantCommit(t, l, oracleCommit(l))
		}
	}
}

// P10.4: what it answers hangs on the numbers alone, not on what was asked between.
func TestCommitAfterOthers(t *testing.T) {
	l := []int{5, 3, 4}
	wantCommit(t, l, 4)
	wantCommit(t, []int{100, 100, 100, 100, 100}, 100)
	wantCommit(t, []int{-100}, -100)
	wantCommit(t, nil, 0)
	wantCommit(t, l, 4)
	l[0], l[1] = 1, 1
	wantCommit(t, l, 1)
}

// P10.5: of a group of up to 7 nodes any two quorums have a node in common, and of two that are one node smaller there are some that have none.
func TestQuorumsMeet(t *testing.T) {
	for n := 1; n <= 7; n++ {
		q := ballot.Quorum(n)
		apart := false
		for a := range uint(1) << n {
			for b := range uint(1) << n {
				if bits.OnesCount(a) >= q && bits.OnesCount(b) >= q && a&b == 0 {
					t.Errorf("of %d nodes %b and %b are quorums that do not meet", n, a, b)
				}
				apart = apart || bits.OnesCount(a) == q-1 && bits.OnesCount(b) == q-1 && a&b == 0
			}
		}
		if !apart {
			t.Errorf("of %d nodes %d are a quorum, but fewer meet, too", n, q)
		}
	}
}

// P10.5: an epoch has one owner, which alone gets it from Next, whatever after it was asked for.
func TestOneOwner(t *testing.T) {
	for n := 1; n <= 9; n++ {
		got := map[uint64]int{}
		for _, base := range []uint64{0, 1000, api.MaxNumber - 60} {
			for after := base; after <= base+60; after++ {
				for node := range n {
					e := ballot.Next(after, node, n)
					if other, ok := got[e]; ok && other != node {
						t.Errorf("of %d nodes %d and %d got epoch %d", n, other, node, e)
					}
					if ballot.Owner(e, n) != node {
						t.Errorf("of %d nodes %d got epoch %d, which %d owns", n, node, e, ballot.Owner(e, n))
					}
					got[e] = node
				}
			}
		}
		for e := range uint64(61) {
			if node, ok := got[e]; e > 0 && (!ok || node != ballot.Owner(e, n)) {
				t.Errorf("of %d nodes the owner of epoch %d, %d, did not get it", n, e, ballot.Owner(e, n))
			}
		}
	}
}

// P10.5: two nodes of a group, however great, asking behind like and unlike epochs, do not get one epoch.
func TestNoEpochTwice(t *testing.T) {
	for _, n := range sizes {
		nodes := slices.DeleteFunc(nodesAround(n), func(node int) bool { return !isNode(node, n) })
		got := map[uint64]int{}
		for _, node := range nodes {
			for _, after := range epochs {
				e := ballot.Next(after, node, n)
				if other, ok := got[e]; ok && other != node && e != 0 {
					t.Errorf("of %d nodes %d and %d got epoch %d", n, other, node, e)
				}
				got[e] = node
			}
		}
	}
}
