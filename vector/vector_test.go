package vector_test

import (
	"fmt"
	"math"
	"slices"
	"testing"

	"outrider/api"
	"outrider/vector"
)

// most is the greatest number of a stamp.
const most = math.MaxUint64

func stamp(numbers ...uint64) []uint64 { return numbers }

// laid is a list that lies within a greater one: other numbers stand ahead of it, and in the room behind its end.
type laid struct{ list, whole, was []uint64 }

func lay(v []uint64) laid {
	whole := slices.Concat(stamp(71, 72), v, stamp(0, most, 73))
	return laid{whole[2 : 2+len(v)], whole, slices.Clone(whole)}
}

// wantOwn wants that got is want, that what was handed in is as it was, and that neither is to be seen where the other one is written over, rooms behind ends and all.
func wantOwn(t *testing.T, call string, got, want []uint64, from ...laid) {
	t.Helper()
	if !slices.Equal(got, want) {
		t.Errorf("%s = %v, want %v", call, got, want)
	}
	for _, l := range from {
		if !slices.Equal(l.whole, l.was) {
			t.Errorf("%s changed what was handed in: %v, was %v", call, l.whole, l.was)
		}
		turn(l.whole)
	}
	if !slices.Equal(got, want) {
		t.Errorf("%s = %v, once what was handed in is written over: want %v", call, got, want)
	}
	turn(got[:cap(got)])
	for _, l := range from {
		turn(l.whole)
		if !slices.Equal(l.whole, l.was) {
			t.Errorf("%s: what was handed in shows what is written to the answer: %v, was %v", call, l.whole, l.was)
		}
	}
}

// turn writes other numbers; twice, it writes those that were there.
func turn(v []uint64) {
	for i := range v {
		v[i] = ^v[i]
	}
}

// wantNew asks twice, so that what was written to the first answer would be seen in the second one.
func wantNew(t *testing.T, n int, want []uint64) {
	t.Helper()
	for range 2 {
		wantOwn(t, fmt.Sprintf("New(%d)", n), vector.New(n), want)
	}
}

// wantInc asks of v as it is, nil too, and of v with room behind its end.
func wantInc(t *testing.T, v []uint64, i int, want []uint64) {
	t.Helper()
	call := fmt.Sprintf("Inc(%v, %d)", v, i)
	if got := vector.Inc(v, i); !slices.Equal(got, want) {
		t.Errorf("%s = %v, want %v", call, got, want)
	}
	l := lay(v)
	wantOwn(t, call+" with room", vector.Inc(l.list, i), want, l)
}

func wantLeq(t *testing.T, a, b []uint64, want bool) {
	t.Helper()
	x, y := lay(a), lay(b)
	for _, got := range []bool{vector.Leq(a, b), vector.Leq(x.list, b), vector.Leq(a, y.list), vector.Leq(x.list, y.list)} {
		if got != want {
			t.Errorf("Leq(%v, %v) = %v, want %v", a, b, got, want)
		}
	}
	if !slices.Equal(x.whole, x.was) || !slices.Equal(y.whole, y.was) {
		t.Errorf("Leq(%v, %v) changed what was handed in", a, b)
	}
}

func wantMax(t *testing.T, a, b, want []uint64) {
	t.Helper()
	call := fmt.Sprintf("Max(%v, %v)", a, b)
	if got := vector.Max(a, b); !slices.Equal(got, want) {
		t.Errorf("%s = %v, want %v", call, got, want)
	}
	x, y := lay(a), lay(b)
	wantOwn(t, call+" with room", vector.Max(x.list, y.list), want, x, y)
}

// pair is two stamps: whether the first one is no more than the second one, and the other way round, and what both are no more than.
type pair struct {
	a, b     []uint64
	leq, geq bool
	max      []uint64
}

// wantPair asks both ways round.
func wantPair(t *testing.T, x pair) {
	t.Helper()
	wantLeq(t, x.a, x.b, x.leq)
	wantLeq(t, x.b, x.a, x.geq)
	wantMax(t, x.a, x.b, x.max)
	wantMax(t, x.b, x.a, x.max)
}

// P15.1, P15.2: the chapter's examples.
func TestExamples(t *testing.T) {
	wantLeq(t, stamp(1, 2), stamp(1, 3), true)
	wantLeq(t, stamp(2, 2), stamp(1, 3), false)
	wantLeq(t, stamp(1), stamp(1, 1), false)
	wantMax(t, stamp(1, 5), stamp(2, 3), stamp(2, 5))
	wantMax(t, stamp(1), stamp(1, 1), nil)
	wantInc(t, stamp(1, 2), 1, stamp(1, 3))
	wantInc(t, stamp(1, 2), 2, stamp(1, 2))
}

// P15.1: as many zeros as there may be sites, and none of any other number.
func TestNew(t *testing.T) {
	wantNew(t, 0, nil)
	wantNew(t, 1, stamp(0))
	wantNew(t, 2, stamp(0, 0))
	wantNew(t, 3, stamp(0, 0, 0))
	wantNew(t, api.MaxSites, make([]uint64, api.MaxSites))
	for _, n := range []int{
		math.MinInt, math.MinInt + 1, math.MinInt32 - 1, math.MinInt32, -1 << 16, -256, -255, -4, -3, -2, -1,
		api.MaxSites + 1, api.MaxSites + 2, 5, 6, 7, 8, 255, 256, 257, 1 << 16, math.MaxInt32, math.MaxInt32 + 1, 1 << 32, 1<<32 + 1, 1<<32 + 3, 1 << 48, math.MaxInt - 1, math.MaxInt,
	} {
		wantNew(t, n, nil)
	}
}

// P15.1: each number of stamps of one, two and three numbers.
func TestInc(t *testing.T) {
	for _, x := range []struct {
		v    []uint64
		i    int
		want []uint64
	}{
		{stamp(0), 0, stamp(1)}, {stamp(6), 0, stamp(7)},
		{stamp(0, 0), 0, stamp(1, 0)}, {stamp(0, 0), 1, stamp(0, 1)}, {stamp(4, 9), 0, stamp(5, 9)}, {stamp(4, 9), 1, stamp(4, 10)},
		{stamp(0, 0, 0), 0, stamp(1, 0, 0)}, {stamp(0, 0, 0), 1, stamp(0, 1, 0)}, {stamp(0, 0, 0), 2, stamp(0, 0, 1)},
		{stamp(3, 5, 7), 0, stamp(4, 5, 7)}, {stamp(3, 5, 7), 1, stamp(3, 6, 7)}, {stamp(3, 5, 7), 2, stamp(3, 5, 8)},
		{stamp(255), 0, stamp(256)}, {stamp(1<<16 - 1), 0, stamp(1 << 16)}, {stamp(1<<31 - 1), 0, stamp(1 << 31)}, {stamp(1<<32 - 1), 0, stamp(1 << 32)},
		{stamp(1<<48 - 1), 0, stamp(1 << 48)}, {stamp(1 << 48), 0, stamp(1<<48 + 1)}, {stamp(1 << 53), 0, stamp(1<<53 + 1)}, {stamp(1<<63 - 1), 0, stamp(1 << 63)}, {stamp(most - 1), 0, stamp(most)},
	} {
		wantInc(t, x.v, x.i, x.want)
	}
}

// P15.1: behind 2^64 - 1 comes 0, and no other number is touched.
func TestIncGoesRound(t *testing.T) {
	wantInc(t, stamp(most), 0, stamp(0))
	wantInc(t, stamp(most, most), 0, stamp(0, most))
	wantInc(t, stamp(most, most), 1, stamp(most, 0))
	wantInc(t, stamp(most, 5, 0), 0, stamp(0, 5, 0))
	wantInc(t, stamp(5, most, 5), 1, stamp(5, 0, 5))
	wantInc(t, stamp(0, 5, most), 2, stamp(0, 5, 0))
	wantInc(t, stamp(most, 5), 1, stamp(most, 6))
}

// P15.1: where a stamp has no such number, it stays as it is, also if something lies in the room behind its end.
func TestIncOfNoNumber(t *testing.T) {
	for _, v := range [][]uint64{nil, {}, {0}, {8}, {most}, {0, 0}, {1, 2}, {most, most}, {0, 0, 0}, {1, 2, 3}, {most, 0, most}, {1, 2, 3, 4}} {
		for _, i := range []int{math.MinInt, math.MinInt + 1, -1 << 32, -256, -len(v) - 1, -len(v) - 2, -2, -1} {
			wantInc(t, v, i, v)
		}
		for _, far := range []int{0, 1, 2, 3, 4, 256, 1 << 32, math.MaxInt - 8} {
			wantInc(t, v, len(v)+far, v)
		}
		wantInc(t, v, math.MaxInt, v)
	}
}

// P15.1: a stamp of more sites than may be has its numbers, too.
func TestIncOfMany(t *testing.T) {
	for _, n := range []int{api.MaxSites + 1, api.MaxSites + 2, 8, 9, 64, 300} {
		v := make([]uint64, n)
		for i := range v {
			v[i] = uint64(100 + 3*i)
		}
		for i := range v {
			want := slices.Clone(v)
			want[i] = uint64(101 + 3*i)
			wantInc(t, v, i, want)
		}
		wantInc(t, v, -1, v)
		wantInc(t, v, n, v)
	}
}

// P15.2: the same numbers, and those that differ in one: first, in the middle, last.
func TestPairsThatDifferInOne(t *testing.T) {
	for _, v := range [][]uint64{{0}, {5}, {most}, {0, 0}, {3, 5}, {5, 3}, {most, most}, {0, 0, 0}, {3, 5, 7}, {7, 5, 3}, {most, most, most}} {
		wantPair(t, pair{v, slices.Clone(v), true, true, v})
		wantPair(t, pair{v, v, true, true, v})
	}
	for _, x := range []pair{
		{a: stamp(4), b: stamp(5)},
		{a: stamp(4, 9), b: stamp(5, 9)}, {a: stamp(4, 9), b: stamp(4, 10)},
		{a: stamp(3, 5, 7), b: stamp(4, 5, 7)}, {a: stamp(3, 5, 7), b: stamp(3, 6, 7)}, {a: stamp(3, 5, 7), b: stamp(3, 5, 8)},
		{a: stamp(0, 5, 7), b: stamp(most, 5, 7)}, {a: stamp(3, 0, 7), b: stamp(3, most, 7)}, {a: stamp(3, 5, 0), b: stamp(3, 5, most)},
	} {
		x.leq, x.max = true, x.b
		wantPair(t, x)
	}
}

// P15.2: two numbers one way, and one this way, one that way.
func TestPairsThatDifferInTwo(t *testing.T) {
	for _, x := range []pair{
		{stamp(1, 2), stamp(2, 3), true, false, stamp(2, 3)},
		{stamp(1, 3), stamp(2, 2), false, false, stamp(2, 3)},
		{stamp(1, 5), stamp(2, 3), false, false, stamp(2, 5)},
		{stamp(1, 2, 3), stamp(2, 3, 3), true, false, stamp(2, 3, 3)},
		{stamp(1, 2, 3), stamp(2, 2, 4), true, false, stamp(2, 2, 4)},
		{stamp(1, 2, 3), stamp(1, 3, 4), true, false, stamp(1, 3, 4)},
		{stamp(1, 3, 5), stamp(2, 2, 5), false, false, stamp(2, 3, 5)},
		{stamp(1, 5, 3), stamp(2, 5, 2), false, false, stamp(2, 5, 3)},
		{stamp(5, 1, 3), stamp(5, 2, 2), false, false, stamp(5, 2, 3)},
		{stamp(1, 2, 3), stamp(2, 3, 4), true, false, stamp(2, 3, 4)},
		{stamp(1, 2, 4), stamp(2, 3, 3), false, false, stamp(2, 3, 4)},
		{stamp(1, 3, 3), stamp(2, 2, 4), false, false, stamp(2, 3, 4)},
		{stamp(2, 2, 3), stamp(1, 3, 4), false, false, stamp(2, 3, 4)},
		{stamp(9, 0, 0), stamp(0, 9, 1), false, false, stamp(9, 9, 1)},
	} {
		wantPair(t, x)
	}
}

// P15.2: numbers at the ends, and at those places where other kinds of numbers have theirs.
func TestPairsAtTheEnds(t *testing.T) {
	for _, x := range []pair{
		{stamp(0), stamp(most), true, false, stamp(most)},
		{stamp(most - 1), stamp(most), true, false, stamp(most)},
		{stamp(0, most), stamp(most, 0), false, false, stamp(most, most)},
		{stamp(0, 0), stamp(most, most), true, false, stamp(most, most)},
		{stamp(0, 0, 0), stamp(most, most, most), true, false, stamp(most, most, most)},
		{stamp(most, 0, most), stamp(0, most, 0), false, false, stamp(most, most, most)},
	} {
		wantPair(t, x)
	}
	rising := []uint64{0, 1, 2, 255, 256, 1<<31 - 1, 1 << 31, 1<<32 - 1, 1 << 32, 1<<32 + 1, 1 << 48, 1 << 53, 1<<53 + 1, 1<<63 - 1, 1 << 63, 1<<63 + 1, most - 1, most}
	for i, small := range rising {
		for _, great := range rising[i+1:] {
			wantPair(t, pair{stamp(small), stamp(great), true, false, stamp(great)})
			wantPair(t, pair{stamp(small, great), stamp(great, small), false, false, stamp(great, great)})
			wantPair(t, pair{stamp(great, small, small), stamp(great, small, great), true, false, stamp(great, small, great)})
		}
	}
}

// P15.2: stamps that have not as many numbers are not held against each other, whatever stands in both, or behind the end of the shorter one.
func TestPairsOfOtherSizes(t *testing.T) {
	long := stamp(0, 1, 2, 3, 4)
	for n := range long {
		for more := n + 1; more <= len(long); more++ {
			wantPair(t, pair{long[:n], long[:more], false, false, nil})
			wantPair(t, pair{slices.Clone(long[:n]), slices.Clone(long[:more]), false, false, nil})
			wantPair(t, pair{make([]uint64, n), make([]uint64, more), false, false, nil})
			wantPair(t, pair{make([]uint64, n), long[:more], false, false, nil})
			wantPair(t, pair{long[:n], make([]uint64, more), false, false, nil})
		}
	}
	wantPair(t, pair{stamp(9), stamp(1, 1), false, false, nil})
	wantPair(t, pair{stamp(most, most), stamp(0, 0, 0), false, false, nil})
	wantPair(t, pair{make([]uint64, 1), make([]uint64, 257), false, false, nil})
	wantPair(t, pair{nil, make([]uint64, 256), false, false, nil})
}

// P15.2: stamps of no numbers have as many, nil or not, and none of one is more; with one number they have not.
func TestPairsOfNoNumbers(t *testing.T) {
	none := [][]uint64{nil, {}, make([]uint64, 0, 3), stamp(5, 6, 7)[:0], stamp(5)[1:]}
	for _, a := range none {
		for _, b := range none {
			wantPair(t, pair{a, b, true, true, nil})
		}
		for _, b := range [][]uint64{{0}, {1}, {most}, {0, 0}, {0, 0, 0}} {
			wantPair(t, pair{a, b, false, false, nil})
		}
	}
}

// P15.2: stamps of more sites than may be are gone through to their end.
func TestPairsOfMany(t *testing.T) {
	for _, n := range []int{api.MaxSites + 1, api.MaxSites + 2, 8, 9, 16, 64, 300} {
		low := make([]uint64, n)
		for i := range low {
			low[i] = uint64(10 * i)
		}
		wantPair(t, pair{low, low, true, true, low})
		wantPair(t, pair{low, slices.Concat(low, stamp(0)), false, false, nil})
		for i := range low {
			high := slices.Clone(low)
			high[i]++
			wantPair(t, pair{low, high, true, false, high})
			other := slices.Clone(low)
			other[(i+1)%n] += 2
			both := slices.Clone(high)
			both[(i+1)%n] += 2
			wantPair(t, pair{high, other, false, false, both})
		}
	}
}

// P15.1, P15.2: what is handed in twice, or lies in one list, is neither changed nor handed out.
func TestSharedArguments(t *testing.T) {
	l := lay(stamp(4, 5, 6))
	wantOwn(t, "Max(v, v)", vector.Max(l.list, l.list), stamp(4, 5, 6), l)
	l = lay(stamp(4, 9, 6))
	wantOwn(t, "Max of two that overlap", vector.Max(l.list[:2], l.list[1:]), stamp(9, 9), l)
	wantOwn(t, "Max of two that overlap, the other way", vector.Max(l.list[1:], l.list[:2]), stamp(9, 9), l)
	if vector.Leq(l.list[:2], l.list[1:]) || vector.Leq(l.list[1:], l.list[:2]) || !vector.Leq(l.list, l.list) {
		t.Error("Leq of two that overlap")
	}
	for _, i := range []int{-1, 0, 1, 2, 3, 4} {
		l = lay(stamp(4, 5, 6))
		first, second := vector.Inc(l.list, i), vector.Inc(l.list, i)
		want := slices.Clone(second)
		turn(first[:cap(first)])
		wantOwn(t, fmt.Sprintf("Inc(4 5 6, %d), the second time", i), second, want, l)
	}
}

// P15.1, P15.2: what is put behind an answer is seen nowhere else.
func TestAnswersGrowApart(t *testing.T) {
	v := make([]uint64, 2, 8)
	a, b, c := vector.Inc(v, 0), vector.Inc(v, 5), vector.Max(v, v)
	lists := [][]uint64{v, a, b, c, vector.New(2), vector.New(2), vector.New(0), vector.New(-1)}
	grown := make([][]uint64, len(lists))
	for i := range lists {
		grown[i] = append(lists[i], uint64(10+i))
	}
	for i, g := range grown {
		if g[len(g)-1] != uint64(10+i) {
			t.Errorf("list %d shows what was put behind another one: %v", i, g)
		}
	}
	if !slices.Equal(a, stamp(1, 0)) || !slices.Equal(b, stamp(0, 0)) || !slices.Equal(c, stamp(0, 0)) || !slices.Equal(v, stamp(0, 0)) {
		t.Errorf("%v %v %v %v", v, a, b, c)
	}
}

func Example() {
	first := vector.Inc(vector.New(2), 0)  // the first site did something
	second := vector.Inc(vector.New(2), 1) // the second one, too, and knew nothing of it
	fmt.Println(vector.Leq(first, second), vector.Leq(second, first))
	both := vector.Max(first, second)
	fmt.Println(both, vector.Leq(first, both), vector.Leq(second, both))
	// Output:
	// false false
	// [1 1] true true
}
