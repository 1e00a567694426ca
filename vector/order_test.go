package vector_test

import (
	"slices"
	"testing"

	"outrider/vector"
)

// rows is each row of so many of the numbers.
func rows(n int, numbers []uint64) [][]uint64 {
	if n == 0 {
		return [][]uint64{{}}
	}
	var out [][]uint64
	for _, ahead := range rows(n-1, numbers) {
		for _, x := range numbers {
			out = append(out, slices.Concat(ahead, stamp(x)))
		}
	}
	return out
}

// short is all stamps of up to three numbers, and some of four, of numbers of both ends.
func short() [][]uint64 {
	ends := stamp(0, 1, 2, most-1, most)
	return slices.Concat(rows(0, ends), rows(1, ends), rows(2, ends), rows(3, ends), rows(4, stamp(0, most)))
}

// P15.1, P15.2: all short stamps, by the other reading.
func TestShortStamps(t *testing.T) {
	stamps := short()
	for _, a := range stamps {
		m := modelOf(a)
		for i := -2; i <= len(a)+2; i++ {
			wantInc(t, a, i, m.inc(i).list())
		}
		for _, b := range stamps {
			wantLeq(t, a, b, m.leq(modelOf(b)))
			wantMax(t, a, b, m.max(modelOf(b)).list())
		}
	}
}

// upTo tells for each of the stamps which of them it is no more than.
func upTo(stamps [][]uint64) [][]int {
	above := make([][]int, len(stamps))
	for i, a := range stamps {
		for j, b := range stamps {
			if vector.Leq(a, b) {
				above[i] = append(above[i], j)
			}
		}
	}
	return above
}

// P15.3: a stamp is no more than itself; two are no more than each other only if they are the same; what is no more than one that is no more than a third is no more than the third.
func TestLeqIsAnOrder(t *testing.T) {
	stamps := short()
	above := upTo(stamps)
	for i, a := range stamps {
		if !slices.Contains(above[i], i) || !vector.Leq(a, slices.Clone(a)) {
			t.Errorf("%v is not no more than itself", a)
		}
		for _, j := range above[i] {
			if i != j && slices.Contains(above[j], i) {
				t.Errorf("%v and %v are no more than each other", a, stamps[j])
			}
			for _, k := range above[j] {
				if !slices.Contains(above[i], k) {
					t.Errorf("%v is no more than %v, that no more than %v, and yet", a, stamps[j], stamps[k])
				}
			}
		}
	}
}

// P15.3: Max is no less than both, and no more than any stamp that is no less than both, whichever stands first; where it is none of stamps that have numbers, no stamp is no less than both.
func TestMaxIsTheLeast(t *testing.T) {
	stamps := short()
	above := upTo(stamps)
	for i, a := range stamps {
		for j, b := range stamps {
			got := vector.Max(a, b)
			if !slices.Equal(got, vector.Max(b, a)) {
				t.Errorf("Max(%v, %v) hangs on which stands first", a, b)
			}
			if len(a) == len(b) && (!vector.Leq(a, got) || !vector.Leq(b, got)) {
				t.Errorf("Max(%v, %v) = %v, which is not no less than both", a, b, got)
			}
			for _, k := range above[i] {
				if slices.Contains(above[j], k) && !vector.Leq(got, stamps[k]) {
					t.Errorf("Max(%v, %v) = %v, though %v is no less than both", a, b, got, stamps[k])
				}
			}
		}
	}
}

// P15.3: Max of two of which one is no more than the other is that other one, and Max of three hangs on no order.
func TestMaxGoesWithLeq(t *testing.T) {
	stamps := slices.Concat(rows(0, nil), rows(1, stamp(0, 1, most)), rows(2, stamp(0, 1, most)), rows(3, stamp(0, 1, most)))
	for _, a := range stamps {
		for _, b := range stamps {
			if len(a) != len(b) {
				continue
			}
			if m := vector.Max(a, b); vector.Leq(a, b) != slices.Equal(m, b) {
				t.Errorf("Leq(%v, %v), but Max %v", a, b, m)
			}
			for _, c := range stamps {
				if len(c) != len(a) {
					continue
				}
				left, right := vector.Max(vector.Max(a, b), c), vector.Max(a, vector.Max(b, c))
				if !slices.Equal(left, right) {
					t.Errorf("Max of %v, %v, %v: %v, or %v", a, b, c, left, right)
				}
			}
		}
	}
}

// P15.3: one item more is more, of stamps that do not go round.
func TestIncIsMore(t *testing.T) {
	for _, v := range short() {
		for i, x := range v {
			more := vector.Inc(v, i)
			if up := x != most; vector.Leq(v, more) != up || vector.Leq(more, v) == up {
				t.Errorf("%v and Inc(%v, %d) = %v", v, v, i, more)
			}
			for j := range v {
				if !slices.Equal(vector.Inc(more, j), vector.Inc(vector.Inc(v, j), i)) {
					t.Errorf("%v: which of %d and %d is first is told", v, i, j)
				}
			}
		}
	}
}
