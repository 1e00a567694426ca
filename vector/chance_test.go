package vector_test

import (
	"math/big"
	"math/rand"
	"slices"
	"testing"

	"outrider/vector"
)

// model is another reading of the chapter: numbers of any size. Of two that are held against each other it is asked how far they are apart.
type model []*big.Int

func modelOf(v []uint64) model {
	var m model
	for _, x := range v {
		m = append(m, new(big.Int).SetUint64(x))
	}
	return m
}

func (m model) list() []uint64 {
	var v []uint64
	for _, x := range m {
		v = append(v, x.Uint64())
	}
	return v
}

func modelNew(n int) model {
	switch n {
	case 1, 2, 3:
		return modelOf([]uint64{0, 0, 0}[:n])
	}
	return nil
}

// inc takes the number at the place round 2^64.
func (m model) inc(i int) model {
	next := slices.Clone(m)
	for at, x := range m {
		if at == i {
			sum := new(big.Int).Add(x, big.NewInt(1))
			next[at] = sum.Mod(sum, new(big.Int).Lsh(big.NewInt(1), 64))
		}
	}
	return next
}

// missing is of each number how much b has more; below 0: less. Beside a false they have not as many.
func (m model) missing(b model) ([]*big.Int, bool) {
	if len(m) != len(b) {
		return nil, false
	}
	far := make([]*big.Int, len(m))
	for i := range far {
		far[i] = new(big.Int).Sub(b[i], m[i])
	}
	return far, true
}

func (m model) leq(b model) bool {
	far, ok := m.missing(b)
	for _, x := range far {
		ok = ok && x.Sign() >= 0
	}
	return ok
}

// max is half of both together and how far they are apart.
func (m model) max(b model) model {
	far, _ := m.missing(b)
	var out model
	for i, x := range far {
		sum := new(big.Int).Add(m[i], b[i])
		sum.Add(sum, x.Abs(x))
		out = append(out, sum.Rsh(sum, 1))
	}
	return out
}

// known is a stamp that the package answered, or was handed, and what it is by the other reading.
type known struct {
	list []uint64
	m    model
}

// shelf is stamps of which each may be handed in, and written over, at any time.
type shelf struct {
	t   *testing.T
	r   *rand.Rand
	row [8]known
}

func (s *shelf) any() *known { return &s.row[s.r.Intn(len(s.row))] }

// number is small, or near an end.
func (s *shelf) number() uint64 {
	switch s.r.Intn(4) {
	case 0:
		return most - uint64(s.r.Intn(3))
	case 1:
		return s.r.Uint64()
	default:
		return uint64(s.r.Intn(4))
	}
}

// write puts a list of the test's own on the shelf, mostly of up to three numbers, with room behind its end.
func (s *shelf) write() {
	n := s.r.Intn(4)
	if s.r.Intn(8) == 0 {
		n = s.r.Intn(12)
	}
	v := make([]uint64, n, n+s.r.Intn(3))
	for i := range v {
		v[i] = s.number()
	}
	*s.any() = known{v, modelOf(v)}
}

// writeOver changes a number of one stamp, and what lies behind its end: no other one shows it.
func (s *shelf) writeOver() {
	k := s.any()
	room := k.list[:cap(k.list)]
	for i := len(k.list); i < len(room); i++ {
		room[i] = s.number()
	}
	if len(k.list) > 0 {
		k.list[s.r.Intn(len(k.list))] = s.number()
		k.m = modelOf(k.list)
	}
}

func (s *shelf) leq() {
	a, b := s.any(), s.any()
	if got, want := vector.Leq(a.list, b.list), a.m.leq(b.m); got != want {
		s.t.Errorf("Leq(%v, %v) = %v, want %v", a.list, b.list, got, want)
	}
}

func (s *shelf) act() {
	switch s.r.Intn(8) {
	case 0:
		n := s.r.Intn(8) - 2
		*s.any() = known{vector.New(n), modelNew(n)}
	case 1, 2:
		k := s.any()
		i := s.r.Intn(len(k.list)+3) - 1
		*s.any() = known{vector.Inc(k.list, i), k.m.inc(i)}
	case 3, 4:
		a, b := s.any(), s.any()
		*s.any() = known{vector.Max(a.list, b.list), a.m.max(b.m)}
	case 5:
		s.leq()
	case 6:
		s.writeOver()
	default:
		s.write()
	}
}

// look wants all stamps of the shelf as the other reading has them, and some lists held against each other as it does.
func (s *shelf) look(seed int64, step int) {
	for i, k := range s.row {
		if want := k.m.list(); !slices.Equal(k.list, want) {
			s.t.Fatalf("seed %d, step %d: stamp %d is %v, want %v", seed, step, i, k.list, want)
		}
	}
}

// P15.1 to P15.3: rows of calls by chance, whose answers are handed in again and written over, held against the other reading.
func TestChance(t *testing.T) {
	for seed := range int64(400) {
		s := shelf{t: t, r: rand.New(rand.NewSource(seed))}
		for step := range 500 {
			s.act()
			s.leq()
			s.look(seed, step)
		}
	}
}
