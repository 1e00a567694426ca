package net_test

import (
	"encoding/binary"
	"fmt"
	"maps"
	"math/rand"
	"slices"
	"testing"

	"outrider/api"
	"outrider/net"
)

// model is another reading of the chapter: letters are texts that stand by the time at which they were last put behind all; a link is both its ways, told apart, each with how it was told last.
type model struct {
	nodes  map[api.Addr]bool
	clock  int
	from   map[int]api.Addr
	to     map[int]api.Addr
	text   map[int]string
	closed map[string]bool
}

func newModel(sizes []int) *model {
	m := &model{
		nodes: map[api.Addr]bool{}, from: map[int]api.Addr{}, to: map[int]api.Addr{},
		text: map[int]string{}, closed: map[string]bool{},
	}
	for _, a := range addresses(sizes...) {
		m.nodes[a] = true
	}
	return m
}

func (m *model) put(from, to api.Addr, text string) {
	m.clock++
	m.from[m.clock], m.to[m.clock], m.text[m.clock] = from, to, text
}

func (m *model) times() []int { return slices.Sorted(maps.Keys(m.text)) }

func (m *model) lose(time int) {
	delete(m.from, time)
	delete(m.to, time)
	delete(m.text, time)
}

func (m *model) row() []api.Letter {
	var all []api.Letter
	for _, time := range m.times() {
		all = append(all, letter(m.from[time], m.to[time], m.text[time]))
	}
	return all
}

func way(a, b api.Addr) string { return fmt.Sprint(a, " ", b) }

func (m *model) isLink(a, b api.Addr) bool { return m.nodes[a] && m.nodes[b] && a != b }

func (m *model) send(l api.Letter) api.Errno {
	switch {
	case !m.isLink(l.From, l.To), len(l.Bytes) > 1<<21:
		return 1
	case len(m.text) == 4096:
		return 4
	}
	m.put(l.From, l.To, string(l.Bytes))
	return 0
}

// at answers what Take, Drop, Double or Hold (by its letter) of number i does, and whose time it is about.
func (m *model) at(what byte, i int) (api.Errno, api.Letter) {
	times := m.times()
	if i < 0 || i > len(times)-1 {
		return 1, api.Letter{}
	}
	time := times[i]
	from, to, text := m.from[time], m.to[time], m.text[time]
	switch what {
	case 't':
		if m.closed[way(from, to)] {
			return 65, api.Letter{}
		}
		m.lose(time)
		return 0, letter(from, to, text)
	case 'd':
		m.lose(time)
	case '2':
		if len(times) == 4096 {
			return 4, api.Letter{}
		}
		m.put(from, to, text)
	case 'h':
		m.lose(time)
		m.put(from, to, text)
	}
	return 0, api.Letter{}
}

func (m *model) link(a, b api.Addr, closed bool) api.Errno {
	if !m.isLink(a, b) {
		return 1
	}
	m.closed[way(a, b)], m.closed[way(b, a)] = closed, closed
	return 0
}

// act is a call: its letter, and what it is handed.
type act struct {
	what byte
	i    int
	a, b api.Addr
	text string
}

func (c act) String() string { return fmt.Sprintf("%c(%d %v %v %q)", c.what, c.i, c.a, c.b, c.text) }

// do does it on both, and wants like answers.
func do(t *testing.T, n *net.Net, m *model, c act) api.Errno {
	t.Helper()
	var got, want api.Errno
	var l, wanted api.Letter
	switch c.what {
	case 's':
		sent := letter(c.a, c.b, c.text)
		want = m.send(sent)
		got = n.Send(sent)
		spoilBytes(sent.Bytes)
	case 't':
		want, wanted = m.at('t', c.i)
		l, got = n.Take(c.i)
	case 'd':
		want, _ = m.at('d', c.i)
		got = n.Drop(c.i)
	case '2':
		want, _ = m.at('2', c.i)
		got = n.Double(c.i)
	case 'h':
		want, _ = m.at('h', c.i)
		got = n.Hold(c.i)
	case 'c':
		want = m.link(c.a, c.b, true)
		got = n.Cut(c.a, c.b)
	case 'e':
		want = m.link(c.a, c.b, false)
		got = n.Heal(c.a, c.b)
	}
	if got != want || !sameLetter(l, wanted) {
		t.Fatalf("%v: %v, %s, want %v, %s", c, got, tell([]api.Letter{l}), want, tell([]api.Letter{wanted}))
	}
	spoilBytes(l.Bytes)
	return got
}

// wantLike wants both to have the same letters, and the same links cut.
func wantLike(t *testing.T, n *net.Net, m *model, all []api.Addr) {
	t.Helper()
	wantRow(t, n, m.row()...)
	for _, a := range all {
		for _, b := range all {
			if n.Cuts(a, b) != m.closed[way(a, b)] {
				t.Fatalf("Cuts(%v, %v): %v", a, b, n.Cuts(a, b))
			}
		}
	}
}

// P13.1 to P13.5: all short rows of acts.
func TestShortRows(t *testing.T) {
	x, y, z := at(0, 0), at(1, 0), at(1, 1)
	acts := []act{
		{what: 's', a: x, b: y, text: "a"}, {what: 's', a: z, b: y, text: "bc"}, {what: 's', a: y, b: x},
		{what: 't', i: 0}, {what: 't', i: 1}, {what: 'd', i: 0}, {what: 'd', i: 1}, {what: '2', i: 0}, {what: '2', i: 1},
		{what: 'h', i: 0}, {what: 'h', i: 1}, {what: 'c', a: x, b: y}, {what: 'c', a: y, b: z}, {what: 'e', a: y, b: x}, {what: 'e', a: z, b: y},
	}
	const long = 4
	total := 1
	for range long {
		total *= len(acts)
	}
	for number := range total {
		n, m := newNet(t, 1, 2), newModel([]int{1, 2})
		for range long {
			do(t, n, m, acts[number%len(acts)])
			number /= len(acts)
		}
		wantLike(t, n, m, []api.Addr{x, y, z})
	}
}

// some answers an act by chance, of a net of these addresses with so many letters; now and then what may not be.
func some(r *rand.Rand, own []api.Addr, letters, next int, kinds string) act {
	c := act{what: kinds[r.Intn(len(kinds))], i: r.Intn(letters + 1), a: own[r.Intn(len(own))], b: own[r.Intn(len(own))]}
	switch r.Intn(12) {
	case 0:
		c.i = r.Intn(letters+9) - 4
	case 1:
		c.a = at(r.Intn(7)-1, r.Intn(6)-1)
	case 2:
		c.b = at(r.Intn(7)-1, r.Intn(6)-1)
	case 3:
		c.i = 0
	}
	c.text = string(binary.AppendUvarint(nil, uint64(next))) + "letter"[:r.Intn(7)]
	return c
}

// P13.5: long rows of acts by chance, against the other reading; each letter is counted.
func TestChance(t *testing.T) {
	shapes := [][]int{{2}, {3}, {1, 1}, {1, 2}, {3, 3, 1}, {1, 3, 2, 3}}
	for seed := range 60 {
		r := rand.New(rand.NewSource(int64(seed)))
		sizes := shapes[seed%len(shapes)]
		own := addresses(sizes...)
		n, m := newNet(t, sizes...), newModel(sizes)
		may, taken := map[string]int{}, map[string]int{}
		sum := 0
		kinds := []string{"ssst2dhce", "sst2dhceee", "stttttd2hce"}[r.Intn(3)]
		for step := range 400 {
			c := some(r, own, n.Len(), step, kinds)
			held := ""
			if c.i >= 0 && c.i < n.Len() {
				held = key(n.Letters()[c.i])
			}
			if do(t, n, m, c) == api.OK {
				switch c.what {
				case 's':
					may[key(letter(c.a, c.b, c.text))]++
					sum++
				case '2':
					may[held]++
					sum++
				case 't':
					taken[held]++
					sum--
				case 'd':
					sum--
				}
			}
			wantLike(t, n, m, own)
			for k, times := range taken {
				if times > may[k] {
					t.Fatalf("seed %d: %q was taken %d times, sent and doubled %d times", seed, k, times, may[k])
				}
			}
			if n.Len() != sum {
				t.Fatalf("seed %d: %d letters are under way, of %d", seed, n.Len(), sum)
			}
		}
	}
}

func key(l api.Letter) string { return fmt.Sprint(l.From, l.To, string(l.Bytes)) }

// P13.5: the same with a net that is full, or nearly so.
func TestChanceFull(t *testing.T) {
	r := rand.New(rand.NewSource(99))
	sizes := []int{2, 3}
	own := addresses(sizes...)
	n, m := newNet(t, sizes...), newModel(sizes)
	for i := range api.MaxLetters - 5 {
		do(t, n, m, act{what: 's', a: own[i%5], b: own[(i+1+i/5%4)%5], text: fmt.Sprint(i)})
	}
	met := map[api.Errno]int{}
	for step := range 250 {
		c := some(r, own, n.Len(), step, "ss2222thdce")
		met[do(t, n, m, c)]++
		wantLike(t, n, m, own)
	}
	for _, e := range []api.Errno{api.OK, api.ErrArg, api.ErrCut, api.ErrFull} {
		if met[e] == 0 {
			t.Errorf("%v was never answered: %v", e, met)
		}
	}
}

// P13.5: a letter that was sent once, and doubled so often, is taken so often, and then no more.
func TestTakenAsOftenAsDoubled(t *testing.T) {
	for doubles := range 9 {
		n := newNet(t, 1, 2)
		l := letter(at(1, 1), at(0, 0), "once")
		send(t, n, l, api.OK)
		for i := range doubles {
			wantErrno(t, "Double", n.Double(i/2), api.OK)
		}
		for range doubles + 1 {
			take(t, n, n.Len()/2, l)
		}
		wantNoTake(t, n, 0, api.ErrArg)
		wantRow(t, n)
	}
}
