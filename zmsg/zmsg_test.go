package zmsg_test

import (
	"bytes"
	"encoding/binary"
	"encoding/hex"
	"math"
	"math/rand"
	"slices"
	"strings"
	"testing"

	"outrider/api"
	"outrider/zmsg"
)

// head is how many bytes stand ahead of the lines.
const head = 1 + 5*8

// kinds are all that there are.
var kinds = []uint8{api.MsgStand, api.MsgPromise, api.MsgRefuse, api.MsgAdopt, api.MsgAppend, api.MsgAck}

// noKinds are some that there are not, at all ends and with a kind's bits in them.
var noKinds = []uint8{0, 7, 8, 9, 16, 64, 127, 128, 129, 134, 254, 255}

// has tells of a kind which letters of "clao" (Current, Lines, At, Commit) it has.
func has(kind uint8, part string) bool {
	return strings.Contains(map[uint8]string{1: "", 2: "cl", 3: "", 4: "l", 5: "aol", 6: "a"}[kind], part)
}

// oracleMay tells whether a message may be, part by part as the chapter's table says.
func oracleMay(m api.Msg) bool {
	if m.Kind < 1 || m.Kind > 6 || m.Epoch < 1 || m.Epoch > 1<<48 {
		return false
	}
	if m.Current > m.Epoch || !has(m.Kind, "c") && m.Current != 0 {
		return false
	}
	if m.At < 0 || m.At > 256 || !has(m.Kind, "a") && m.At != 0 {
		return false
	}
	if m.Commit < 0 || m.Commit > 256 || !has(m.Kind, "o") && m.Commit != 0 {
		return false
	}
	if len(m.Lines) > 256 || !has(m.Kind, "l") && len(m.Lines) != 0 {
		return false
	}
	return !slices.ContainsFunc(m.Lines, func(l api.Line) bool {
		return l.Epoch == 0 || l.Epoch > 1<<48 || len(l.Bytes) == 0 || len(l.Bytes) > 4096
	})
}

// raw is what lies in bytes: numbers of any size, and a count of its own.
type raw struct {
	kind                              uint8
	epoch, current, at, commit, count uint64
	lines                             []api.Line
}

func rawOf(m api.Msg) raw {
	return raw{m.Kind, m.Epoch, m.Current, uint64(int64(m.At)), uint64(int64(m.Commit)), uint64(len(m.Lines)), m.Lines}
}

// bytes lays them as the chapter says, whether they may be or not.
func (r raw) bytes() []byte {
	b := []byte{r.kind}
	for _, n := range []uint64{r.epoch, r.current, r.at, r.commit, r.count} {
		b = binary.BigEndian.AppendUint64(b, n)
	}
	for _, l := range r.lines {
		b = binary.BigEndian.AppendUint64(b, l.Epoch)
		b = binary.BigEndian.AppendUint32(b, uint32(len(l.Bytes)))
		b = append(b, l.Bytes...)
	}
	return b
}

// oracleGet takes bytes apart from the front, and lays what it found again: those are a message's just if it is they.
func oracleGet(b []byte) (api.Msg, bool) {
	if len(b) < head {
		return api.Msg{}, false
	}
	number := func(i int) uint64 { return binary.BigEndian.Uint64(b[1+8*i:]) }
	m := api.Msg{Kind: b[0], Epoch: number(0), Current: number(1), At: int(number(2)), Commit: int(number(3))}
	for rest := b[head:]; len(rest) >= 12; {
		size := uint64(binary.BigEndian.Uint32(rest[8:]))
		if size > uint64(len(rest)-12) {
			return api.Msg{}, false
		}
		m.Lines = append(m.Lines, api.Line{Epoch: binary.BigEndian.Uint64(rest), Bytes: rest[12 : 12+size]})
		rest = rest[12+size:]
	}
	if !oracleMay(m) || !bytes.Equal(rawOf(m).bytes(), b) {
		return api.Msg{}, false
	}
	return m, true
}

func sameLine(a, b api.Line) bool { return a.Epoch == b.Epoch && bytes.Equal(a.Bytes, b.Bytes) }

func same(a, b api.Msg) bool {
	return a.Kind == b.Kind && a.Epoch == b.Epoch && a.Current == b.Current && a.At == b.At && a.Commit == b.Commit && slices.EqualFunc(a.Lines, b.Lines, sameLine)
}

func isZero(m api.Msg) bool { return same(m, api.Msg{}) }

func clone(m api.Msg) api.Msg {
	lines := m.Lines
	m.Lines = nil
	for _, l := range lines {
		m.Lines = append(m.Lines, api.Line{Epoch: l.Epoch, Bytes: slices.Clone(l.Bytes)})
	}
	return m
}

// short is what is told of a message that may be long.
func short(m api.Msg) api.Msg {
	if len(m.Lines) > 3 {
		m.Lines = m.Lines[:3]
	}
	m = clone(m)
	for i, l := range m.Lines {
		m.Lines[i].Bytes = l.Bytes[:min(8, len(l.Bytes))]
	}
	return m
}

func shortBytes(b []byte) string { return hex.EncodeToString(b[:min(80, len(b))]) }

// wantGet wants of these bytes just what the other reading finds in them.
func wantGet(t *testing.T, b []byte) {
	t.Helper()
	want, ok := oracleGet(b)
	m, e := zmsg.Get(b)
	if ok && (e != api.OK || !same(m, want)) {
		t.Fatalf("Get(%s, %d bytes) = %v (%d lines), %v, want %v", shortBytes(b), len(b), short(m), len(m.Lines), e, short(want))
	}
	if !ok && (e != api.ErrForm || !isZero(m)) {
		t.Fatalf("Get(%s, %d bytes) = %v (%d lines), %v, want nothing, ErrForm", shortBytes(b), len(b), short(m), len(m.Lines), e)
	}
	if again, e := zmsg.Put(m); ok && (e != api.OK || !bytes.Equal(again, b)) {
		t.Fatalf("what Get(%s) answers is put as %s, %v", shortBytes(b), shortBytes(again), e)
	}
}

func wantForm(t *testing.T, b []byte) {
	t.Helper()
	if m, e := zmsg.Get(b); e != api.ErrForm || !isZero(m) {
		t.Fatalf("Get(%s, %d bytes) = %v (%d lines), %v, want nothing, ErrForm", shortBytes(b), len(b), short(m), len(m.Lines), e)
	}
}

// wantMay puts the message, and gets its bytes.
func wantMay(t *testing.T, m api.Msg) {
	t.Helper()
	want := rawOf(m).bytes()
	b, e := zmsg.Put(m)
	if e != api.OK || !bytes.Equal(b, want) {
		t.Fatalf("Put(%v, %d lines) = %s, %v, want %s", short(m), len(m.Lines), shortBytes(b), e, shortBytes(want))
	}
	got, e := zmsg.Get(want)
	if e != api.OK || !same(got, m) {
		t.Fatalf("Get of the bytes of %v, %d lines: %v, %v", short(m), len(m.Lines), short(got), e)
	}
}

// wantNot has neither the message put nor bytes that say it got.
func wantNot(t *testing.T, m api.Msg) {
	t.Helper()
	if b, e := zmsg.Put(m); e != api.ErrArg || len(b) != 0 {
		t.Fatalf("Put(%v, %d lines) = %s, %v, want nothing, ErrArg", short(m), len(m.Lines), shortBytes(b), e)
	}
	wantForm(t, rawOf(m).bytes())
}

// want asks the other reading whether it may be.
func want(t *testing.T, m api.Msg) {
	t.Helper()
	if oracleMay(m) {
		wantMay(t, m)
	} else {
		wantNot(t, m)
	}
}

// line is one of so many bytes, which are unlike those of a line of another epoch.
func line(epoch uint64, size int) api.Line {
	b := make([]byte, size)
	for i := range b {
		b[i] = byte(epoch) + byte(i*7) + 1
	}
	return api.Line{Epoch: epoch, Bytes: b}
}

// linesOf are so many, of rising epochs and of few bytes.
func linesOf(n int) []api.Line {
	var l []api.Line
	for i := range n {
		l = append(l, line(uint64(i)+1, i%5+1))
	}
	return l
}

// full is a message of a kind that has something in each part that the kind has, and may be.
func full(kind uint8) api.Msg {
	m := api.Msg{Kind: kind, Epoch: 0x0a0b0c}
	if has(kind, "c") {
		m.Current = 0x070809
	}
	if has(kind, "a") {
		m.At = 0x72
	}
	if has(kind, "o") {
		m.Commit = 0x51
	}
	if has(kind, "l") {
		m.Lines = []api.Line{{Epoch: 2, Bytes: []byte("ab")}, {Epoch: 0x0102030405, Bytes: []byte{0}}, {Epoch: 3, Bytes: []byte("\xff\x00c")}}
	}
	return m
}

// bare is a message of a kind with an epoch alone, which all kinds may be.
func bare(kind uint8) api.Msg { return api.Msg{Kind: kind, Epoch: 5} }

// P11.1, P11.2: the chapter's examples.
func TestExamples(t *testing.T) {
	stand := api.Msg{Kind: api.MsgStand, Epoch: 3}
	b, e := zmsg.Put(stand)
	if wanted := "\x01" + "\x00\x00\x00\x00\x00\x00\x00\x03" + strings.Repeat("\x00", 32); e != api.OK || string(b) != wanted {
		t.Errorf("Put(Stand 3) = %x, %v", b, e)
	}
	if m, e := zmsg.Get(b); e != api.OK || !same(m, stand) {
		t.Errorf("Get of Stand 3: %v, %v", m, e)
	}
	if b, e := zmsg.Put(api.Msg{Kind: api.MsgStand}); e != api.ErrArg || len(b) != 0 {
		t.Errorf("Put(Stand 0) = %x, %v", b, e)
	}
	if b, e := zmsg.Put(api.Msg{Kind: api.MsgStand, Epoch: 3, At: 1}); e != api.ErrArg || len(b) != 0 {
		t.Errorf("Put(Stand 3 with At 1) = %x, %v", b, e)
	}
	wantForm(t, []byte{7})
	wantForm(t, append([]byte{7}, b...))
	b[0] = 7
	wantForm(t, b)
	wantForm(t, nil)
	wantForm(t, []byte{})
}

// P11.1, P11.2: the bytes of each kind, written down.
func TestBytesKnown(t *testing.T) {
	const zero = "\x00\x00\x00\x00\x00\x00\x00\x00"
	const five = "\x00\x00\x00\x00\x00\x00\x00\x05"
	const two = "\x00\x00\x00\x00\x00\x00\x00\x02"
	lines := []api.Line{{Epoch: 2, Bytes: []byte("ab")}, {Epoch: 5, Bytes: []byte("c")}}
	const laid = two + "\x00\x00\x00\x02ab" + five + "\x00\x00\x00\x01c"
	for _, x := range []struct {
		m    api.Msg
		want string
	}{
		{api.Msg{Kind: 1, Epoch: 5}, "\x01" + five + zero + zero + zero + zero},
		{api.Msg{Kind: 2, Epoch: 5, Current: 3, Lines: lines}, "\x02" + five + "\x00\x00\x00\x00\x00\x00\x00\x03" + zero + zero + two + laid},
		{api.Msg{Kind: 3, Epoch: 9}, "\x03\x00\x00\x00\x00\x00\x00\x00\x09" + zero + zero + zero + zero},
		{api.Msg{Kind: 4, Epoch: 5, Lines: lines}, "\x04" + five + zero + zero + zero + two + laid},
		{api.Msg{Kind: 5, Epoch: 5, At: 7, Commit: 6, Lines: lines}, "\x05" + five + zero + "\x00\x00\x00\x00\x00\x00\x00\x07\x00\x00\x00\x00\x00\x00\x00\x06" + two + laid},
		{api.Msg{Kind: 5, Epoch: 1 << 48, At: 256, Commit: 255}, "\x05\x00\x01\x00\x00\x00\x00\x00\x00" + zero + "\x00\x00\x00\x00\x00\x00\x01\x00\x00\x00\x00\x00\x00\x00\x00\xff" + zero},
		{api.Msg{Kind: 6, Epoch: 5, At: 258 - 2}, "\x06" + five + zero + "\x00\x00\x00\x00\x00\x00\x01\x00" + zero + zero},
		{api.Msg{Kind: 2, Epoch: 0x010203040506, Current: 0x010203040505}, "\x02\x00\x00\x01\x02\x03\x04\x05\x06\x00\x00\x01\x02\x03\x04\x05\x05" + zero + zero + zero},
	} {
		b, e := zmsg.Put(x.m)
		if e != api.OK || string(b) != x.want {
			t.Errorf("Put(%v) = %x, %v, want %x", x.m, b, e, x.want)
		}
		if m, e := zmsg.Get([]byte(x.want)); e != api.OK || !same(m, x.m) {
			t.Errorf("Get(%x) = %v, %v, want %v", x.want, m, e, x.m)
		}
	}
}

// P11.1, P11.2: each kind with all that it has, and with nothing but its epoch.
func TestKinds(t *testing.T) {
	for _, kind := range kinds {
		wantMay(t, full(kind))
		wantMay(t, bare(kind))
	}
}

// P11.1, P11.2: no other kind, whatever it has; without an epoch none either.
func TestNoKinds(t *testing.T) {
	for _, kind := range noKinds {
		wantNot(t, api.Msg{Kind: kind})
		wantNot(t, bare(kind))
		for _, other := range kinds {
			m := full(other)
			m.Kind = kind
			wantNot(t, m)
		}
	}
	for kind := range 256 {
		if kind < 1 || kind > 6 {
			wantNot(t, bare(uint8(kind)))
		} else {
			wantMay(t, bare(uint8(kind)))
		}
		wantNot(t, api.Msg{Kind: uint8(kind)})
	}
}

// P11.1, P11.2: epochs from 1 to MaxNumber.
func TestEpochs(t *testing.T) {
	for _, kind := range kinds {
		for _, m := range []api.Msg{full(kind), bare(kind)} {
			m.Current = 0
			for _, e := range []uint64{1, 2, 3, 255, 256, 1 << 31, 1<<32 - 1, 1 << 32, 1<<48 - 1, 1 << 48} {
				m.Epoch = e
				wantMay(t, m)
			}
			for _, e := range []uint64{0, 1<<48 + 1, 1<<48 + 2, 1 << 49, 1 << 56, 1<<63 - 1, 1 << 63, 1<<63 + 1, math.MaxUint64 - 1, math.MaxUint64} {
				m.Epoch = e
				wantNot(t, m)
			}
		}
	}
}

// P11.1, P11.2: Current from 0 to Epoch, of a promise alone.
func TestCurrent(t *testing.T) {
	for _, e := range []uint64{1, 2, 3, 256, 1<<32 + 7, 1<<48 - 1, 1 << 48} {
		for _, kind := range kinds {
			m := full(kind)
			m.Epoch = e
			for _, c := range []uint64{0, 1, 2, e / 2, e - 1, e, e + 1, e + 2, 2 * e, 1 << 48, 1<<48 + 1, 1 << 63, math.MaxUint64} {
				m.Current = c
				if c == 0 || kind == api.MsgPromise && c <= e {
					wantMay(t, m)
				} else {
					wantNot(t, m)
				}
			}
		}
	}
}

// places are what At and Commit are held against: those that may be, and those that may not.
var places = []struct {
	v   int
	may bool
}{
	{0, true}, {1, true}, {2, true}, {127, true}, {128, true}, {254, true}, {255, true}, {256, true},
	{257, false}, {258, false}, {512, false}, {1 << 31, false}, {1 << 32, false}, {1<<32 + 1, false}, {1 << 48, false}, {math.MaxInt - 1, false}, {math.MaxInt, false},
	{-1, false}, {-2, false}, {-256, false}, {-1 << 31, false}, {-1 << 32, false}, {1 - 1<<32, false}, {math.MinInt, false}, {math.MinInt + 1, false},
}

// P11.1, P11.2: At from 0 to MaxLog, of an append and an ack alone, whatever Commit and the lines are.
func TestAt(t *testing.T) {
	for _, kind := range kinds {
		for _, m := range []api.Msg{full(kind), bare(kind)} {
			for _, x := range places {
				m.At = x.v
				if x.v == 0 || x.may && (kind == api.MsgAppend || kind == api.MsgAck) {
					wantMay(t, m)
				} else {
					wantNot(t, m)
				}
			}
		}
	}
}

// P11.1, P11.2: Commit from 0 to MaxLog, of an append alone, whatever At and the lines are.
func TestCommit(t *testing.T) {
	for _, kind := range kinds {
		for _, m := range []api.Msg{full(kind), bare(kind)} {
			for _, x := range places {
				m.Commit = x.v
				if x.v == 0 || x.may && kind == api.MsgAppend {
					wantMay(t, m)
				} else {
					wantNot(t, m)
				}
			}
		}
	}
}

// P11.1, P11.2: At and Commit are not held against each other, nor against how many lines there are.
func TestAtBesideCommit(t *testing.T) {
	for _, at := range []int{0, 1, 100, 256} {
		for _, commit := range []int{0, 1, 100, 256} {
			for _, n := range []int{0, 1, 100, 256} {
				wantMay(t, api.Msg{Kind: api.MsgAppend, Epoch: 1, At: at, Commit: commit, Lines: linesOf(n)})
			}
		}
	}
}

// P11.1, P11.2: up to MaxLog lines, of those that have lines.
func TestHowManyLines(t *testing.T) {
	for _, kind := range kinds {
		for _, n := range []int{0, 1, 2, 3, 7, 100, 255, 256, 257, 258, 300, 512, 513, 1000} {
			m := full(kind)
			m.Lines = linesOf(n)
			if n == 0 || n <= 256 && has(kind, "l") {
				wantMay(t, m)
			} else {
				wantNot(t, m)
			}
		}
		m := full(kind)
		m.Lines = []api.Line{}
		wantMay(t, m)
		m.Lines = linesOf(9)[:0]
		wantMay(t, m)
		m.Lines = nil
		wantMay(t, m)
	}
}

// P11.1, P11.2: a kind that has no lines has none, not even one of nothing.
func TestNoLines(t *testing.T) {
	for _, kind := range kinds {
		for _, l := range [][]api.Line{{{}}, {{}, {}}, {{Epoch: 1}}, {{Bytes: []byte("a")}}, linesOf(1)} {
			m := bare(kind)
			m.Lines = l
			want(t, m)
			if !has(kind, "l") {
				wantNot(t, m)
			}
		}
	}
}

// P11.1, P11.2: a line of each sort, first, in the middle, last, and alone.
func TestLines(t *testing.T) {
	sorts := []struct {
		l   api.Line
		may bool
	}{
		{line(1, 1), true}, {line(1, 2), true}, {line(7, 4095), true}, {line(7, 4096), true}, {line(1<<48-1, 3), true}, {line(1<<48, 3), true}, {line(1<<48, 4096), true},
		{api.Line{Epoch: 1, Bytes: []byte{0}}, true}, {api.Line{Epoch: 1, Bytes: make([]byte, 4096)}, true},
		{line(0, 1), false}, {line(0, 4096), false}, {line(1<<48+1, 1), false}, {line(1<<49, 1), false}, {line(1<<56, 1), false}, {line(1<<63, 1), false}, {line(math.MaxUint64, 1), false},
		{line(1, 0), false}, {line(1<<48, 0), false}, {api.Line{Epoch: 1}, false}, {api.Line{}, false}, {line(1, 4097), false}, {line(1, 4098), false}, {line(1, 8192), false}, {line(1, 65537), false},
		{line(0, 0), false}, {line(0, 4097), false}, {line(1<<48+1, 0), false}, {line(1<<48+1, 4097), false},
	}
	for _, kind := range kinds {
		for _, x := range sorts {
			for _, n := range []int{1, 2, 3, 5} {
				for at := range n {
					m := full(kind)
					m.Lines = linesOf(n)
					m.Lines[at] = x.l
					if x.may && has(kind, "l") {
						wantMay(t, m)
					} else {
						wantNot(t, m)
					}
				}
			}
			for _, at := range []int{0, 128, 255} {
				m := full(kind)
				m.Lines = linesOf(256)
				m.Lines[at] = x.l
				want(t, m)
			}
		}
	}
}

// P11.1, P11.2: the epochs of lines are not held against the message's, nor against each other.
func TestEpochsOfLines(t *testing.T) {
	for _, kind := range []uint8{api.MsgPromise, api.MsgAdopt, api.MsgAppend} {
		for _, e := range []uint64{1, 4, 1 << 48} {
			wantMay(t, api.Msg{Kind: kind, Epoch: e, Lines: []api.Line{line(9, 1), line(1<<48, 2), line(1, 3), line(1, 4), line(4, 5)}})
		}
	}
}

// P11.1, P11.2: the greatest message.
func TestGreatest(t *testing.T) {
	var l []api.Line
	for i := range 256 {
		l = append(l, line(1<<48-uint64(i), 4096))
	}
	for _, kind := range []uint8{api.MsgPromise, api.MsgAdopt, api.MsgAppend} {
		m := api.Msg{Kind: kind, Epoch: 1 << 48, Lines: l}
		if kind == api.MsgPromise {
			m.Current = 1 << 48
		}
		if kind == api.MsgAppend {
			m.At, m.Commit = 256, 256
		}
		wantMay(t, m)
		b := rawOf(m).bytes()
		if len(b) != head+256*(12+4096) || len(b) > api.MaxBytes {
			t.Errorf("%d bytes", len(b))
		}
		wantForm(t, b[:len(b)-1])
		wantForm(t, append(b, 0))
	}
}

// P11.1, P11.2: all kinds, with all of these parts beside each other.
func TestAllParts(t *testing.T) {
	var lists [][]api.Line
	for _, n := range []int{0, 1, 3} {
		lists = append(lists, linesOf(n))
	}
	lists = append(lists, []api.Line{line(0, 1)}, []api.Line{line(2, 0)}, []api.Line{line(1, 1), {}})
	for kind := range uint8(9) {
		for _, e := range []uint64{0, 1, 2, 1 << 48, 1<<48 + 1, math.MaxUint64} {
			for _, c := range []uint64{0, 1, 2, 3, 1 << 48, 1<<48 + 1, math.MaxUint64} {
				for _, at := range []int{-1, 0, 1, 256, 257} {
					for _, commit := range []int{-1, 0, 1, 256, 257} {
						for _, l := range lists {
							want(t, api.Msg{Kind: kind, Epoch: e, Current: c, At: at, Commit: commit, Lines: l})
						}
					}
				}
			}
		}
	}
}

// P11.2: numbers in the bytes of any size, in each place.
func TestGetNumbers(t *testing.T) {
	numbers := []uint64{
		0, 1, 2, 3, 4, 127, 128, 255, 256, 257, 258, 511, 512, 65536, 1<<31 - 1, 1 << 31, 1<<32 - 1, 1 << 32, 1<<32 + 1, 1<<32 + 3, 1<<32 + 256,
		1<<48 - 1, 1 << 48, 1<<48 + 1, 1<<48 + 3, 1 << 49, 1 << 56, 1<<56 + 3, 1<<63 - 1, 1 << 63, 1<<63 + 1, 1<<63 + 3, 1<<63 + 256, math.MaxUint64 - 2, math.MaxUint64 - 1, math.MaxUint64,
	}
	for _, kind := range slices.Concat(kinds, noKinds) {
		for _, m := range []api.Msg{full(kind), bare(kind)} {
			for _, n := range numbers {
				for place := range 5 {
					r := rawOf(m)
					*[]*uint64{&r.epoch, &r.current, &r.at, &r.commit, &r.count}[place] = n
					wantGet(t, r.bytes())
				}
				for i := range m.Lines {
					r := rawOf(clone(m))
					r.lines[i].Epoch = n
					wantGet(t, r.bytes())
				}
			}
		}
	}
}

// P11.2: every beginning of a message's bytes, and more behind them, is none.
func TestGetBeginnings(t *testing.T) {
	for _, kind := range kinds {
		for _, m := range []api.Msg{full(kind), bare(kind), {Kind: kind, Epoch: 1 << 48}} {
			b := rawOf(m).bytes()
			for n := range b {
				wantForm(t, b[:n])
				wantForm(t, slices.Clone(b[:n]))
			}
			for _, more := range []string{"\x00", "\x01", "\xff", "\x00\x00\x00\x00\x00\x00\x00\x00", "\x00\x00\x00\x00\x00\x00\x00\x01\x00\x00\x00\x01a", string(b)} {
				wantForm(t, slices.Concat(b, []byte(more)))
				wantForm(t, slices.Concat([]byte(more), b))
			}
			wantMay(t, m)
		}
	}
}

// P11.2: bytes that are handed in with others behind their end are read to that end.
func TestGetReadsToTheEnd(t *testing.T) {
	for _, kind := range kinds {
		m := full(kind)
		b := rawOf(m).bytes()
		for n := range b {
			wantForm(t, b[:n:len(b)])
		}
		long := append(slices.Clone(b), 1, 2, 3)
		if got, e := zmsg.Get(long[:len(b)]); e != api.OK || !same(got, m) {
			t.Errorf("kind %d: %v, %v", kind, got, e)
		}
	}
}

// P11.2: a number in more bytes than it needs, in fewer ones, and with the lowest byte first.
func TestGetOtherWidths(t *testing.T) {
	for _, kind := range kinds {
		for _, m := range []api.Msg{full(kind), bare(kind)} {
			b := rawOf(m).bytes()
			for place := range 5 {
				at := 1 + 8*place
				for _, zeros := range []int{1, 2, 3, 8} {
					wantForm(t, slices.Insert(slices.Clone(b), at, make([]byte, zeros)...))
				}
				for _, fewer := range []int{1, 4, 7, 8} {
					wantForm(t, slices.Delete(slices.Clone(b), at, at+fewer))
				}
				turned := slices.Clone(b)
				slices.Reverse(turned[at : at+8])
				if !bytes.Equal(turned, b) {
					wantForm(t, turned)
				}
			}
			if len(m.Lines) > 0 {
				for _, at := range []int{head, head + 8} { // the first line's epoch, and its text's length
					wantForm(t, slices.Insert(slices.Clone(b), at, 0))
					wantForm(t, slices.Insert(slices.Clone(b), at, 0, 0, 0, 0))
					wantForm(t, slices.Delete(slices.Clone(b), at, at+1))
					wantForm(t, slices.Delete(slices.Clone(b), at, at+4))
				}
			}
		}
	}
}

// P11.2: a count of lines that is another one than the lines that are there.
func TestGetOtherCounts(t *testing.T) {
	for _, kind := range kinds {
		for _, there := range []int{0, 1, 2, 3, 255, 256, 257} {
			r := rawOf(bare(kind))
			r.lines = linesOf(there)
			for _, count := range []int{0, 1, 2, 3, 4, 254, 255, 256, 257, 1 << 20, 1 << 31, 1 << 32, 1<<32 + there, 1<<62 + there, math.MaxInt} {
				r.count = uint64(count)
				wantGet(t, r.bytes())
				if count != there {
					wantForm(t, r.bytes())
				}
			}
			for _, count := range []uint64{1 << 63, 1<<63 + uint64(there), math.MaxUint64} {
				r.count = count
				wantForm(t, r.bytes())
			}
		}
	}
}

// P11.2: a text's length that is another one than the bytes that are there: first, in the middle, last.
func TestGetOtherLengths(t *testing.T) {
	for _, kind := range []uint8{api.MsgPromise, api.MsgAdopt, api.MsgAppend} {
		m := bare(kind)
		m.Lines = []api.Line{line(3, 5), line(4, 6), line(5, 7)}
		b := rawOf(m).bytes()
		at := head
		for _, l := range m.Lines {
			for _, n := range []uint32{0, 1, 2, 3, 4, 5, 6, 7, 8, 17, 18, 19, 20, 100, 4095, 4096, 4097, 1 << 16, 1 << 20, 1<<31 - 1, 1 << 31, 1<<31 + 5, 1<<32 - 5, 1<<32 - 1} {
				other := slices.Clone(b)
				binary.BigEndian.PutUint32(other[at+8:], n)
				wantGet(t, other)
				if int(n) != len(l.Bytes) {
					wantForm(t, other)
				}
			}
			at += 12 + len(l.Bytes)
		}
	}
}

// P11.2: each byte changed, to all others.
func TestGetChanged(t *testing.T) {
	for _, kind := range slices.Concat(kinds, noKinds[:2]) {
		for _, m := range []api.Msg{full(kind), bare(kind), {Kind: kind, Epoch: 1 << 48, Lines: linesOf(1)}, {Kind: kind, Epoch: 300, Current: 300, At: 256, Commit: 256, Lines: linesOf(2)}} {
			b := rawOf(m).bytes()
			for i := range b {
				for x := 1; x < 256; x++ {
					b[i] ^= byte(x)
					wantGet(t, b)
					b[i] ^= byte(x)
				}
			}
			wantGet(t, b)
		}
	}
}

// P11.2: short rows of bytes are none, nor is a head of bytes that are all alike.
func TestGetAlike(t *testing.T) {
	for n := range 200 {
		for v := range 256 {
			wantGet(t, bytes.Repeat([]byte{byte(v)}, n))
		}
	}
	for kind := range 256 {
		wantForm(t, append([]byte{byte(kind)}, make([]byte, head-1)...))
	}
}

// P11.2: bytes by chance, most of them near a message's.
func TestGetByChance(t *testing.T) {
	r := rand.New(rand.NewSource(3))
	for range 200000 {
		m := anyMessage(r)
		b := rawOf(m).bytes()
		for range r.Intn(4) {
			switch i := r.Intn(len(b)); r.Intn(5) {
			case 0:
				b[i] = byte(r.Intn(256))
			case 1:
				b[i] = byte(r.Intn(4))
			case 2:
				b = slices.Insert(b, i, byte(r.Intn(3)))
			case 3:
				if len(b) > 1 {
					b = slices.Delete(b, i, i+1)
				}
			case 4:
				b = append(b, b[i:]...)
			}
		}
		wantGet(t, b)
	}
}

// anyMessage is one that often may be.
func anyMessage(r *rand.Rand) api.Msg {
	m := api.Msg{Kind: uint8(r.Intn(7)), Epoch: uint64(r.Intn(1 << 16))}
	if has(m.Kind, "c") {
		m.Current = uint64(r.Intn(int(m.Epoch) + 2))
	}
	if has(m.Kind, "a") {
		m.At = r.Intn(258)
	}
	if has(m.Kind, "o") {
		m.Commit = r.Intn(258)
	}
	if has(m.Kind, "l") {
		for range r.Intn(5) {
			m.Lines = append(m.Lines, line(uint64(r.Intn(40)), r.Intn(20)))
		}
	}
	return m
}

// P11.1, P11.3: messages by chance.
func TestPutByChance(t *testing.T) {
	r := rand.New(rand.NewSource(4))
	for range 100000 {
		m := anyMessage(r)
		if r.Intn(3) == 0 {
			switch r.Intn(5) {
			case 0:
				m.Epoch = r.Uint64() >> r.Intn(64)
			case 1:
				m.Current = r.Uint64() >> r.Intn(64)
			case 2:
				m.At = int(r.Uint64()) >> r.Intn(64)
			case 3:
				m.Commit = int(r.Uint64()) >> r.Intn(64)
			case 4:
				m.Lines = append(m.Lines, line(r.Uint64()>>r.Intn(64), r.Intn(4)))
			}
		}
		want(t, m)
	}
}

// withRoom is the same message in memory with room behind each end, which is to stay as it is.
func withRoom(m api.Msg) api.Msg {
	lines := make([]api.Line, 0, len(m.Lines)+3)
	for _, l := range m.Lines {
		b := append(make([]byte, 0, len(l.Bytes)+9), l.Bytes...)
		copy(b[len(b):cap(b)], "roomroom.")
		lines = append(lines, api.Line{Epoch: l.Epoch, Bytes: b})
	}
	m.Lines = lines
	copy(lines[len(lines):cap(lines)], []api.Line{{Epoch: 71, Bytes: []byte("x")}, {Epoch: 72, Bytes: []byte("y")}, {Epoch: 73}})
	return m
}

// wantRoom wants the room behind to be as withRoom left it.
func wantRoom(t *testing.T, m api.Msg) {
	t.Helper()
	for _, l := range m.Lines {
		if behind := l.Bytes[len(l.Bytes):cap(l.Bytes)]; !strings.HasPrefix(string(behind), "roomroom.") {
			t.Fatalf("behind a line's bytes: %q", behind)
		}
	}
	behind := m.Lines[len(m.Lines):cap(m.Lines)]
	if behind[0].Epoch != 71 || string(behind[0].Bytes) != "x" || behind[1].Epoch != 72 || string(behind[1].Bytes) != "y" || behind[2].Epoch != 73 || behind[2].Bytes != nil {
		t.Fatalf("behind the lines: %v", behind)
	}
}

// P11.1: Put leaves what it is handed as it was, also where it may not be.
func TestPutLeavesItsArgument(t *testing.T) {
	for _, kind := range slices.Concat(kinds, noKinds) {
		for _, was := range []api.Msg{full(kind), {Kind: kind, Epoch: 3, Lines: linesOf(9)}, {Kind: kind, Epoch: 3, Lines: linesOf(256)}, {Kind: kind, Epoch: 3, Lines: linesOf(257)}, {Kind: kind, Epoch: 3, Lines: []api.Line{line(1, 4), line(0, 3)}}} {
			m := withRoom(was)
			for range 2 {
				b, _ := zmsg.Put(m)
				for i := range b {
					b[i] ^= 0x5a
				}
				_ = append(b, "more"...)
			}
			if !same(m, was) {
				t.Fatalf("%v became %v", short(was), short(m))
			}
			wantRoom(t, m)
		}
	}
}

// P11.1: what Put answered stays as it is, whatever becomes of what it was handed, and of other answers.
func TestPutIsNewMemory(t *testing.T) {
	for _, kind := range kinds {
		m := clone(full(kind))
		first, _ := zmsg.Put(m)
		second, _ := zmsg.Put(m)
		was := slices.Clone(first)
		for i := range second {
			second[i] = 0xee
		}
		for i, l := range m.Lines {
			for j := range l.Bytes {
				l.Bytes[j] = 0xdd
			}
			m.Lines[i] = api.Line{}
		}
		if !bytes.Equal(first, was) {
			t.Errorf("kind %d: %x became %x", kind, was, first)
		}
	}
}

// P11.2: what Get answers does not change when the bytes it read are written over, nor do they when it is.
func TestGetIsNewMemory(t *testing.T) {
	for _, kind := range kinds {
		for _, m := range []api.Msg{full(kind), bare(kind)} {
			b := rawOf(m).bytes()
			was := slices.Clone(b)
			first, _ := zmsg.Get(b)
			second, _ := zmsg.Get(b)
			for i, l := range second.Lines {
				for j := range l.Bytes {
					l.Bytes[j] ^= 0xff
				}
				second.Lines[i].Epoch = 77
			}
			if !bytes.Equal(b, was) {
				t.Errorf("kind %d: the bytes follow the answer: %x", kind, b)
			}
			for i := range b {
				b[i] = 0xee
			}
			if !same(first, m) {
				t.Errorf("kind %d: %v became %v", kind, m, first)
			}
		}
	}
}

// P11.2: no two lists of an answer share memory, the room behind their ends neither.
func TestGetListsShareNone(t *testing.T) {
	for _, kind := range []uint8{api.MsgPromise, api.MsgAdopt, api.MsgAppend} {
		for _, n := range []int{2, 3, 100, 256} {
			m := bare(kind)
			m.Lines = linesOf(n)
			got, _ := zmsg.Get(rawOf(m).bytes())
			for i, l := range got.Lines {
				_ = append(l.Bytes, bytes.Repeat([]byte{0xcc}, 40)...)
				whole := l.Bytes[:cap(l.Bytes)]
				for j := len(l.Bytes); j < len(whole); j++ {
					whole[j] = 0xcc
				}
				if !same(got, m) {
					t.Fatalf("kind %d: behind line %d others lie: %v", kind, i, short(got))
				}
			}
			for i, l := range got.Lines {
				for j := range l.Bytes {
					l.Bytes[j] = 0xbb
				}
				if !slices.EqualFunc(got.Lines[i+1:], m.Lines[i+1:], sameLine) {
					t.Fatalf("kind %d: line %d shares memory with those behind it", kind, i)
				}
			}
		}
	}
}

// P11.2: Get leaves the bytes as they are, also where they are none of a message.
func TestGetLeavesItsArgument(t *testing.T) {
	for _, kind := range slices.Concat(kinds, noKinds) {
		whole := append(rawOf(full(kind)).bytes(), "room behind"...)
		was := slices.Clone(whole)
		for n := range whole {
			zmsg.Get(whole[:n])
			if !bytes.Equal(whole, was) {
				t.Fatalf("kind %d, %d bytes: %x became %x", kind, n, was, whole)
			}
		}
	}
}

// P11.1, P11.2: what is answered hangs on the arguments alone, not on what was asked between.
func TestAfterOthers(t *testing.T) {
	for _, kind := range kinds {
		for _, other := range slices.Concat(kinds, noKinds) {
			want(t, full(other))
			wantMay(t, full(kind))
			wantForm(t, rawOf(full(other)).bytes()[:9])
			wantMay(t, bare(kind))
			wantNot(t, api.Msg{Kind: other, Epoch: 1 << 60, Lines: linesOf(3)})
			wantMay(t, full(kind))
		}
	}
}

// unlike are messages that may be, of which no two are the same: each part stands for itself once.
func unlike() []api.Msg {
	lists := [][]api.Line{
		nil, {{Epoch: 1, Bytes: []byte("ab")}}, {{Epoch: 2, Bytes: []byte("ab")}}, {{Epoch: 1, Bytes: []byte("a")}, {Epoch: 1, Bytes: []byte("b")}}, {{Epoch: 1, Bytes: []byte("b")}, {Epoch: 1, Bytes: []byte("a")}},
		{{Epoch: 1, Bytes: []byte("a")}, {Epoch: 1, Bytes: []byte("bc")}}, {{Epoch: 1, Bytes: []byte("ab")}, {Epoch: 1, Bytes: []byte("c")}}, {{Epoch: 1, Bytes: []byte("abc")}},
		{{Epoch: 1, Bytes: []byte("a")}, {Epoch: 2, Bytes: []byte("b")}}, {{Epoch: 2, Bytes: []byte("a")}, {Epoch: 1, Bytes: []byte("b")}},
		{{Epoch: 1, Bytes: []byte{0}}}, {{Epoch: 1, Bytes: []byte{0, 0}}}, {{Epoch: 1, Bytes: []byte{0}}, {Epoch: 1, Bytes: []byte{0}}},
		{{Epoch: 1, Bytes: []byte("a\x00\x00\x00\x00\x00\x00\x00\x01\x00\x00\x00\x01b")}}, // as the bytes of two lines
		{line(1, 4096)}, {line(1, 4095)}, linesOf(255), linesOf(256),
	}
	var all []api.Msg
	for _, kind := range kinds {
		for _, e := range []uint64{1, 2, 256, 1 << 48} {
			for _, c := range []uint64{0, 1, 2, 256, 1 << 48} {
				for _, at := range []int{0, 1, 2, 255, 256} {
					for _, commit := range []int{0, 1, 2, 255, 256} {
						for _, l := range lists {
							if m := (api.Msg{Kind: kind, Epoch: e, Current: c, At: at, Commit: commit, Lines: l}); oracleMay(m) {
								all = append(all, m)
							}
						}
					}
				}
			}
		}
	}
	return all
}

// P11.3: what is put is got; unlike messages have unlike bytes, like ones like bytes.
func TestUnlikeBytes(t *testing.T) {
	seen := map[string]api.Msg{}
	for _, m := range unlike() {
		b, e := zmsg.Put(m)
		if e != api.OK {
			t.Fatalf("Put(%v): %v", short(m), e)
		}
		if other, ok := seen[string(b)]; ok {
			t.Fatalf("%v and %v have the same bytes", short(m), short(other))
		}
		seen[string(b)] = m
		if got, e := zmsg.Get(b); e != api.OK || !same(got, m) {
			t.Fatalf("%v is got as %v, %v", short(m), short(got), e)
		}
		if again, e := zmsg.Put(withRoom(m)); e != api.OK || !bytes.Equal(again, b) {
			t.Fatalf("%v has other bytes the second time", short(m))
		}
	}
}

// P11.3: what is put is got, one part changed at a time, and the bytes are no longer the same.
func TestOnePartChanged(t *testing.T) {
	changes := []func(m *api.Msg){
		func(m *api.Msg) { m.Kind = m.Kind%6 + 1 },
		func(m *api.Msg) { m.Epoch++ },
		func(m *api.Msg) { m.Current++ },
		func(m *api.Msg) { m.At++ },
		func(m *api.Msg) { m.Commit++ },
		func(m *api.Msg) { m.At, m.Commit = m.Commit, m.At },
		func(m *api.Msg) { m.Lines = append(m.Lines, line(9, 1)) },
		func(m *api.Msg) { m.Lines[0].Epoch++ },
		func(m *api.Msg) { m.Lines[len(m.Lines)-1].Bytes[0]++ },
		func(m *api.Msg) { m.Lines[1].Bytes = append(m.Lines[1].Bytes, 0) },
		func(m *api.Msg) { m.Lines = m.Lines[1:] },
		func(m *api.Msg) { m.Lines = m.Lines[:2] },
		func(m *api.Msg) { slices.Reverse(m.Lines) },
	}
	for _, kind := range kinds {
		was := full(kind)
		b, _ := zmsg.Put(was)
		for i, change := range changes {
			m := clone(was)
			if i >= 7 && len(m.Lines) == 0 {
				continue
			}
			change(&m)
			want(t, m)
			if other, e := zmsg.Put(m); e == api.OK && bytes.Equal(other, b) && !same(m, was) {
				t.Errorf("kind %d, change %d: the same bytes", kind, i)
			}
		}
	}
}
