package wire_test

import (
	"bytes"
	"math"
	"slices"
	"testing"

	"outrider/api"
	"outrider/wire"
)

// A thing is what can be put and read: how it is put, its bytes, and whether the reader reads it back.
type thing struct {
	name  string
	put   func(b []byte) []byte
	bytes string
	back  func(r *wire.Reader) bool
}

func byteThing(name string, v uint8, s string) thing {
	return thing{name, func(b []byte) []byte { return wire.Byte(b, v) }, s, func(r *wire.Reader) bool { return r.Byte() == v }}
}

func uintThing(name string, v uint64, s string) thing {
	return thing{name, func(b []byte) []byte { return wire.Uint(b, v) }, s, func(r *wire.Reader) bool { return r.Uint() == v }}
}

func intThing(name string, v int64, s string) thing {
	return thing{name, func(b []byte) []byte { return wire.Int(b, v) }, s, func(r *wire.Reader) bool { return r.Int() == v }}
}

func textThing(name, v, s string) thing {
	return thing{name, func(b []byte) []byte { return wire.Text(b, []byte(v)) }, s, func(r *wire.Reader) bool { return string(r.Text()) == v }}
}

func things() []thing {
	long := string(bytes.Repeat([]byte{0xa5}, 0x10203))
	return []thing{
		byteThing("byte 0", 0, "\x00"),
		byteThing("byte 7", 7, "\x07"),
		byteThing("byte 255", 255, "\xff"),
		uintThing("uint 0", 0, "\x00\x00\x00\x00\x00\x00\x00\x00"),
		uintThing("uint 258", 258, "\x00\x00\x00\x00\x00\x00\x01\x02"),
		uintThing("uint of 8 bytes", 0x0102030405060708, "\x01\x02\x03\x04\x05\x06\x07\x08"),
		uintThing("uint 2^63", 1<<63, "\x80\x00\x00\x00\x00\x00\x00\x00"),
		uintThing("uint greatest", math.MaxUint64, "\xff\xff\xff\xff\xff\xff\xff\xff"),
		intThing("int 0", 0, "\x00\x00\x00\x00\x00\x00\x00\x00"),
		intThing("int 258", 258, "\x00\x00\x00\x00\x00\x00\x01\x02"),
		intThing("int -1", -1, "\xff\xff\xff\xff\xff\xff\xff\xff"),
		intThing("int -2", -2, "\xff\xff\xff\xff\xff\xff\xff\xfe"),
		intThing("int -256", -256, "\xff\xff\xff\xff\xff\xff\xff\x00"),
		intThing("int least", math.MinInt64, "\x80\x00\x00\x00\x00\x00\x00\x00"),
		intThing("int greatest", math.MaxInt64, "\x7f\xff\xff\xff\xff\xff\xff\xff"),
		textThing("text none", "", "\x00\x00\x00\x00"),
		textThing("text ab", "ab", "\x00\x00\x00\x02ab"),
		textThing("text of zeros", "\x00\x00\x00\x00", "\x00\x00\x00\x04\x00\x00\x00\x00"),
		textThing("text no utf-8", "\xff\xfe", "\x00\x00\x00\x02\xff\xfe"),
		textThing("text long", long, "\x00\x01\x02\x03"+long),
	}
}

// P1.1: ordinary inputs and edges, behind nothing and behind something.
func TestPutBytes(t *testing.T) {
	for _, x := range things() {
		for _, front := range []string{"", "\x07", "front"} {
			if got := x.put([]byte(front)); string(got) != front+x.bytes {
				t.Errorf("%s behind %q: %x", x.name, front, got)
			}
		}
		if got := x.put(nil); string(got) != x.bytes {
			t.Errorf("%s behind nil: %x", x.name, got)
		}
	}
	if got := wire.Text(nil, nil); string(got) != "\x00\x00\x00\x00" {
		t.Errorf("a nil text: %x", got)
	}
}

// P1.1: new memory; the room behind the end of what is handed in is left alone.
func TestPutIsNewMemory(t *testing.T) {
	for _, x := range things() {
		whole := bytes.Repeat([]byte{0xee}, 64)
		front := whole[:3]
		got := x.put(front)
		if !bytes.Equal(whole, bytes.Repeat([]byte{0xee}, 64)) {
			t.Errorf("%s: what was handed in was changed", x.name)
		}
		again := x.put(front)
		for i := range got {
			got[i] = 0x11
		}
		if !bytes.Equal(whole, bytes.Repeat([]byte{0xee}, 64)) {
			t.Errorf("%s: the answer shares memory with what was handed in", x.name)
		}
		if string(again) != "\xee\xee\xee"+x.bytes {
			t.Errorf("%s: two answers share memory", x.name)
		}
	}
}

// P1.1: a text is copied, also where it lies in the list that it is put behind.
func TestPutTextIsCopied(t *testing.T) {
	s := []byte("ab")
	got := wire.Text(nil, s)
	s[0] = 'x'
	if string(got) != "\x00\x00\x00\x02ab" {
		t.Errorf("the answer follows the argument: %x", got)
	}
	got[4] = 'y'
	if string(s) != "xb" {
		t.Errorf("the argument follows the answer: %q", s)
	}
	b := []byte("abcdef")
	if got := wire.Text(b[:2], b[1:5]); string(got) != "ab\x00\x00\x00\x04bcde" || string(b) != "abcdef" {
		t.Errorf("of one memory: %x, and the argument is %q", got, b)
	}
}

// P1.2: what is there is read, and nothing more than it.
func TestReadBytes(t *testing.T) {
	for _, x := range things() {
		r := wire.New([]byte(x.bytes))
		if !x.back(r) || r.Done() != api.OK {
			t.Errorf("%s: not read back, or %v", x.name, r.Done())
		}
		r = wire.New([]byte(x.bytes + "\x09"))
		if !x.back(r) || r.Done() != api.ErrForm {
			t.Errorf("%s with a byte behind: not read back, or %v", x.name, r.Done())
		}
		if v := r.Byte(); v != 9 || r.Done() != api.OK {
			t.Errorf("%s: the byte behind: %d, %v", x.name, v, r.Done())
		}
	}
}

// ask has the reader answer all that can be asked, and tells whether one answer was something.
func ask(r *wire.Reader) bool {
	return r.Byte() != 0 || r.Uint() != 0 || r.Int() != 0 || len(r.Text()) != 0 || r.Count(math.MaxInt) != 0
}

// P1.2: what is cut short is not there, wherever it is cut, and what is left of it is not read either.
func TestReadCutShort(t *testing.T) {
	kinds := []struct {
		name  string
		whole string
		zero  func(r *wire.Reader) bool
	}{
		{"Byte", "\x01", func(r *wire.Reader) bool { return r.Byte() == 0 }},
		{"Uint", "\x01\x02\x03\x04\x05\x06\x07\x08", func(r *wire.Reader) bool { return r.Uint() == 0 }},
		{"Int", "\xff\xff\xff\xff\xff\xff\xff\xff", func(r *wire.Reader) bool { return r.Int() == 0 }},
		{"Text", "\x00\x00\x00\x09ninebytes", func(r *wire.Reader) bool { return len(r.Text()) == 0 }},
		{"Count", "\x00\x00\x00\x00\x00\x01\x01\x01", func(r *wire.Reader) bool { return r.Count(math.MaxInt) == 0 }},
	}
	for _, k := range kinds {
		for n := range len(k.whole) {
			r := wire.New([]byte(k.whole[:n]))
			if !k.zero(r) || r.Done() != api.ErrForm {
				t.Errorf("%s of %d bytes: something, or %v", k.name, n, r.Done())
			}
			if ask(r) || r.Done() != api.ErrForm {
				t.Errorf("%s of %d bytes, asked again: something, or %v", k.name, n, r.Done())
			}
		}
	}
}

// P1.2: a length past the end, up to the greatest that 4 bytes tell.
func TestReadTextTooLong(t *testing.T) {
	for _, b := range []string{"\x00\x00\x00\x01", "\x00\x00\x00\x03ab", "\x7f\xff\xff\xffab", "\x80\x00\x00\x00ab", "\xff\xff\xff\xff", "\xff\xff\xff\xffab"} {
		r := wire.New([]byte(b))
		if s := r.Text(); len(s) != 0 || r.Done() != api.ErrForm {
			t.Errorf("%x: %q, %v", b, s, r.Done())
		}
		if ask(r) {
			t.Errorf("%x: something behind it", b)
		}
	}
}

// P1.2: an empty text is a text: the reader goes on behind it, and is not bad.
func TestReadEmptyText(t *testing.T) {
	r := wire.New([]byte("\x00\x00\x00\x00\x05"))
	if s := r.Text(); len(s) != 0 {
		t.Errorf("%q", s)
	}
	if v := r.Byte(); v != 5 || r.Done() != api.OK {
		t.Errorf("%d, %v", v, r.Done())
	}
}

// P1.2: a reader of no bytes has nothing, but is done till it is asked.
func TestReadNothing(t *testing.T) {
	for _, b := range [][]byte{nil, {}} {
		r := wire.New(b)
		if r == nil {
			t.Fatal("no reader")
		}
		if e := r.Done(); e != api.OK {
			t.Errorf("not asked: %v", e)
		}
		if ask(r) || r.Done() != api.ErrForm {
			t.Errorf("asked: something, or %v", r.Done())
		}
	}
}

// P1.2: a reader that went bad with bytes left tells none of them, whatever is asked.
func TestBadReaderStaysBad(t *testing.T) {
	ways := map[string]func(r *wire.Reader){
		"Uint":  func(r *wire.Reader) { r.Uint() },
		"Int":   func(r *wire.Reader) { r.Int() },
		"Text":  func(r *wire.Reader) { r.Text() },
		"Count": func(r *wire.Reader) { r.Count(9) },
		"Bad":   func(r *wire.Reader) { r.Bad() },
	}
	for name, spoil := range ways {
		r := wire.New([]byte("\x00\x00\x00\x04abc"))
		spoil(r)
		for range 3 {
			if ask(r) || r.Done() != api.ErrForm {
				t.Errorf("bad by %s: something, or %v", name, r.Done())
			}
		}
	}
}

// P1.2: what is handed to New is neither changed nor kept, and readers do not share what they read.
func TestReaderKeepsItsOwn(t *testing.T) {
	whole := []byte("\x00\x00\x00\x02ab\x00\x00\x00\x02cdroom")
	b := whole[:12]
	r, other := wire.New(b), wire.New(b)
	first := r.Text()
	if string(whole) != "\x00\x00\x00\x02ab\x00\x00\x00\x02cdroom" {
		t.Errorf("reading changed what was handed in: %x", whole)
	}
	for i := range b {
		b[i] = 0xff
	}
	if string(first) != "ab" {
		t.Errorf("a text follows what was handed in: %q", first)
	}
	first[0] = 'x'
	_ = append(first, "\xff\xff\xff\xff"...)
	if s := r.Text(); string(s) != "cd" || r.Done() != api.OK {
		t.Errorf("the second text: %q, %v", s, r.Done())
	}
	if s, u := other.Text(), other.Text(); string(s) != "ab" || string(u) != "cd" || other.Done() != api.OK {
		t.Errorf("the other reader: %q, %q, %v", s, u, other.Done())
	}
}

// P1.3: Count below, at and above most, with most below 0, and with numbers that no int tells.
func TestCount(t *testing.T) {
	cases := []struct {
		number uint64
		most   int
		want   int
		e      api.Errno
	}{
		{0, 0, 0, api.OK},
		{0, 5, 0, api.OK},
		{2, 3, 2, api.OK},
		{3, 3, 3, api.OK},
		{3, 2, 0, api.ErrForm},
		{1, 0, 0, api.ErrForm},
		{0, -1, 0, api.ErrForm},
		{3, -1, 0, api.ErrForm},
		{3, math.MinInt, 0, api.ErrForm},
		{math.MaxInt, math.MaxInt, math.MaxInt, api.OK},
		{math.MaxInt, math.MaxInt - 1, 0, api.ErrForm},
		{math.MaxInt + 1, math.MaxInt, 0, api.ErrForm},
		{math.MaxUint64, math.MaxInt, 0, api.ErrForm},
		{math.MaxUint64, 5, 0, api.ErrForm},
		{math.MaxUint64, -1, 0, api.ErrForm},
		{math.MaxUint64 - 4, -1, 0, api.ErrForm},
		{1 << 32, 5, 0, api.ErrForm},
	}
	for _, c := range cases {
		r := wire.New(wire.Uint(nil, c.number))
		if got := r.Count(c.most); got != c.want || r.Done() != c.e {
			t.Errorf("Count(%d) of %d: %d, %v", c.most, c.number, got, r.Done())
		}
	}
}

// P1.3: Count moves on by one number; a count that may not be makes bad, though bytes are left.
func TestCountMovesOn(t *testing.T) {
	b := wire.Byte(wire.Uint(nil, 3), 9)
	r := wire.New(b)
	if n, v := r.Count(3), r.Byte(); n != 3 || v != 9 || r.Done() != api.OK {
		t.Errorf("%d, %d, %v", n, v, r.Done())
	}
	for _, most := range []int{2, -1} {
		r := wire.New(b)
		if n, v := r.Count(most), r.Byte(); n != 0 || v != 0 || r.Done() != api.ErrForm {
			t.Errorf("Count(%d): %d, %d, %v", most, n, v, r.Done())
		}
	}
	r = wire.New(nil)
	if n := r.Count(-1); n != 0 || r.Done() != api.ErrForm {
		t.Errorf("Count(-1) of no bytes: %d, %v", n, r.Done())
	}
}

// P1.3: Bad makes bad, with bytes left or none, and for good.
func TestBad(t *testing.T) {
	for _, b := range []string{"", "\x01", "\x00\x00\x00\x01a"} {
		r := wire.New([]byte(b))
		r.Bad()
		r.Bad()
		if ask(r) || r.Done() != api.ErrForm {
			t.Errorf("%x: something, or %v", b, r.Done())
		}
	}
}

// P1.3: Done with bytes left, and that it changes nothing.
func TestDone(t *testing.T) {
	r := wire.New([]byte{1, 2})
	for i, want := range []api.Errno{api.ErrForm, api.ErrForm, api.OK} {
		if e, again := r.Done(), r.Done(); e != want || again != want {
			t.Errorf("behind %d bytes: %v, %v", i, e, again)
		}
		if i < 2 && int(r.Byte()) != i+1 {
			t.Errorf("byte %d was not read", i)
		}
	}
	if v := r.Byte(); v != 0 || r.Done() != api.ErrForm {
		t.Errorf("past the end: %d, %v", v, r.Done())
	}
}

// P1.3: of a nil reader all is 0, or nothing, and it stays nil whatever it is asked.
func TestNilReader(t *testing.T) {
	var r *wire.Reader
	for range 2 {
		if ask(r) || r.Count(-1) != 0 || r.Count(0) != 0 {
			t.Error("something of nil")
		}
		r.Bad()
		if e := r.Done(); e != api.ErrNil {
			t.Errorf("Done of nil: %v", e)
		}
	}
}

// readAll reads these things one by one, and tells whether each was what was put.
func readAll(row []thing, b []byte) (bool, api.Errno) {
	r, all := wire.New(b), true
	for _, x := range row {
		all = x.back(r) && all
	}
	return all, r.Done()
}

// P1.4: every thing behind every other, and all of them in a row, both ways round.
func TestOneBehindTheOther(t *testing.T) {
	all := things()
	rows := [][]thing{nil, all, slices.Clone(all)}
	slices.Reverse(rows[2])
	for _, x := range all {
		for _, y := range all {
			rows = append(rows, []thing{x, y}, []thing{x, y, x})
		}
	}
	for _, row := range rows {
		var b []byte
		for _, x := range row {
			b = x.put(b)
		}
		if ok, e := readAll(row, b); !ok || e != api.OK {
			t.Fatalf("%d things, the bytes %.40x: %v, %v", len(row), b, ok, e)
		}
		if len(b) == 0 {
			continue
		}
		if _, e := readAll(row, b[:len(b)-1]); e != api.ErrForm {
			t.Fatalf("%d things without the last byte of %.40x: %v", len(row), b, e)
		}
		if _, e := readAll(row, append(slices.Clone(b), 0)); e != api.ErrForm {
			t.Fatalf("%d things with a byte behind %.40x: %v", len(row), b, e)
		}
	}
}

// P1.4: cut anywhere, not at the last byte alone, it is not done.
func TestCutAnywhere(t *testing.T) {
	row := things()
	row = row[:len(row)-1]
	var b []byte
	for _, x := range row {
		b = x.put(b)
	}
	for n := range len(b) {
		if _, e := readAll(row, b[:n]); e != api.ErrForm {
			t.Errorf("cut at %d: %v", n, e)
		}
	}
}

// R1: no bytes make a reader panic, and a reader that is not bad read what the bytes say.
func FuzzReader(f *testing.F) {
	f.Add([]byte{}, []byte{})
	f.Add([]byte{0, 1, 2, 3, 4, 5}, []byte("\x00\x00\x00\x02ab"))
	f.Add([]byte{3, 0, 3, 2, 1}, []byte("\x00\x00\x00\x02ab\x07\xff\xff\xff\xff\xff"))
	f.Add([]byte{4, 3, 5}, []byte("\x00\x00\x00\x00\x00\x00\x00\x09\x00\x00\x00\x00"))
	f.Fuzz(func(t *testing.T, asks, b []byte) {
		r := wire.New(b)
		var told []byte
		for _, a := range asks {
			switch a % 6 {
			case 0:
				told = wire.Byte(told, r.Byte())
			case 1:
				told = wire.Uint(told, r.Uint())
			case 2:
				told = wire.Int(told, r.Int())
			case 3:
				told = wire.Text(told, r.Text())
			case 4:
				told = wire.Uint(told, uint64(r.Count(int(int8(a)))))
			case 5:
				if a > 250 {
					r.Bad()
				}
			}
		}
		if r.Done() == api.OK && !bytes.Equal(told, b) {
			t.Errorf("of %x was told %x", b, told)
		}
	})
}

// The chapter's section 'Examples'.
func TestExamples(t *testing.T) {
	if b := wire.Uint(nil, 258); string(b) != "\x00\x00\x00\x00\x00\x00\x01\x02" {
		t.Errorf("Uint: %x", b)
	}
	if b := wire.Int(nil, -1); string(b) != "\xff\xff\xff\xff\xff\xff\xff\xff" {
		t.Errorf("Int: %x", b)
	}
	if b := wire.Text([]byte{7}, []byte("ab")); string(b) != "\x07\x00\x00\x00\x02ab" {
		t.Errorf("Text: %x", b)
	}
	r := wire.New([]byte("\x00\x00\x00\x02a"))
	if s, v := r.Text(), r.Byte(); len(s) != 0 || v != 0 || r.Done() != api.ErrForm {
		t.Errorf("cut short: %q, %d, %v", s, v, r.Done())
	}
	r = wire.New(wire.Uint(nil, 3))
	if n := r.Count(2); n != 0 || r.Done() != api.ErrForm {
		t.Errorf("Count(2): %d, %v", n, r.Done())
	}
	r = wire.New(wire.Uint(nil, 3))
	if n := r.Count(3); n != 3 || r.Done() != api.OK {
		t.Errorf("Count(3): %d, %v", n, r.Done())
	}
}
