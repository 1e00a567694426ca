package crc_test

import (
	"bytes"
	"fmt"
	"hash/crc64"
	"math/rand"
	"testing"

	"outrider/crc"
)

// The library's table of this polynomial: another way to the same check, which the program does not take.
var library = crc64.MakeTable(crc64.ECMA)

func wantSum(t *testing.T, b []byte) {
	t.Helper()
	if got, want := crc.Sum(b), crc64.Checksum(b, library); got != want {
		t.Errorf("Sum(%d bytes, %.20x ..) = %016x, want %016x", len(b), b, got, want)
	}
}

// random is n bytes that are the same ones in each run.
func random(seed int64, n int) []byte {
	b := make([]byte, n)
	rand.New(rand.NewSource(seed)).Read(b)
	return b
}

// P2.1: the chapter's examples, and checks that are written down, so that the library is not the only witness.
func TestSumKnown(t *testing.T) {
	for _, x := range []struct {
		name string
		b    []byte
		want uint64
	}{
		{"nil", nil, 0},
		{"none", []byte{}, 0},
		{"none, of more room", []byte("abc")[:0], 0},
		{"123456789", []byte("123456789"), 0x995dc9bbdf1939fa},
		{"a byte 0", []byte{0}, 0x1fada17364673f59},
		{"a byte 255", []byte{255}, 0xff00000000000000},
		{"a", []byte("a"), 0x330284772e652b05},
	} {
		if got := crc.Sum(x.b); got != x.want {
			t.Errorf("Sum(%s) = %016x, want %016x", x.name, got, x.want)
		}
	}
}

// P2.1: one byte of each value, alone, at the beginning and at the end.
func TestSumOneByte(t *testing.T) {
	seen := map[uint64]int{}
	for v := range 256 {
		b := []byte{byte(v)}
		wantSum(t, b)
		wantSum(t, append([]byte("front"), b...))
		wantSum(t, append(b, "behind"...))
		if w, ok := seen[crc.Sum(b)]; ok {
			t.Errorf("bytes %d and %d have one check", v, w)
		}
		seen[crc.Sum(b)] = v
	}
}

// P2.1: rows of each length up to more than a page, of all kinds of bytes.
func TestSumRows(t *testing.T) {
	for n := range 600 {
		wantSum(t, bytes.Repeat([]byte{0}, n))
		wantSum(t, bytes.Repeat([]byte{0xff}, n))
		wantSum(t, random(int64(n), n))
	}
	wantSum(t, random(1, 1<<20))
}

// P2.1: how many zeros a row has is told, in front and behind, and the order of its bytes.
func TestSumZerosAndOrder(t *testing.T) {
	rows := []string{"", "\x00", "\x00\x00", "ab", "ba", "\x00ab", "ab\x00", "\x00\x00ab", "a\x00b", "ab\x00\x00"}
	for i, a := range rows {
		for _, b := range rows[:i] {
			if crc.Sum([]byte(a)) == crc.Sum([]byte(b)) {
				t.Errorf("%q and %q have one check", a, b)
			}
		}
	}
}

// P2.1: what is handed in stays as it is, with the room around it, and what lies there is not summed.
func TestSumLeavesItsArgument(t *testing.T) {
	whole := random(3, 64)
	was := bytes.Clone(whole)
	first := crc.Sum(whole[16:32])
	if !bytes.Equal(whole, was) {
		t.Error("what was handed in was changed")
	}
	whole[15], whole[32] = ^whole[15], ^whole[32]
	if crc.Sum(whole[16:32]) != first {
		t.Error("what lies around the row was summed")
	}
	crc.Sum([]byte("another row between"))
	if crc.Sum(whole[16:32]) != first {
		t.Error("the same row has another check later")
	}
}

// lengths are those of the rows whose bytes become other ones: shorter than eight bytes, eight, a little longer, a page.
var lengths = []int{1, 2, 3, 7, 8, 9, 10, 15, 16, 17, 24, 64, 512}

// places are where eight bytes, or as many as there are, begin in a row: all of a short row; of a long one the beginning, the middle and the end.
func places(n int) []int {
	if n <= 8 {
		return []int{0}
	}
	var out []int
	for at := range n - 7 {
		if n <= 64 || at < 3 || at >= n-10 || at >= n/2-4 && at <= n/2+4 {
			out = append(out, at)
		}
	}
	return out
}

// wantOther wants that the row with these bytes at that place is another one than the row, and has another check.
func wantOther(t *testing.T, row []byte, at int, put []byte) {
	t.Helper()
	other := bytes.Clone(row)
	copy(other[at:], put)
	if bytes.Equal(other, row) {
		t.Fatalf("the test put the same bytes at %d", at)
	}
	if crc.Sum(other) == crc.Sum(row) {
		t.Errorf("%d bytes, %x at %d instead of %x: one check", len(row), put, at, row[at:at+len(put)])
	}
}

// P2.2: eight bytes, or fewer, that become other ones, anywhere.
func TestSumTellsEightBytes(t *testing.T) {
	for _, n := range lengths {
		row := random(int64(n), n)
		for _, at := range places(n) {
			for wide := 1; wide <= min(8, n-at); wide++ {
				for _, turn := range turns(wide) {
					for i := range turn {
						turn[i] ^= row[at+i]
					}
					wantOther(t, row, at, turn)
				}
			}
		}
	}
}

// turns are some ways to turn bits of so many bytes over: all, the lowest of the last byte, and others; none is to turn nothing.
func turns(wide int) [][]byte {
	all, last := bytes.Repeat([]byte{0xff}, wide), make([]byte, wide)
	last[wide-1] = 1
	out := [][]byte{all, last}
	for seed := range int64(4) {
		b := random(seed, wide)
		b[0] |= 1
		out = append(out, b)
	}
	return out
}

// P2.2: every bit of a row, each alone, the last byte but one and the last among them.
func TestSumTellsOneBit(t *testing.T) {
	for _, n := range lengths {
		row := random(int64(n), n)
		for at := range row {
			for bit := range 8 {
				wantOther(t, row, at, []byte{row[at] ^ 1<<bit})
			}
		}
	}
}

// P2.2: the last byte but one, and it with its neighbours, of every value.
func TestSumTellsLastButOne(t *testing.T) {
	for _, n := range lengths[1:] {
		row := random(int64(n), n)
		at := n - 2
		for v := 1; v < 256; v++ {
			x := byte(v)
			wantOther(t, row, at, []byte{row[at] ^ x})
			wantOther(t, row, at, []byte{row[at] ^ x, row[at+1] ^ x})
			if at > 0 {
				wantOther(t, row, at-1, []byte{row[at-1] ^ x, row[at] ^ x})
			}
		}
	}
}

// P2.2: that bytes change places is told, too.
func TestSumTellsBytesThatChangePlaces(t *testing.T) {
	row := []byte("0123456789abcdef")
	for at := range row {
		for far := 1; far < 8 && at+far < len(row); far++ {
			put := bytes.Clone(row[at : at+far+1])
			put[0], put[far] = put[far], put[0]
			wantOther(t, row, at, put)
		}
	}
}

// P2.2 for all of the 2^64 - 1 other ways that eight bytes can be: which bits of the check turn over is a sum, without carry, of what each turned bit does alone (TestSumAdds), and those 64 rows of bits have no sum that is 0.
func TestSumTellsAllOfEightBytes(t *testing.T) {
	for _, n := range lengths {
		row := random(int64(n), n)
		for _, at := range places(n) {
			wide := min(8, n-at)
			if got := rank(bitsTurned(row, at, wide)); got != 8*wide {
				t.Errorf("%d bytes, %d of them at %d: rank %d", n, wide, at, got)
			}
		}
	}
}

// P2.2: what two changes together do to the check is what each does alone, added without carry.
func TestSumAdds(t *testing.T) {
	for _, n := range lengths {
		a, b, c, all := random(1, n), random(2, n), random(3, n), make([]byte, n)
		for i := range all {
			all[i] = a[i] ^ b[i] ^ c[i]
		}
		if crc.Sum(a)^crc.Sum(b)^crc.Sum(c) != crc.Sum(all) {
			t.Errorf("%d bytes: the checks do not add up", n)
		}
	}
}

// bitsTurned tells for each bit of the row's bytes from at on, as many as wide, which bits of the check turn over with it.
func bitsTurned(row []byte, at, wide int) []uint64 {
	var out []uint64
	for i := range 8 * wide {
		other := bytes.Clone(row)
		other[at+i/8] ^= 1 << (i % 8)
		out = append(out, crc.Sum(other)^crc.Sum(row))
	}
	return out
}

// rank is how many of the rows are no sum of others, without carry.
func rank(rows []uint64) int {
	n := 0
	for bit := range 64 {
		for i := n; i < len(rows); i++ {
			if rows[i]>>bit&1 == 0 {
				continue
			}
			rows[n], rows[i] = rows[i], rows[n]
			for j := range rows {
				if j != n && rows[j]>>bit&1 == 1 {
					rows[j] ^= rows[n]
				}
			}
			n++
			break
		}
	}
	return n
}

func FuzzSum(f *testing.F) {
	f.Add([]byte(nil), 0, []byte("x"))
	f.Add([]byte("123456789"), 1, []byte("87654321"))
	f.Fuzz(func(t *testing.T, row []byte, at int, put []byte) {
		wantSum(t, row)
		other := bytes.Clone(row)
		if at < 0 || at >= len(row) {
			return
		}
		copy(other[at:], put[:min(8, len(put))])
		if !bytes.Equal(row, other) && crc.Sum(row) == crc.Sum(other) {
			t.Errorf("%x and %x have one check", row, other)
		}
	})
}

func BenchmarkSum(b *testing.B) {
	page := random(1, 512)
	b.SetBytes(int64(len(page)))
	for b.Loop() {
		crc.Sum(page)
	}
}

func ExampleSum() {
	fmt.Printf("%016x\n", crc.Sum([]byte("123456789")))
	fmt.Println(crc.Sum(nil))
	// Output:
	// 995dc9bbdf1939fa
	// 0
}
