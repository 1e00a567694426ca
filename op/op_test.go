package op_test

import (
	"bytes"
	"fmt"
	"maps"
	"math"
	"math/rand"
	"slices"
	"strings"
	"testing"

	"outrider/api"
	"outrider/op"
	"outrider/path"
	"outrider/tree"
)

var (
	none    api.Session
	who     = api.Session{Site: 1, N: 7}
	another = api.Session{Site: 0, N: 9}
)

// longest is a path of as many bytes as may be; seqLongest has room for ten digits and no more.
var (
	longest    = "/r/" + strings.Repeat("n", api.MaxPath-3)
	seqLongest = longest[:api.MaxPath-10]
)

var noPaths = []string{
	"", "r", "r/a", " ", ".", "..", "//", "/r/", "/r//a", "/.", "/..", "/r/.", "/r/..", "/r/../r", "/r/a/", "r/", "/r/\x00", "/r/\x1f", "/r/\x7f",
	"/r/\xff", "/r/\ufffd", "/r/\xc3", longest + "n", longest + "/", longest + "/d", "/r/" + strings.Repeat("n", 1000),
}

// singles are all kinds but that of a multi.
var singles = []uint8{api.OpCreate, api.OpDelete, api.OpSet, api.OpCheck, api.OpGet, api.OpKids}

func create(p, data string) api.Op { return api.Op{Kind: api.OpCreate, Path: p, Data: []byte(data)} }

func seq(p string) api.Op { return api.Op{Kind: api.OpCreate, Path: p, Data: []byte("s"), Seq: true} }

func eph(p string) api.Op { return api.Op{Kind: api.OpCreate, Path: p, Data: []byte("e"), Eph: true} }

func remove(p string, version int64) api.Op {
	return api.Op{Kind: api.OpDelete, Path: p, Version: version}
}

func set(p, data string, version int64) api.Op {
	return api.Op{Kind: api.OpSet, Path: p, Data: []byte(data), Version: version}
}

func check(p string, version int64) api.Op {
	return api.Op{Kind: api.OpCheck, Path: p, Version: version}
}

func get(p string) api.Op { return api.Op{Kind: api.OpGet, Path: p} }

func kids(p string) api.Op { return api.Op{Kind: api.OpKids, Path: p} }

func multi(parts ...api.Op) api.Op { return api.Op{Kind: api.OpMulti, Parts: parts} }

// node is one of which no field is zero, but that it goes with no session.
func node(n uint32) api.Znode {
	return api.Znode{
		Data: fmt.Appendf(nil, "data %d", n), Version: n + 1, Kin: n + 2, Next: n + 3,
		Made: uint64(n) + 6, Changed: uint64(n) + 7, Touched: uint64(n) + 8,
	}
}

func owned(n api.Znode) api.Znode {
	n.Owner = another
	return n
}

func put(p string, n api.Znode) api.Effect { return api.Effect{Path: p, Node: n} }

func gone(p string) api.Effect { return api.Effect{Path: p, Gone: true} }

func row(l ...api.Effect) []api.Effect { return l }

// treeOf is a new tree of that root to which the effects were applied, one at a time.
func treeOf(t *testing.T, root string, l ...api.Effect) *tree.Tree {
	t.Helper()
	x, e := tree.New(root)
	if e != api.OK {
		t.Fatalf("New(%q): %v", root, e)
	}
	for i, f := range l {
		if e := x.Apply(row(f)); e != api.OK {
			t.Fatalf("effect %d, %+v: %v", i, f, e)
		}
	}
	return x
}

// given is a tree of /r with some nodes: its At is 5.
func given(t *testing.T) *tree.Tree {
	t.Helper()
	return treeOf(t, "/r", put("/r", node(10)), put("/r/a", node(20)), put("/r/a/b", node(30)), put("/r/own", owned(node(40))), put("/r/own/x", node(50)))
}

// full is a tree of /r that has room for so many nodes more. /r/own goes with a session.
func full(t *testing.T, room int) *tree.Tree {
	t.Helper()
	l := row(put("/r/own", owned(node(1))), put("/r/own/x", node(2)))
	for i := len(l) + 1; i < api.MaxZnodes-room; i++ {
		l = append(l, put(fmt.Sprintf("/r/n%02d", i), node(uint32(i))))
	}
	return treeOf(t, "/r", l...)
}

// tell says all that a tree answers of itself.
func tell(x *tree.Tree) string {
	var b strings.Builder
	fmt.Fprintf(&b, "root %q, at %d\n", x.Root(), x.At())
	for _, p := range x.Paths() {
		n, ok := x.Get(p)
		fmt.Fprintf(&b, "%q: %v, %+v\n", p, ok, n)
	}
	return b.String()
}

// told says an answer, or an operation. An empty list is told as nil is.
func told(l ...any) string { return fmt.Sprintf("%+v", l) }

func wantCheck(t *testing.T, what string, o api.Op, want api.Errno) {
	t.Helper()
	if e := op.Check(o); e != want {
		t.Errorf("Check of %s: %v, want %v", what, e, want)
	}
}

// wantDo wants that answer, and all that holds of any answer: the tree and the operation stay as they are, an answer is new each time, effects fit, and an error has none.
func wantDo(t *testing.T, x *tree.Tree, o api.Op, by api.Session, effects []api.Effect, reply api.Reply) {
	t.Helper()
	o = withRoom(o)
	was, asked, want := tell(x), toldWithRoom(o), told(effects, reply)
	l, r := op.Do(x, o, by)
	if got := told(l, r); got != want {
		t.Fatalf("%+v of %v:\n%s\nwant\n%s\nof\n%s", o, by, got, want, was)
	}
	if e := x.Clone().Apply(l); x != nil && e != api.OK {
		t.Fatalf("%+v: the effects %+v do not fit: %v", o, l, e)
	}
	wantApart(t, bytesOf(o, l, r))
	if got := toldWithRoom(o); got != asked {
		t.Fatalf("%s became %s", asked, got)
	}
	if got := tell(x); got != was {
		t.Fatalf("behind %+v the tree is\n%swas\n%s", o, got, was)
	}
	if got := told(op.Do(x, o, by)); got != want {
		t.Fatalf("%+v again:\n%s\nwant\n%s", o, got, want)
	}
}

// wantErr wants an error alone. (With a multi's Parts it is wanted by wantDo.)
func wantErr(t *testing.T, x *tree.Tree, o api.Op, by api.Session, want api.Errno) {
	t.Helper()
	wantDo(t, x, o, by, nil, api.Reply{E: want})
}

// withRoom is a like operation, of which no lists share memory, each with room behind its end.
func withRoom(o api.Op) api.Op {
	o.Data = append(make([]byte, 0, len(o.Data)+5), o.Data...)
	if o.Parts == nil {
		return o
	}
	parts := append(make([]api.Op, 0, len(o.Parts)+2), o.Parts...)
	for i, part := range parts {
		parts[i].Data = append(make([]byte, 0, len(part.Data)+5), part.Data...)
	}
	o.Parts = parts
	return o
}

// toldWithRoom says an operation, and what stands in the room behind its lists.
func toldWithRoom(o api.Op) string {
	data := bytesOf(o, nil, api.Reply{})
	for i, b := range data {
		data[i] = b[:cap(b)]
	}
	return told(o, o.Parts[:cap(o.Parts)], data)
}

// bytesOf are all data of an operation and of its answer.
func bytesOf(o api.Op, l []api.Effect, r api.Reply) [][]byte {
	all := [][]byte{o.Data, r.Node.Data}
	for _, part := range o.Parts {
		all = append(all, part.Data)
	}
	for _, f := range l {
		all = append(all, f.Node.Data)
	}
	for _, part := range r.Parts {
		all = append(all, part.Node.Data)
	}
	return all
}

// wantApart writes to all the data, and to the room behind them, and takes that back: none of them shows what was written to another one.
func wantApart(t *testing.T, all [][]byte) {
	t.Helper()
	var was [][]byte
	for i, b := range all {
		was = append(was, bytes.Clone(b[:cap(b)]))
		fill(b[:cap(b)], byte(i))
	}
	for i, b := range all {
		b = b[:cap(b)]
		if slices.ContainsFunc(b, func(c byte) bool { return c != byte(i) }) {
			t.Fatalf("data %d of %d share memory with other ones", i, len(all))
		}
	}
	for i, b := range all {
		copy(b[:cap(b)], was[i])
	}
}

func fill(b []byte, c byte) {
	for i := range b {
		b[i] = c
	}
}

// do does an operation that is to be answered without an error, applies its effects, and answers the reply.
func do(t *testing.T, x *tree.Tree, o api.Op, by api.Session) api.Reply {
	t.Helper()
	l, r := op.Do(x, o, by)
	if r.E != api.OK {
		t.Fatalf("%+v: %v", o, r.E)
	}
	if e := x.Apply(l); e != api.OK {
		t.Fatalf("%+v: the effects %+v do not fit: %v", o, l, e)
	}
	return r
}

// P5.1: of all kinds without parts those may be that are no multi.
func TestCheckKind(t *testing.T) {
	for kind := range 256 {
		want := api.ErrArg
		if slices.Contains(singles, uint8(kind)) {
			want = api.OK
		}
		wantCheck(t, fmt.Sprint("kind ", kind), api.Op{Kind: uint8(kind)}, want)
		wantCheck(t, fmt.Sprint("kind ", kind, " with an empty list"), api.Op{Kind: uint8(kind), Parts: []api.Op{}}, want)
	}
	wantCheck(t, "the zero operation", api.Op{}, api.ErrArg)
}

// P5.1: parts are a multi's alone, of 1 to MaxMulti.
func TestCheckParts(t *testing.T) {
	for _, n := range []int{0, 1, 2, api.MaxMulti - 1, api.MaxMulti, api.MaxMulti + 1, api.MaxMulti + 2, 256, 257, 70000} {
		parts, want := make([]api.Op, n), api.OK
		for i := range parts {
			parts[i] = get("/r")
		}
		if n == 0 || n > 6 {
			want = api.ErrArg
		}
		wantCheck(t, fmt.Sprint("a multi of ", n), multi(parts...), want)
		for kind := range 256 {
			if kind == int(api.OpMulti) || n == 0 {
				continue
			}
			wantCheck(t, fmt.Sprint("kind ", kind, " with ", n, " parts"), api.Op{Kind: uint8(kind), Parts: parts}, api.ErrArg)
		}
	}
}

// P5.1: each part may be, and is no multi, whichever it is.
func TestCheckEachPart(t *testing.T) {
	for n := 1; n <= api.MaxMulti; n++ {
		for at := range n {
			parts := make([]api.Op, n)
			for i := range parts {
				parts[i] = set("/r", "x", -1)
			}
			for kind := range 256 {
				want := api.ErrArg
				if slices.Contains(singles, uint8(kind)) {
					want = api.OK
				}
				parts[at] = api.Op{Kind: uint8(kind)}
				wantCheck(t, fmt.Sprint("a multi of ", n, " with kind ", kind, " at ", at), multi(parts...), want)
			}
			parts[at] = multi(get("/r"))
			wantCheck(t, "a multi within a multi", multi(parts...), api.ErrArg)
			parts[at] = api.Op{Kind: api.OpGet, Parts: []api.Op{get("/r")}}
			wantCheck(t, "a part that has a part", multi(parts...), api.ErrArg)
			parts[at] = api.Op{Kind: api.OpGet, Parts: []api.Op{}}
			wantCheck(t, "a part with an empty list", multi(parts...), api.OK)
		}
	}
}

// P5.1: a list that has itself as a part of a part.
func TestCheckEndless(t *testing.T) {
	parts := make([]api.Op, 1)
	parts[0] = api.Op{Kind: api.OpMulti, Parts: parts}
	wantCheck(t, "a multi of itself", multi(parts...), api.ErrArg)
	wantErr(t, given(t), api.Op{Kind: api.OpGet, Parts: make([]api.Op, 1)}, who, api.ErrArg)
	if l, r := op.Do(given(t), multi(parts...), who); len(l) > 0 || r.E != api.ErrArg || len(r.Parts) > 0 {
		t.Errorf("a multi of itself: %+v, %+v", l, r)
	}
}

// P5.1: at most MaxData bytes, of every kind, also of one that does nothing with them; in a multi, and in each of its parts.
func TestCheckData(t *testing.T) {
	for _, n := range []int{0, 1, api.MaxData - 1, api.MaxData, api.MaxData + 1, 2 * api.MaxData, 256, 1 << 16} {
		data, want := make([]byte, n), api.OK
		if n > 64 {
			want = api.ErrLong
		}
		for _, kind := range singles {
			long := api.Op{Kind: kind, Data: data}
			wantCheck(t, fmt.Sprint("kind ", kind, " of ", n, " bytes"), long, want)
			for at := range api.MaxMulti {
				parts := slices.Repeat([]api.Op{get("/r")}, api.MaxMulti)
				parts[at] = long
				wantCheck(t, fmt.Sprint("a multi with kind ", kind, " of ", n, " bytes at ", at), multi(parts...), want)
			}
		}
		wantCheck(t, fmt.Sprint("a multi of ", n, " bytes"), api.Op{Kind: api.OpMulti, Data: data, Parts: []api.Op{get("/r")}}, want)
	}
}

// P5.1: each has its own bytes: many parts of MaxData are not too many together.
func TestCheckDataTogether(t *testing.T) {
	o := multi(slices.Repeat([]api.Op{set("/r", strings.Repeat("x", api.MaxData), -1)}, api.MaxMulti)...)
	o.Data = make([]byte, api.MaxData, 10*api.MaxData)
	wantCheck(t, "a multi all full", o, api.OK)
}

// P5.1: what may not be, ahead of what is too long, wherever each stands.
func TestCheckArgAheadOfLong(t *testing.T) {
	long := make([]byte, api.MaxData+1)
	longPart, bad := api.Op{Kind: api.OpSet, Data: long}, api.Op{Kind: 99}
	for what, o := range map[string]api.Op{
		"kind 0":                       {Data: long},
		"kind 8":                       {Kind: 8, Data: long},
		"a multi of none":              {Kind: api.OpMulti, Data: long},
		"a get with a part":            {Kind: api.OpGet, Data: long, Parts: []api.Op{get("/r")}},
		"a get with a long part":       {Kind: api.OpGet, Parts: []api.Op{longPart}},
		"a long multi with a bad part": {Kind: api.OpMulti, Data: long, Parts: []api.Op{bad}},
		"a bad part behind a long one": multi(longPart, bad),
		"a bad part ahead of one":      multi(bad, longPart),
		"a long part that is bad":      multi(api.Op{Data: long}),
		"a long multi as a part":       multi(get("/r"), api.Op{Kind: api.OpMulti, Data: long, Parts: []api.Op{get("/r")}}),
		"too many long parts":          multi(slices.Repeat([]api.Op{longPart}, api.MaxMulti+1)...),
	} {
		wantCheck(t, what, o, api.ErrArg)
		wantErr(t, given(t), o, who, api.ErrArg)
	}
}

// P5.1: nothing else is looked at: no path, no version, neither of the bits.
func TestCheckNothingElse(t *testing.T) {
	for _, p := range append(noPaths, "/", "/r") {
		for _, version := range []int64{math.MinInt64, -1, 0, 1, math.MaxInt64} {
			for _, kind := range singles {
				o := api.Op{Kind: kind, Path: p, Version: version, Seq: true, Eph: true}
				wantCheck(t, told(o), o, api.OK)
				m := api.Op{Kind: api.OpMulti, Path: p, Version: version, Seq: true, Eph: true, Parts: []api.Op{o}}
				wantCheck(t, told(m), m, api.OK)
			}
		}
	}
}

// P5.2: no tree, ahead of all else.
func TestDoNil(t *testing.T) {
	long := make([]byte, api.MaxData+1)
	for _, o := range []api.Op{
		{}, {Kind: 99}, {Data: long}, {Kind: api.OpSet, Data: long}, multi(), multi(get("/r")), multi(multi()), create("/r/a", "x"), create("", "x"), seq("/r/a"), eph("/r/a"),
		remove("/r/a", 0), set("/r", "x", 0), check("/r", 0), get("/r"), kids("/r"), kids("r"),
	} {
		wantErr(t, nil, o, who, api.ErrNil)
		wantErr(t, nil, o, none, api.ErrNil)
	}
}

// P5.2: Check's error ahead of any that the kind has, and no Parts with it.
func TestDoCheckFirst(t *testing.T) {
	long := strings.Repeat("x", api.MaxData+1)
	for _, x := range []*tree.Tree{given(t), {}, full(t, 0)} {
		for _, p := range append(noPaths, "/", "/x", "/r", "/r/a") {
			wantErr(t, x, api.Op{Path: p}, who, api.ErrArg)
			wantErr(t, x, api.Op{Kind: 8, Path: p}, who, api.ErrArg)
			wantErr(t, x, create(p, long), none, api.ErrLong)
			wantErr(t, x, set(p, long, 99), who, api.ErrLong)
			wantErr(t, x, multi(get(p), set(p, long, 99)), who, api.ErrLong)
			wantErr(t, x, multi(get(p), multi(get(p))), who, api.ErrArg)
			for _, kind := range singles {
				wantErr(t, x, api.Op{Kind: kind, Path: p, Data: []byte(long)}, who, api.ErrLong)
				wantErr(t, x, api.Op{Kind: kind, Path: p, Parts: []api.Op{get(p)}}, who, api.ErrArg)
			}
		}
	}
}

// P5.2: the zero Tree has no root: no path is under it.
func TestDoZeroTree(t *testing.T) {
	for _, p := range append(noPaths, "/", "/r", "/r/a", longest) {
		for _, kind := range singles {
			for _, bit := range []bool{false, true} {
				o := api.Op{Kind: kind, Path: p, Seq: bit, Eph: bit}
				wantErr(t, &tree.Tree{}, o, who, api.ErrPath)
				wantDo(t, &tree.Tree{}, multi(o, get("/r")), who, nil, api.Reply{E: api.ErrPath, Parts: []api.Reply{{E: api.ErrPath}}})
			}
		}
	}
}

// P5.2: a path that is none, or not under the root, of each kind but a multi, ahead of all else that the kind has.
func TestDoErrPath(t *testing.T) {
	for _, p := range append(noPaths, "/", "/s", "/rr", "/r2", "/s/r", "/a/b") {
		for _, x := range []*tree.Tree{given(t), full(t, 0)} {
			for _, kind := range singles {
				for _, version := range []int64{-1, 0, 99} {
					wantErr(t, x, api.Op{Kind: kind, Path: p, Version: version}, none, api.ErrPath)
					wantErr(t, x, api.Op{Kind: kind, Path: p, Version: version, Seq: true, Eph: true}, none, api.ErrPath)
				}
			}
		}
	}
}

// P5.2: a multi's own path, version and bits are nothing to it.
func TestMultiHasNoPath(t *testing.T) {
	x := given(t)
	l, r := op.Do(x, multi(set("/r/a", "new", -1), get("/r/a")), who)
	for _, p := range append(noPaths, "/", "/x", "/r/none", "/r") {
		o := multi(set("/r/a", "new", -1), get("/r/a"))
		o.Path, o.Version, o.Seq, o.Eph, o.Data = p, 99, true, true, []byte("data")
		wantDo(t, x, o, none, l, r)
	}
}

// made is a node as it comes: at says at which write.
func made(data string, at uint64) api.Znode {
	return api.Znode{Data: []byte(data), Made: at, Changed: at, Touched: at}
}

// touched is a parent behind a change of its children at that write.
func touched(n api.Znode, at uint64) api.Znode {
	n.Kin, n.Touched = n.Kin+1, at
	return n
}

// next is a parent of which one more number was given away.
func next(n api.Znode) api.Znode {
	n.Next++
	return n
}

// P5.2: a create puts the parent, then the node; all else of the parent stays.
func TestCreate(t *testing.T) {
	for _, data := range []string{"", "x", strings.Repeat("x", api.MaxData)} {
		wantDo(t, given(t), create("/r/c", data), who, row(put("/r", touched(node(10), 6)), put("/r/c", made(data, 6))), api.Reply{Path: "/r/c", Node: made(data, 6)})
		wantDo(t, given(t), create("/r/a/c", data), none, row(put("/r/a", touched(node(20), 6)), put("/r/a/c", made(data, 6))), api.Reply{Path: "/r/a/c", Node: made(data, 6)})
	}
	wantDo(t, treeOf(t, "/"), create("/c", "x"), who, row(put("/", touched(api.Znode{}, 1)), put("/c", made("x", 1))), api.Reply{Path: "/c", Node: made("x", 1)})
	wantDo(t, treeOf(t, "/r"), create(longest, "x"), who, row(put("/r", touched(api.Znode{}, 1)), put(longest, made("x", 1))), api.Reply{Path: longest, Node: made("x", 1)})
}

// P5.2: a version is nothing to a create.
func TestCreateOfAnyVersion(t *testing.T) {
	for _, version := range []int64{math.MinInt64, -1, 0, 1, 99, math.MaxInt64} {
		o := create("/r/c", "x")
		o.Version = version
		wantDo(t, given(t), o, who, row(put("/r", touched(node(10), 6)), put("/r/c", made("x", 6))), api.Reply{Path: "/r/c", Node: made("x", 6)})
	}
}

// P5.2: a node that goes with a session has it as its Owner; the parent has not.
func TestCreateEph(t *testing.T) {
	for _, by := range []api.Session{who, another, {Site: 2, N: math.MaxUint32}, {N: 1}} {
		n := made("e", 6)
		n.Owner = by
		wantDo(t, given(t), eph("/r/c"), by, row(put("/r", touched(node(10), 6)), put("/r/c", n)), api.Reply{Path: "/r/c", Node: n})
		both := eph("/r/c")
		both.Seq = true
		wantDo(t, given(t), both, by, row(put("/r", touched(next(node(10)), 6)), put("/r/c0000000013", n)), api.Reply{Path: "/r/c0000000013", Node: n})
	}
}

// P5.2: a sequential path ends in the parent's Next, as ten digits.
func TestCreateSeq(t *testing.T) {
	for n, digits := range map[uint32]string{
		0: "0000000000", 1: "0000000001", 9: "0000000009", 10: "0000000010", 12345: "0000012345", 999999999: "0999999999",
		1000000000: "1000000000", math.MaxInt32: "2147483647", 1 << 31: "2147483648", math.MaxUint32 - 1: "4294967294", math.MaxUint32: "4294967295",
	} {
		for _, base := range []string{"/r/a/n", "/r/a/7", "/r/a/b", "/r/a/ä-"} {
			parent := node(20)
			parent.Next = n
			x := treeOf(t, "/r", put("/r/a", parent), put("/r/a/b", node(7)))
			wantDo(t, x, seq(base), who, row(put("/r/a", touched(next(parent), 3)), put(base+digits, made("s", 3))), api.Reply{Path: base + digits, Node: made("s", 3)})
		}
	}
}

// P5.2: a sequential path of MaxPath bytes, and of one more; its number is there already.
func TestCreateSeqEdges(t *testing.T) {
	x := treeOf(t, "/r")
	wantDo(t, x, seq(seqLongest), who, row(put("/r", touched(next(api.Znode{}), 1)), put(seqLongest+"0000000000", made("s", 1))), api.Reply{Path: seqLongest + "0000000000", Node: made("s", 1)})
	for p := seqLongest + "n"; len(p) <= api.MaxPath; p += "n" {
		wantErr(t, x, seq(p), who, api.ErrPath)
	}
	x = treeOf(t, "/r", put("/r/n0000000000", node(1)))
	wantErr(t, x, seq("/r/n"), who, api.ErrExists)
	wantErr(t, x, seq("/r/none/n"), who, api.ErrNone)
}

// P5.2: a create of the root is there already; a sequential one has no path under the root.
func TestCreateRoot(t *testing.T) {
	for _, root := range []string{"/", "/r", "/r/s", longest, seqLongest} {
		bare, ours := treeOf(t, root), treeOf(t, root, put(root, owned(node(3))))
		for _, x := range []*tree.Tree{bare, ours} {
			wantErr(t, x, create(root, "x"), who, api.ErrExists)
			wantErr(t, x, eph(root), none, api.ErrExists)
			wantErr(t, x, seq(root), who, api.ErrPath)
			wantErr(t, x, api.Op{Kind: api.OpCreate, Path: root, Seq: true, Eph: true}, none, api.ErrPath)
		}
	}
	wantErr(t, full(t, 0), create("/r", "x"), who, api.ErrExists)
	wantErr(t, full(t, 0), seq("/r"), who, api.ErrPath)
}

// P5.2: each error of a create, where those behind it hold too.
func TestCreateErrors(t *testing.T) {
	long := seqLongest + "n"
	deep := "/r/own/" + strings.Repeat("n", api.MaxPath-16)
	for _, y := range []struct {
		what string
		x    *tree.Tree
		o    api.Op
		by   api.Session
		want api.Errno
	}{
		{"path, none", full(t, 0), api.Op{Path: "/r/none/" + strings.Repeat("n", 50), Seq: true, Eph: true}, none, api.ErrPath},
		{"path, owned", full(t, 0), api.Op{Path: deep, Seq: true, Eph: true}, none, api.ErrPath},
		{"path, session", full(t, 0), api.Op{Path: long, Seq: true, Eph: true}, none, api.ErrPath},
		{"path, quota", full(t, 0), api.Op{Path: long, Seq: true}, who, api.ErrPath},
		{"none", given(t), api.Op{Path: "/r/none/x"}, who, api.ErrNone},
		{"none, of a parent's parent", given(t), api.Op{Path: "/r/a/none/x"}, who, api.ErrNone},
		{"none, its parent's parent goes with a session", given(t), api.Op{Path: "/r/own/none/x"}, who, api.ErrNone},
		{"none, session, quota", full(t, 0), api.Op{Path: "/r/none/x", Eph: true}, none, api.ErrNone},
		{"owned", given(t), api.Op{Path: "/r/own/new"}, who, api.ErrOwned},
		{"owned by who asks", given(t), api.Op{Path: "/r/own/new", Eph: true}, another, api.ErrOwned},
		{"owned, sequential", given(t), api.Op{Path: "/r/own/new", Seq: true}, who, api.ErrOwned},
		{"owned, session, exists, quota", full(t, 0), api.Op{Path: "/r/own/x", Eph: true}, none, api.ErrOwned},
		{"owned, exists", given(t), api.Op{Path: "/r/own/x"}, who, api.ErrOwned},
		{"owned, quota", full(t, 0), api.Op{Path: "/r/own/new"}, who, api.ErrOwned},
		{"session", given(t), api.Op{Path: "/r/c", Eph: true}, none, api.ErrSession},
		{"session, sequential", given(t), api.Op{Path: "/r/c", Seq: true, Eph: true}, none, api.ErrSession},
		{"session, exists, quota", full(t, 0), api.Op{Path: "/r/own", Eph: true}, none, api.ErrSession},
		{"session, quota", full(t, 0), api.Op{Path: "/r/c", Eph: true}, none, api.ErrSession},
		{"exists", given(t), api.Op{Path: "/r/a"}, who, api.ErrExists},
		{"exists, deeper", given(t), api.Op{Path: "/r/a/b", Eph: true}, who, api.ErrExists},
		{"exists, quota", full(t, 0), api.Op{Path: "/r/own"}, who, api.ErrExists},
		{"quota", full(t, 0), api.Op{Path: "/r/c"}, who, api.ErrQuota},
		{"quota, sequential", full(t, 0), api.Op{Path: "/r/c", Seq: true, Eph: true}, who, api.ErrQuota},
	} {
		y.o.Kind = api.OpCreate
		t.Run(y.what, func(t *testing.T) { wantErr(t, y.x, y.o, y.by, y.want) })
	}
}

// P5.2: a node below one that goes with no session, where its parent's parent does; and room for one more node.
func TestCreateNearErrors(t *testing.T) {
	do(t, given(t), create("/r/own/x/new", "x"), who)
	x := full(t, 1)
	do(t, x, create("/r/c", "x"), who)
	wantErr(t, x, create("/r/d", "x"), who, api.ErrQuota)
	do(t, x, set("/r/c", "y", 0), who)
	do(t, x, remove("/r/c", 1), who)
	do(t, x, eph("/r/d"), who)
	wantErr(t, x, create("/r/d/e", "x"), who, api.ErrOwned)
}

// P5.2: a delete lets the node go, then puts the parent.
func TestDelete(t *testing.T) {
	for _, version := range []int64{math.MinInt64, -1, 31} {
		wantDo(t, given(t), remove("/r/a/b", version), who, row(gone("/r/a/b"), put("/r/a", touched(node(20), 6))), api.Reply{Path: "/r/a/b"})
		wantDo(t, given(t), remove("/r/a/b", version), none, row(gone("/r/a/b"), put("/r/a", touched(node(20), 6))), api.Reply{Path: "/r/a/b"})
	}
	wantDo(t, given(t), remove("/r/own/x", -1), who, row(gone("/r/own/x"), put("/r/own", touched(owned(node(40)), 6))), api.Reply{Path: "/r/own/x"})
	wantDo(t, treeOf(t, "/", put("/a", api.Znode{})), remove("/a", 0), who, row(gone("/a"), put("/", touched(api.Znode{}, 2))), api.Reply{Path: "/a"})
}

// P5.2: a node that goes with a session may be deleted by anybody; the bits are nothing to a delete.
func TestDeleteOfOwned(t *testing.T) {
	for _, by := range []api.Session{none, who, another} {
		x := treeOf(t, "/r", put("/r/own", owned(node(1))))
		wantDo(t, x, api.Op{Kind: api.OpDelete, Path: "/r/own", Version: 2, Data: []byte("x"), Seq: true, Eph: true}, by, row(gone("/r/own"), put("/r", touched(api.Znode{}, 2))), api.Reply{Path: "/r/own"})
	}
}

// P5.2: each error of a delete, where those behind it hold too.
func TestDeleteErrors(t *testing.T) {
	for _, root := range []string{"/", "/r", "/r/s"} {
		kid, _ := path.Join(root, "a")
		for _, x := range []*tree.Tree{treeOf(t, root), treeOf(t, root, put(kid, node(1)))} {
			for _, version := range []int64{-1, 0, 99} {
				wantErr(t, x, remove(root, version), who, api.ErrPath)
			}
		}
	}
	for _, version := range []int64{math.MinInt64, -1, 0, 99} {
		wantErr(t, given(t), remove("/r/none", version), who, api.ErrNone)
		wantErr(t, given(t), remove("/r/none/none", version), who, api.ErrNone)
	}
	for _, version := range otherVersions(21) {
		wantErr(t, given(t), remove("/r/a", version), who, api.ErrVersion)
	}
	for _, version := range otherVersions(31) {
		wantErr(t, given(t), remove("/r/a/b", version), who, api.ErrVersion)
	}
	for _, version := range []int64{math.MinInt64, -1, 21} {
		wantErr(t, given(t), remove("/r/a", version), who, api.ErrKids)
	}
}

// otherVersions are some that are not below 0, and not n: also those that come to n where their upper bits are lost.
func otherVersions(n int64) []int64 {
	return []int64{0, n - 1, n + 1, n + 1<<32, n + 1<<40, math.MaxInt32, math.MaxInt64}
}

// P5.2: a set puts the node with other data, a version more; all else of it stays.
func TestSet(t *testing.T) {
	for _, data := range []string{"", "x", strings.Repeat("x", api.MaxData)} {
		n := node(20)
		n.Data, n.Version, n.Changed = []byte(data), 22, 6
		for _, version := range []int64{math.MinInt64, -1, 21} {
			wantDo(t, given(t), set("/r/a", data, version), who, row(put("/r/a", n)), api.Reply{Path: "/r/a", Node: n})
		}
	}
	n := owned(node(40))
	n.Data, n.Version, n.Changed = []byte("x"), 42, 6
	wantDo(t, given(t), set("/r/own", "x", 41), who, row(put("/r/own", n)), api.Reply{Path: "/r/own", Node: n})
	wantDo(t, given(t), api.Op{Kind: api.OpSet, Path: "/r/own", Data: []byte("x"), Version: -1, Seq: true, Eph: true}, none, row(put("/r/own", n)), api.Reply{Path: "/r/own", Node: n})
	root := api.Znode{Data: []byte("x"), Version: 1, Changed: 1}
	wantDo(t, treeOf(t, "/"), set("/", "x", 0), who, row(put("/", root)), api.Reply{Path: "/", Node: root})
}

// P5.2: what asks for a version: none, then another version, the greatest one too.
func TestVersions(t *testing.T) {
	most := node(1)
	most.Version = math.MaxUint32
	x := treeOf(t, "/r", put("/r/a", node(20)), put("/r/most", most))
	for _, kind := range []uint8{api.OpDelete, api.OpSet, api.OpCheck} {
		for _, version := range []int64{math.MinInt64, -2, -1, 0, 1, 21, math.MaxInt64} {
			wantErr(t, x, api.Op{Kind: kind, Path: "/r/none", Version: version}, who, api.ErrNone)
			wantErr(t, x, api.Op{Kind: kind, Path: "/r/a/b", Version: version}, who, api.ErrNone)
		}
		for _, version := range otherVersions(21) {
			wantErr(t, x, api.Op{Kind: kind, Path: "/r/a", Version: version}, who, api.ErrVersion)
		}
		for _, version := range otherVersions(math.MaxUint32) {
			wantErr(t, x, api.Op{Kind: kind, Path: "/r/most", Version: version}, who, api.ErrVersion)
		}
		for _, version := range []int64{math.MinInt64, -1 << 32, -2, -1, math.MaxUint32} {
			if _, r := op.Do(x, api.Op{Kind: kind, Path: "/r/most", Version: version}, who); r.E != api.OK {
				t.Errorf("kind %d, version %d: %v", kind, version, r.E)
			}
		}
	}
}

// P5.2: what reads answers the node, and has no effects; of a check the version is looked at, of the others not.
func TestReads(t *testing.T) {
	for _, y := range []struct {
		p    string
		n    api.Znode
		kids []string
	}{
		{"/r", node(10), []string{"a", "own"}}, {"/r/a", node(20), []string{"b"}}, {"/r/a/b", node(30), nil},
		{"/r/own", owned(node(40)), []string{"x"}}, {"/r/own/x", node(50), nil},
	} {
		x := given(t)
		for _, by := range []api.Session{none, who} {
			for _, version := range []int64{math.MinInt64, -1, int64(y.n.Version)} {
				wantDo(t, x, check(y.p, version), by, nil, api.Reply{Path: y.p, Node: y.n})
			}
			for _, version := range append(otherVersions(int64(y.n.Version)), -1) {
				wantDo(t, x, api.Op{Kind: api.OpGet, Path: y.p, Version: version, Data: []byte("x"), Seq: true, Eph: true}, by, nil, api.Reply{Path: y.p, Node: y.n})
				wantDo(t, x, api.Op{Kind: api.OpKids, Path: y.p, Version: version, Data: []byte("x"), Seq: true, Eph: true}, by, nil, api.Reply{Path: y.p, Node: y.n, Kids: y.kids})
			}
		}
	}
	for _, p := range []string{"/r/none", "/r/a/none", "/r/none/none", "/r/A", "/r/a/b/c", longest} {
		wantErr(t, given(t), get(p), who, api.ErrNone)
		wantErr(t, given(t), kids(p), who, api.ErrNone)
	}
}

// P5.2: names of children alone, rising byte by byte; the list is new each time.
func TestKidsRise(t *testing.T) {
	x := treeOf(t, "/")
	for _, name := range []string{"b", "a", "a!", "ab", "Z", "é", "a0", "😀", "~"} {
		do(t, x, create("/"+name, ""), who)
		do(t, x, create("/"+name+"/x", ""), who)
	}
	want := []string{"Z", "a", "a!", "a0", "ab", "b", "~", "é", "😀"}
	for range 2 {
		_, r := op.Do(x, kids("/"), who)
		if r.E != api.OK || !slices.Equal(r.Kids, want) {
			t.Errorf("%q, want %q", r.Kids, want)
		}
		for i := range r.Kids[:cap(r.Kids)] {
			r.Kids[:cap(r.Kids)][i] = "spoilt"
		}
	}
}

// P5.2: a part sees what those ahead of it do, with one at; effects and replies stand in order.
func TestMulti(t *testing.T) {
	a, b := made("1", 6), made("2", 6)
	root := touched(node(10), 6)
	setA := touched(a, 6)
	setA.Data, setA.Version, setA.Changed = []byte("3"), 1, 6
	wantDo(t, given(t), multi(create("/r/n", "1"), create("/r/n/m", "2"), set("/r/n", "3", 0), kids("/r/n"), remove("/r/n/m", 0), check("/r/n", 1)), who,
		row(put("/r", root), put("/r/n", a), put("/r/n", touched(a, 6)), put("/r/n/m", b), put("/r/n", setA), gone("/r/n/m"), put("/r/n", touched(setA, 6))),
		api.Reply{Parts: []api.Reply{
			{Path: "/r/n", Node: a}, {Path: "/r/n/m", Node: b}, {Path: "/r/n", Node: setA}, {Path: "/r/n", Node: setA, Kids: []string{"m"}},
			{Path: "/r/n/m"}, {Path: "/r/n", Node: touched(setA, 6)},
		}})
}

// P5.2: one at for all of 6 parts, also behind reads and behind those that are the same.
func TestMultiAt(t *testing.T) {
	x := given(t)
	_, r := op.Do(x, multi(get("/r"), set("/r/a", "x", -1), kids("/r"), set("/r/a", "x", -1), create("/r/c", "x"), eph("/r/d")), who)
	for i, want := range []uint64{17, 6, 17, 6, 6, 6} {
		if at := r.Parts[i].Node.Changed; at != want {
			t.Errorf("part %d: Changed %d, want %d", i, at, want)
		}
	}
	if x.At() != 5 || r.Parts[5].Node.Made != 6 || r.Parts[5].Node.Owner != who || r.Parts[4].Node.Owner != none {
		t.Errorf("at %d: %+v", x.At(), r)
	}
}

// P5.2: sequential parts of one multi have a number each.
func TestMultiSeq(t *testing.T) {
	x := given(t)
	r := do(t, x, multi(slices.Repeat([]api.Op{seq("/r/s")}, api.MaxMulti)...), who)
	for i, part := range r.Parts {
		if want := fmt.Sprintf("/r/s%010d", 13+i); part.Path != want {
			t.Errorf("part %d: %q, want %q", i, part.Path, want)
		}
	}
	if n, _ := x.Get("/r"); n.Next != 19 || n.Kin != 18 || n.Touched != 6 {
		t.Errorf("the parent: %+v", n)
	}
}

// P5.2: the first error ends a multi, wherever it is: no effects, the Parts up to it, and it has nothing but its error.
func TestMultiErrors(t *testing.T) {
	good := []api.Op{create("/r/c", "1"), set("/r/c", "2", 0), kids("/r"), seq("/r/s"), remove("/r/c", 1), get("/r/a")}
	_, all := op.Do(given(t), multi(good...), who)
	if all.E != api.OK || len(all.Parts) != api.MaxMulti {
		t.Fatalf("all good: %+v", all)
	}
	for at := range good {
		for _, y := range []struct {
			bad  api.Op
			want api.Errno
		}{
			{create("/x", ""), api.ErrPath}, {get("r"), api.ErrPath}, {remove("/r", -1), api.ErrPath}, {seq("/r"), api.ErrPath}, {create("/r/x/y", ""), api.ErrNone}, {set("/r/x", "", -1), api.ErrNone},
			{create("/r", ""), api.ErrExists}, {create("/r/a", ""), api.ErrExists}, {remove("/r/a", 21), api.ErrKids}, {create("/r/own/y", ""), api.ErrOwned}, {check("/r/a", 22), api.ErrVersion},
		} {
			parts := slices.Clone(good)
			parts[at] = y.bad
			wantDo(t, given(t), multi(parts...), who, nil, api.Reply{E: y.want, Parts: append(slices.Clone(all.Parts[:at]), api.Reply{E: y.want})})
			parts = slices.Replace(parts, at, at+1, y.bad, get("/x"))[:at+1]
			wantDo(t, given(t), multi(parts...), who, nil, api.Reply{E: y.want, Parts: append(slices.Clone(all.Parts[:at]), api.Reply{E: y.want})})
		}
	}
}

// P5.2: of two parts with errors the first one is told; errors come of what parts ahead did, too.
func TestMultiErrorsOfParts(t *testing.T) {
	fail := func(o api.Op, x *tree.Tree, want ...api.Errno) {
		t.Helper()
		l, r := op.Do(x, o, who)
		var got []api.Errno
		for _, part := range r.Parts {
			got = append(got, part.E)
		}
		if len(l) > 0 || r.E != want[len(want)-1] || !slices.Equal(got, want) {
			t.Errorf("%+v: %v, %v, with effects %+v, want %v", o, r.E, got, l, want)
		}
	}
	fail(multi(get("/x"), get("/r/none")), given(t), api.ErrPath)
	fail(multi(get("/r/none"), get("/x")), given(t), api.ErrNone)
	fail(multi(create("/r/c", ""), create("/r/c", "")), given(t), api.OK, api.ErrExists)
	fail(multi(remove("/r/a/b", -1), remove("/r/a", -1), get("/r/a")), given(t), api.OK, api.OK, api.ErrNone)
	fail(multi(eph("/r/e"), create("/r/e/c", "")), given(t), api.OK, api.ErrOwned)
	fail(multi(set("/r/a", "", 21), set("/r/a", "", 21)), given(t), api.OK, api.ErrVersion)
	fail(multi(create("/r/c", ""), create("/r/c/d", ""), remove("/r/c", -1)), given(t), api.OK, api.OK, api.ErrKids)
	fail(multi(create("/r/c", ""), create("/r/d", "")), full(t, 1), api.OK, api.ErrQuota)
	do(t, full(t, 0), multi(remove("/r/n03", -1), create("/r/c", "")), who)
	do(t, given(t), multi(remove("/r/a/b", 31), remove("/r/a", 21), create("/r/a", ""), set("/r/a", "", 0)), who)
	l, r := op.Do(given(t), multi(get("/r"), eph("/r/e")), none)
	if len(l) > 0 || told(r) != told(api.Reply{E: api.ErrSession, Parts: []api.Reply{{Path: "/r", Node: node(10)}, {E: api.ErrSession}}}) {
		t.Errorf("a part that needs a session: %+v, %+v", l, r)
	}
}

// P5.2: a multi of MaxMulti creates has effects that an item has room for, and fills a tree to its end.
func TestMultiMost(t *testing.T) {
	var parts []api.Op
	for i := range api.MaxMulti {
		parts = append(parts, create(fmt.Sprintf("/r/m%d", i), strings.Repeat("x", api.MaxData)))
	}
	x := full(t, api.MaxMulti)
	l, r := op.Do(x, multi(parts...), who)
	if r.E != api.OK || len(l) != 12 || len(l) > api.MaxEffects || x.Apply(l) != api.OK || len(x.Paths()) != api.MaxZnodes {
		t.Errorf("%d effects, %v, %d nodes", len(l), r.E, len(x.Paths()))
	}
	x = full(t, api.MaxMulti-1)
	if l, r := op.Do(x, multi(parts...), who); r.E != api.ErrQuota || len(l) > 0 || len(r.Parts) != api.MaxMulti {
		t.Errorf("%d effects, %v, %d parts", len(l), r.E, len(r.Parts))
	}
}

// R3: what is written, behind a call, to what was handed in or handed out is not to be seen anywhere, the room behind lists' ends too.
func TestNothingIsKept(t *testing.T) {
	x := given(t)
	room := append(make([]byte, 0, 40), "data"...)
	parts := append(make([]api.Op, 0, 9), api.Op{Kind: api.OpCreate, Path: "/r/c", Data: room}, api.Op{Kind: api.OpSet, Path: "/r/a", Data: room, Version: -1}, kids("/r"))
	o := multi(parts...)
	l, r := op.Do(x, o, who)
	want, was := told(l, r), tell(x)
	fill(room[:cap(room)], '?')
	for i := range o.Parts[:cap(o.Parts)] {
		o.Parts[:cap(o.Parts)][i] = get("/x")
	}
	if got := told(l, r); got != want {
		t.Errorf("what was handed in is kept:\n%s\nwas\n%s", got, want)
	}
	effects := told(l)
	for _, part := range r.Parts {
		fill(part.Node.Data[:cap(part.Node.Data)], '?')
		for i := range part.Kids[:cap(part.Kids)] {
			part.Kids[:cap(part.Kids)][i] = "?"
		}
	}
	if got := told(l); got != effects {
		t.Errorf("effects share with the reply:\n%s\nwas\n%s", got, effects)
	}
	for _, f := range l {
		fill(f.Node.Data[:cap(f.Node.Data)], '?')
	}
	if got := tell(x); got != was {
		t.Errorf("the tree is\n%swas\n%s", got, was)
	}
}

// R3: room behind what is handed in stays as it is, and is not read.
func TestRoomBehindEnds(t *testing.T) {
	room := []byte("datamore")
	hidden := append([]api.Op{}, create("/r/c", ""), api.Op{Kind: 99, Data: make([]byte, 99)})
	for _, o := range []api.Op{{Kind: api.OpCreate, Path: "/r/c", Data: room[:4]}, {Kind: api.OpSet, Path: "/r/a", Data: room[:4], Version: -1}} {
		_, r := op.Do(given(t), o, who)
		if string(r.Node.Data) != "data" || string(room) != "datamore" {
			t.Errorf("%+v: %q, %q", o, r.Node.Data, room)
		}
	}
	if _, r := op.Do(given(t), multi(hidden[:1]...), who); r.E != api.OK || hidden[1].Kind != 99 {
		t.Errorf("%v, %+v", r.E, hidden)
	}
	if _, r := op.Do(given(t), api.Op{Kind: api.OpGet, Path: "/r", Parts: hidden[:0]}, who); r.E != api.OK {
		t.Errorf("%v", r.E)
	}
}

// model is a tree, and what an operation answers of it, told another way: each kind lists what may be wrong, in order, and what comes then.
type model struct {
	root  string
	at    uint64
	nodes map[string]api.Znode
}

// fault is an error where it holds.
type fault struct {
	holds bool
	e     api.Errno
}

// first is the error of the first one that holds.
func first(l ...fault) api.Errno {
	for _, f := range l {
		if f.holds {
			return f.e
		}
	}
	return api.OK
}

func modelOf(x *tree.Tree) *model {
	m := &model{root: x.Root(), at: x.At() + 1, nodes: map[string]api.Znode{}}
	for _, p := range x.Paths() {
		m.nodes[p], _ = x.Get(p)
	}
	return m
}

// above cuts a path's last part off.
func above(p string) string {
	i := strings.LastIndexByte(p, '/')
	return p[:max(i, min(len(p), 1))]
}

func (m *model) kids(p string) []string {
	var names []string
	for q := range m.nodes {
		if q != "/" && above(q) == p {
			names = append(names, q[strings.LastIndexByte(q, '/')+1:])
		}
	}
	slices.Sort(names)
	return names
}

func (m *model) apply(l []api.Effect) {
	for _, f := range l {
		m.nodes[f.Path] = f.Node
		if f.Gone {
			delete(m.nodes, f.Path)
		}
	}
}

func modelCheck(o api.Op) api.Errno {
	bad, long := o.Kind == 0 || o.Kind > 7 || o.Kind != 7 && len(o.Parts) > 0, len(o.Data) > 64
	for _, part := range o.Parts {
		bad = bad || part.Kind == 0 || part.Kind > 6 || len(part.Parts) > 0
		long = long || len(part.Data) > 64
	}
	bad = bad || o.Kind == 7 && (len(o.Parts) == 0 || len(o.Parts) > 6)
	return first(fault{bad, api.ErrArg}, fault{long, api.ErrLong})
}

// do answers what Do is to answer of an operation that may be.
func (m *model) do(o api.Op, by api.Session) ([]api.Effect, api.Reply) {
	if o.Kind == api.OpMulti {
		return m.multi(o, by)
	}
	under := path.Check(o.Path) == api.OK && (m.root == "/" || o.Path == m.root || m.root != "" && strings.HasPrefix(o.Path, m.root+"/"))
	n, ok := m.nodes[o.Path]
	up, upOK := m.nodes[above(o.Path)]
	version := fault{o.Version >= 0 && uint64(o.Version) != uint64(n.Version), api.ErrVersion}
	reply := func(l []api.Effect, r api.Reply, faults ...fault) ([]api.Effect, api.Reply) {
		if e := first(append([]fault{{!under, api.ErrPath}}, faults...)...); e != api.OK {
			return nil, api.Reply{E: e}
		}
		return l, r
	}
	switch o.Kind {
	case api.OpCreate:
		p, isRoot := o.Path, o.Path == m.root
		if o.Seq {
			p = fmt.Sprintf("%s%010d", o.Path, up.Next)
			up.Next++
		}
		_, there := m.nodes[p]
		made := api.Znode{Data: o.Data, Made: m.at, Changed: m.at, Touched: m.at}
		if o.Eph {
			made.Owner = by
		}
		return reply(row(put(above(o.Path), touched(up, m.at)), put(p, made)), api.Reply{Path: p, Node: made},
			fault{isRoot && !o.Seq, api.ErrExists}, fault{isRoot || len(p) > 64, api.ErrPath}, fault{!upOK, api.ErrNone}, fault{up.Owner != none, api.ErrOwned},
			fault{o.Eph && by == none, api.ErrSession}, fault{there, api.ErrExists}, fault{len(m.nodes) == 48, api.ErrQuota})
	case api.OpDelete:
		return reply(row(gone(o.Path), put(above(o.Path), touched(up, m.at))), api.Reply{Path: o.Path},
			fault{o.Path == m.root, api.ErrPath}, fault{!ok, api.ErrNone}, version, fault{len(m.kids(o.Path)) > 0, api.ErrKids})
	case api.OpSet:
		n.Data, n.Version, n.Changed = o.Data, n.Version+1, m.at
		return reply(row(put(o.Path, n)), api.Reply{Path: o.Path, Node: n}, fault{!ok, api.ErrNone}, version)
	case api.OpCheck:
		return reply(nil, api.Reply{Path: o.Path, Node: n}, fault{!ok, api.ErrNone}, version)
	case api.OpGet:
		return reply(nil, api.Reply{Path: o.Path, Node: n}, fault{!ok, api.ErrNone})
	}
	return reply(nil, api.Reply{Path: o.Path, Node: n, Kids: m.kids(o.Path)}, fault{!ok, api.ErrNone})
}

func (m *model) multi(o api.Op, by api.Session) ([]api.Effect, api.Reply) {
	now := &model{m.root, m.at, maps.Clone(m.nodes)}
	var effects []api.Effect
	var reply api.Reply
	for _, part := range o.Parts {
		l, r := now.do(part, by)
		reply.Parts = append(reply.Parts, r)
		if r.E != api.OK {
			return nil, api.Reply{E: r.E, Parts: reply.Parts}
		}
		now.apply(l)
		effects = append(effects, l...)
	}
	return effects, reply
}

// wantModel does an operation as the model says, and answers the error.
func wantModel(t *testing.T, x *tree.Tree, o api.Op, by api.Session) api.Errno {
	t.Helper()
	e := modelCheck(o)
	if got := op.Check(o); got != e {
		t.Fatalf("Check(%+v) = %v, want %v", o, got, e)
	}
	if e != api.OK {
		wantErr(t, x, o, by, e)
		return e
	}
	l, r := modelOf(x).do(o, by)
	wantDo(t, x, o, by, l, r)
	return r.E
}

// anySingle makes an operation out of some numbers: most of them on what is there, or on a child of that, some far off.
func anySingle(b []byte, x *tree.Tree) api.Op {
	names := []string{"a", "b", "ab", "s", "a!", "ä"}
	o := api.Op{Kind: singles[max(int(b[0])%9-3, 0)], Data: b[:b[1]%4], Version: int64(b[2]%8) - 6, Seq: b[3]%8 == 0, Eph: b[3]%16 > 11}
	if paths := x.Paths(); len(paths) > 0 {
		o.Path = paths[int(b[5])%len(paths)]
	}
	if b[4]%8 == 0 || o.Kind == api.OpCreate && b[4]%8 > 1 {
		o.Path, _ = path.Join(o.Path, names[int(b[4])/8%len(names)])
	}
	switch b[6] {
	case 0:
		o.Path = noPaths[int(b[7])%len(noPaths)]
	case 1:
		o.Path = strings.Repeat("/abc", int(b[7])%17)
	case 2:
		o.Kind = b[7]
	case 3:
		o.Data = make([]byte, int(b[7]))
	case 4:
		o.Parts = []api.Op{get("/r")}
	case 5:
		o.Path += strings.Repeat("n", int(b[7])%80)
	}
	return o
}

// anyOp makes an operation out of bytes, a multi where there are many.
func anyOp(b []byte, x *tree.Tree) api.Op {
	var l []api.Op
	for ; len(b) >= 8; b = b[8:] {
		l = append(l, anySingle(b, x))
	}
	if len(l) == 1 {
		return l[0]
	}
	return multi(l...)
}

// P5.1, P5.2: rows of any operations on trees of three roots, with and without an end in sight: each answer is what the model says. All errors come.
func TestAnyOperations(t *testing.T) {
	times := map[api.Errno]int{}
	for seed := range int64(24) {
		rnd := rand.New(rand.NewSource(seed))
		root := []string{"/", "/r", "/r/a", "/r"}[seed%4]
		x := treeOf(t, root)
		if seed%4 == 3 {
			x = full(t, 4)
		}
		for range 250 {
			b := make([]byte, 8*[]int{1, 1, 1, 2, 3, 6, rnd.Intn(9)}[rnd.Intn(7)])
			rnd.Read(b)
			o, by := anyOp(b, x), []api.Session{none, who, another}[rnd.Intn(3)]
			times[wantModel(t, x, o, by)]++
			if l, r := op.Do(x, o, by); r.E == api.OK {
				x.Apply(l)
			}
		}
	}
	for _, e := range []api.Errno{api.OK, api.ErrArg, api.ErrLong, api.ErrPath, api.ErrNone, api.ErrExists, api.ErrKids, api.ErrOwned, api.ErrVersion, api.ErrQuota, api.ErrSession} {
		if times[e] < 20 {
			t.Errorf("%v came %d times only: %v", e, times[e], times)
		}
	}
}

// P5.3: what is read behind a write is what was written, in the same multi and in a later operation.
func TestReadBehindWrite(t *testing.T) {
	for seed := range int64(8) {
		rnd := rand.New(rand.NewSource(100 + seed))
		x := treeOf(t, "/r")
		for range 200 {
			b := make([]byte, 8)
			rnd.Read(b)
			o := anySingle(b, x)
			l, r := op.Do(x, o, who)
			if r.E != api.OK || o.Kind > api.OpSet {
				continue
			}
			within, _ := op.Do(x, multi(o, get(r.Path)), who)
			_, parts := op.Do(x, multi(o, get(r.Path)), who)
			x.Apply(l)
			_, later := op.Do(x, get(r.Path), none)
			if o.Kind == api.OpDelete {
				r.E, r.Path = api.ErrNone, ""
			} else if told(within) != told(l) {
				t.Fatalf("%+v with a read behind it: %+v, want %+v", o, within, l)
			}
			if told(later) != told(r) || told(parts.Parts[1]) != told(r) {
				t.Fatalf("behind %+v:\n%+v\n%+v\nwant\n%+v", o, later, parts.Parts[1], r)
			}
		}
	}
}

// P5.3: numbers behind sequential names rise, whatever name is ahead of them and whatever was deleted; a parent that came again begins anew.
func TestSequentialNamesRise(t *testing.T) {
	x := treeOf(t, "/r")
	do(t, x, create("/r/p", ""), who)
	last := ""
	for i := range 120 {
		r := do(t, x, seq([]string{"/r/p/n", "/r/p/m", "/r/p/0"}[i%3]), who)
		number := r.Path[len(r.Path)-10:]
		if number <= last {
			t.Fatalf("%q behind %q", r.Path, last)
		}
		last = number
		do(t, x, remove(r.Path, 0), who)
		do(t, x, set("/r/p", "x", -1), who)
		do(t, x, seq("/r/other"), who)
		do(t, x, remove(fmt.Sprintf("/r/other%010d", i), -1), who)
	}
	if last != "0000000119" {
		t.Errorf("the last number is %q", last)
	}
	do(t, x, multi(remove("/r/p", -1), create("/r/p", "")), who)
	if r := do(t, x, seq("/r/p/n"), who); r.Path != "/r/p/n0000000000" {
		t.Errorf("%q", r.Path)
	}
}

// P5.3: a multi does what its parts do one by one, or nothing at all.
func TestAllOrNothing(t *testing.T) {
	times := map[bool]int{}
	for seed := range int64(10) {
		rnd := rand.New(rand.NewSource(200 + seed))
		x := treeOf(t, "/r")
		for range 200 {
			b := make([]byte, 8*(1+rnd.Intn(3)))
			rnd.Read(b)
			o := multi(anyOp(b, x))
			if len(b) > 8 {
				o = anyOp(b, x)
			}
			y, ok := x.Clone(), op.Check(o) == api.OK
			for _, part := range o.Parts {
				l, r := op.Do(y, part, who)
				ok = ok && r.E == api.OK
				y.Apply(l)
			}
			l, r := op.Do(x, o, who)
			if (r.E == api.OK) != ok || !ok && len(l) > 0 {
				t.Fatalf("%+v: %v, %v, %+v", o, ok, r.E, l)
			}
			x.Apply(l)
			times[ok]++
			if ok && !slices.Equal(x.Paths(), y.Paths()) {
				t.Fatalf("%+v: %q, want %q", o, x.Paths(), y.Paths())
			}
		}
	}
	if times[true] < 50 || times[false] < 50 {
		t.Errorf("%v", times)
	}
}

// R1: no bytes make an operation panic, or be answered otherwise than by the model.
func FuzzDo(f *testing.F) {
	f.Add("/r", "/r/a", []byte("a row of two"), []byte("another row, of four operations in all"), uint32(1))
	f.Add("/", "/", []byte{1, 2, 3, 4, 5, 6, 7, 8}, []byte{0, 0, 0, 0, 0, 0, 0, 0}, uint32(0))
	f.Add("r", "", []byte{0, 2, 3, 0, 5, 6, 7, 8}, []byte{5, 0, 0, 0, 0, 0, 2, 6}, uint32(9))
	f.Fuzz(func(t *testing.T, root, p string, a, b []byte, n uint32) {
		x, e := tree.New(root)
		if e != api.OK {
			x = &tree.Tree{}
		}
		by := api.Session{Site: int(n >> 16), N: n & 0xffff}
		for _, o := range []api.Op{anyOp(a, x), create(p, "x"), seq(p), anyOp(b, x), remove(p, -1), anyOp(a, x), kids(root)} {
			wantModel(t, x, o, by)
			if l, r := op.Do(x, o, by); r.E == api.OK {
				x.Apply(l)
			}
		}
	})
}

// The chapter's section 'Examples'.
func TestExamples(t *testing.T) {
	x := treeOf(t, "/r")
	root := api.Znode{Kin: 1, Touched: 1}
	wantDo(t, x, create("/r/a", "x"), who, row(put("/r", root), put("/r/a", made("x", 1))), api.Reply{Path: "/r/a", Node: made("x", 1)})
	wantErr(t, x, get("/r/a"), who, api.ErrNone)
	wantErr(t, x, set("/x", "", -1), who, api.ErrPath)
	wantErr(t, x, remove("/r", -1), who, api.ErrPath)
	wantErr(t, x, create("/r/b/c", ""), who, api.ErrNone)
	wantErr(t, x, eph("/r/e"), none, api.ErrSession)
	wantDo(t, x, multi(create("/r/a", "x"), set("/r/a", "y", 1)), who, nil, api.Reply{E: api.ErrVersion, Parts: []api.Reply{{Path: "/r/a", Node: made("x", 1)}, {E: api.ErrVersion}}})
	for _, want := range []string{"/r/n0000000000", "/r/n0000000001"} {
		if r := do(t, x, seq("/r/n"), who); r.Path != want {
			t.Errorf("%q, want %q", r.Path, want)
		}
	}
}

func ExampleDo() {
	x, _ := tree.New("/r")
	effects, reply := op.Do(x, api.Op{Kind: api.OpCreate, Path: "/r/n", Seq: true}, api.Session{})
	fmt.Println(reply.E == api.OK, reply.Path, len(effects), x.Paths())
	x.Apply(effects)
	_, reply = op.Do(x, api.Op{Kind: api.OpSet, Path: "/r/n", Version: -1}, api.Session{})
	fmt.Println(reply.E == api.ErrNone, x.Paths())
	// Output:
	// true /r/n0000000000 2 [/r]
	// true [/r /r/n0000000000]
}
