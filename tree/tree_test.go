package tree_test

import (
	"bytes"
	"fmt"
	"math"
	"math/rand"
	"slices"
	"strings"
	"testing"

	"outrider/api"
	"outrider/path"
	"outrider/tree"
)

// longest is a path of as many bytes as may be.
var longest = strings.Repeat("/abc", api.MaxPath/4)

var noPaths = []string{
	"", "r", "r/a", " ", ".", "..", "//", "/r/", "/r//a", "/.", "/..", "/r/.", "/r/../r", "/r/a/", "r/", "/r/\x00", "/r/\x1f", "/r/\x7f",
	"/r/\xff", "/r/\ufffd", "/r/\xc3", longest + "/", longest + "/d", "/r/" + strings.Repeat("n", api.MaxPath),
}

// node is one of which no field is zero, and which hangs on n.
func node(n uint32) api.Znode {
	return api.Znode{
		Data: fmt.Appendf(nil, "data %d", n), Version: n + 1, Kin: n + 2, Next: n + 3, Owner: api.Session{Site: int(n) + 4, N: n + 5},
		Made: uint64(n) + 6, Changed: uint64(n) + 7, Touched: uint64(n) + 8,
	}
}

func put(p string) api.Effect { return api.Effect{Path: p, Node: api.Znode{Data: []byte("d")}} }

func putNode(p string, n api.Znode) api.Effect { return api.Effect{Path: p, Node: n} }

func gone(p string) api.Effect { return api.Effect{Path: p, Gone: true} }

func row(l ...api.Effect) []api.Effect { return l }

// treeOf is a new tree of that root to which the effects were applied, one at a time.
func treeOf(t *testing.T, root string, l ...api.Effect) *tree.Tree {
	t.Helper()
	x, e := tree.New(root)
	if e != api.OK || x == nil {
		t.Fatalf("New(%q): %v, %v", root, x, e)
	}
	for i, f := range l {
		if e := x.Apply(row(f)); e != api.OK {
			t.Fatalf("effect %d, %+v: %v", i, f, e)
		}
	}
	return x
}

// fullRow puts as many nodes below root as it takes for so many, the root among them.
func fullRow(root string, many int) []api.Effect {
	var l []api.Effect
	for i := 1; i < many; i++ {
		p, _ := path.Join(root, fmt.Sprintf("n%02d", i))
		l = append(l, putNode(p, node(uint32(i))))
	}
	return l
}

// tell says all that a tree answers of itself. An empty list is told as nil is.
func tell(x *tree.Tree) string {
	var b strings.Builder
	fmt.Fprintf(&b, "root %q, at %d\n", x.Root(), x.At())
	for _, p := range x.Paths() {
		n, ok := x.Get(p)
		fmt.Fprintf(&b, "%q: %v, %+v, kids %q\n", p, ok, n, x.Kids(p))
	}
	return b.String()
}

func wantTold(t *testing.T, x *tree.Tree, want string) {
	t.Helper()
	if got := tell(x); got != want {
		t.Errorf("the tree is\n%swant\n%s", got, want)
	}
}

func wantPaths(t *testing.T, x *tree.Tree, want ...string) {
	t.Helper()
	if got := x.Paths(); !slices.Equal(got, want) {
		t.Errorf("Paths = %q, want %q", got, want)
	}
}

func wantKids(t *testing.T, x *tree.Tree, p string, want ...string) {
	t.Helper()
	if got := x.Kids(p); !slices.Equal(got, want) {
		t.Errorf("Kids(%q) = %q, want %q", p, got, want)
	}
}

func wantApply(t *testing.T, x *tree.Tree, want api.Errno, l ...api.Effect) {
	t.Helper()
	was, at := tell(x), x.At()
	if e := x.Apply(l); e != want {
		t.Errorf("Apply(%+v) = %v, want %v", l, e, want)
	}
	switch {
	case want == api.OK && x.At() != at+1:
		t.Errorf("behind Apply(%+v) At = %d, it was %d", l, x.At(), at)
	case want != api.OK && tell(x) != was:
		t.Errorf("Apply(%+v) changed\n%sto\n%s", l, was, tell(x))
	}
}

func isZero(n api.Znode) bool {
	return len(n.Data) == 0 && fmt.Sprintf("%+v", n) == fmt.Sprintf("%+v", api.Znode{})
}

func wantNone(t *testing.T, x *tree.Tree, p string) {
	t.Helper()
	if n, ok := x.Get(p); ok || !isZero(n) {
		t.Errorf("Get(%q) = %+v, %v, want none", p, n, ok)
	}
}

// model is a tree told another way: a list of the effects that put what is there, in no order, sought from its beginning each time.
type model struct {
	root  string
	at    uint64
	nodes []api.Effect
}

func newModel(root string) *model {
	return &model{root: root, nodes: row(putNode(root, api.Znode{}))}
}

func (m *model) find(p string) int {
	return slices.IndexFunc(m.nodes, func(f api.Effect) bool { return f.Path == p })
}

// above cuts a path's last part off.
func above(p string) string {
	return p[:max(strings.LastIndexByte(p, '/'), 1)]
}

func (m *model) kids(p string) []string {
	var names []string
	for _, f := range m.nodes {
		if f.Path != "/" && above(f.Path) == p {
			names = append(names, f.Path[strings.LastIndexByte(f.Path, '/')+1:])
		}
	}
	slices.Sort(names)
	return names
}

func (m *model) fault(f api.Effect) api.Errno {
	under := m.root == "/" || f.Path == m.root || strings.HasPrefix(f.Path, m.root+"/")
	switch {
	case path.Check(f.Path) != api.OK || !under || f.Gone && f.Path == m.root:
		return api.ErrPath
	case f.Gone && m.find(f.Path) < 0:
		return api.ErrNone
	case f.Gone && len(m.kids(f.Path)) > 0:
		return api.ErrKids
	case f.Gone || m.find(f.Path) >= 0:
		return api.OK
	case m.find(above(f.Path)) < 0:
		return api.ErrNone
	case len(m.nodes) == 48:
		return api.ErrQuota
	}
	return api.OK
}

func (m *model) apply(l []api.Effect) api.Errno {
	was := slices.Clone(m.nodes)
	for _, f := range l {
		if e := m.fault(f); e != api.OK {
			m.nodes = was
			return e
		}
		m.nodes = slices.DeleteFunc(m.nodes, func(g api.Effect) bool { return g.Path == f.Path })
		if !f.Gone {
			f.Node.Data = bytes.Clone(f.Node.Data)
			m.nodes = append(m.nodes, f)
		}
	}
	m.at++
	return api.OK
}

func (m *model) tell() string {
	nodes := slices.SortedFunc(slices.Values(m.nodes), func(a, b api.Effect) int { return strings.Compare(a.Path, b.Path) })
	var b strings.Builder
	fmt.Fprintf(&b, "root %q, at %d\n", m.root, m.at)
	for _, f := range nodes {
		fmt.Fprintf(&b, "%q: true, %+v, kids %q\n", f.Path, f.Node, m.kids(f.Path))
	}
	return b.String()
}

// P4.1: a new tree is its root alone, at / or deeper, all zero.
func TestNew(t *testing.T) {
	for _, root := range []string{"/", "/r", "/r/s", "/ä/ /€😀", longest, "/" + strings.Repeat("n", api.MaxPath-1)} {
		x, e := tree.New(root)
		if e != api.OK || x.Root() != root || x.At() != 0 {
			t.Errorf("New(%q): %v, root %q, at %d", root, e, x.Root(), x.At())
		}
		if n, ok := x.Get(root); !ok || !isZero(n) {
			t.Errorf("the root of New(%q): %+v, %v", root, n, ok)
		}
		wantPaths(t, x, root)
		wantKids(t, x, root)
	}
}

// P4.1: a root that is no path, also if only for its length.
func TestNewErrPath(t *testing.T) {
	for _, root := range noPaths {
		if x, e := tree.New(root); x != nil || e != api.ErrPath {
			t.Errorf("New(%.80q) = %v, %v, want ErrPath", root, x, e)
		}
	}
}

// R2: two new trees of one root are two.
func TestNewApart(t *testing.T) {
	x, y := treeOf(t, "/r"), treeOf(t, "/r")
	wantApply(t, x, api.OK, put("/r/a"))
	wantPaths(t, y, "/r")
	if y.At() != 0 {
		t.Errorf("At = %d", y.At())
	}
}

// P4.1 to P4.4: of nil.
func TestNil(t *testing.T) {
	var x *tree.Tree
	for _, p := range append([]string{"/", "/r", longest}, noPaths...) {
		wantNone(t, x, p)
		wantKids(t, x, p)
		for _, l := range [][]api.Effect{nil, {}, row(put(p)), row(gone(p))} {
			if e := x.Apply(l); e != api.ErrNil {
				t.Errorf("Apply(%+v) of nil: %v", l, e)
			}
		}
	}
	if x.Root() != "" || x.At() != 0 || len(x.Paths()) != 0 {
		t.Errorf("of nil: %q, %d, %q", x.Root(), x.At(), x.Paths())
	}
	if y := x.Clone(); y != nil {
		t.Errorf("a clone of nil: %v", y)
	}
}

// R1: the zero Tree has no root and no nodes, and nothing is under it; no call panics.
func TestZeroTree(t *testing.T) {
	x, other := &tree.Tree{}, treeOf(t, "/")
	for _, p := range append([]string{"/", "/r", longest}, noPaths...) {
		wantNone(t, x, p)
		wantKids(t, x, p)
		wantApply(t, x, api.ErrPath, put(p))
		wantApply(t, x, api.ErrPath, gone(p))
	}
	if x.Root() != "" || x.At() != 0 || len(x.Paths()) != 0 {
		t.Errorf("of the zero Tree: %q, %d, %q", x.Root(), x.At(), x.Paths())
	}
	if !tree.Same(x, x.Clone()) || !tree.Same(x, &tree.Tree{}) || tree.Same(x, other) || tree.Same(other, x) || tree.Same(x, nil) || tree.Same(nil, x) {
		t.Error("Same of the zero Tree")
	}
	wantApply(t, x, api.OK)
	wantApply(t, x.Clone(), api.ErrPath, put("/"))
}

// P4.1: a clone answers all that the tree does, its own clone too.
func TestClone(t *testing.T) {
	for _, root := range []string{"/", "/r", longest[:60]} {
		x := treeOf(t, root, append(fullRow(root, 7), gone(root[:len(strings.TrimSuffix(root, "/"))]+"/n03"))...)
		for _, y := range []*tree.Tree{x.Clone(), x.Clone().Clone()} {
			wantTold(t, y, tell(x))
			if y == x || !tree.Same(x, y) {
				t.Errorf("a clone of a tree of %q is it, or another one", root)
			}
		}
	}
}

// P4.1: a tree and its clone go on apart, whichever of them is changed, and how.
func TestCloneGoesOnApart(t *testing.T) {
	for _, l := range [][]api.Effect{nil, row(put("/r/new")), row(put("/r/a")), row(put("/r")), row(gone("/r/a/b")), row(gone("/r/a/b"), gone("/r/a"))} {
		x := treeOf(t, "/r", putNode("/r/a", node(1)), putNode("/r/a/b", node(2)))
		y := x.Clone()
		was := tell(x)
		wantApply(t, y, api.OK, l...)
		wantTold(t, x, was)
		z := y.Clone()
		was = tell(z)
		wantApply(t, y, api.OK, put("/r/z"))
		wantTold(t, z, was)
		wantApply(t, x, api.OK, put("/r/x"))
		wantTold(t, z, was)
		wantNone(t, y, "/r/x")
		wantNone(t, x, "/r/z")
	}
}

// P4.1: a tree's end is not its clone's: the clone of a full tree has room again, and the tree has none.
func TestCloneOfFullTree(t *testing.T) {
	x := treeOf(t, "/r", fullRow("/r", api.MaxZnodes)...)
	y := x.Clone()
	wantApply(t, y, api.OK, gone("/r/n01"))
	wantApply(t, y, api.OK, put("/r/more"))
	wantApply(t, y, api.ErrQuota, put("/r/most"))
	wantApply(t, x, api.ErrQuota, put("/r/more"))
	if len(x.Paths()) != api.MaxZnodes {
		t.Errorf("%d nodes", len(x.Paths()))
	}
}

// R3: what is written to data that a tree handed out is not to be seen in its clone, nor the other way round.
func TestCloneSharesNoDataThatIsHandedOut(t *testing.T) {
	x := treeOf(t, "/r", putNode("/r/a", node(1)))
	y := x.Clone()
	was := tell(x)
	for _, z := range []*tree.Tree{x, y} {
		n, _ := z.Get("/r/a")
		spoil(n.Data)
		wantTold(t, x, was)
		wantTold(t, y, was)
	}
}

// spoil writes to b, and to all the room behind it.
func spoil(b []byte) {
	b = b[:cap(b)]
	for i := range b {
		b[i] = ^b[i]
	}
}

// P4.1: At counts the rows that were applied, not their effects; an empty one too, one that does not fit not.
func TestAt(t *testing.T) {
	x := treeOf(t, "/r")
	rows := []struct {
		l    []api.Effect
		e    api.Errno
		want uint64
	}{
		{nil, api.OK, 1},
		{row(), api.OK, 2},
		{row(put("/r/a"), put("/r/b"), put("/r/c")), api.OK, 3},
		{row(put("/x")), api.ErrPath, 3},
		{row(put("/r/a/a"), put("/r/x/y")), api.ErrNone, 3},
		{row(gone("/r/a")), api.OK, 4},
		{row(put("/r")), api.OK, 5},
		{row(put("/r/d"), gone("/r/d")), api.OK, 6},
	}
	for i, y := range rows {
		if e := x.Apply(y.l); e != y.e || x.At() != y.want {
			t.Errorf("row %d: %v, at %d, want %v, %d", i, e, x.At(), y.e, y.want)
		}
	}
	wantPaths(t, x, "/r", "/r/b", "/r/c")
}

// P4.2: a node as it was put, whole; and what is no node, though it be near one.
func TestGet(t *testing.T) {
	all := []string{"/r/s", "/r/s/a", "/r/s/a/b", "/r/s/ab"}
	x := treeOf(t, "/r/s")
	for i, p := range all {
		wantApply(t, x, api.OK, putNode(p, node(uint32(i))))
	}
	for i, p := range all {
		n, ok := x.Get(p)
		if want := node(uint32(i)); !ok || fmt.Sprint(n) != fmt.Sprint(want) {
			t.Errorf("Get(%q) = %+v, %v, want %+v", p, n, ok, want)
		}
	}
	for _, p := range append([]string{"/", "/r", "/r/a", "/r/sa", "/r/s/b", "/r/s/a/b/c", "/r/s/a/", "r/s", "/R/S", "/s", "/a"}, noPaths...) {
		wantNone(t, x, p)
		wantKids(t, x, p)
	}
}

// P4.2: nodes with the greatest numbers, and with numbers below 0, are handed out as they are.
func TestGetEdges(t *testing.T) {
	n := api.Znode{
		Data: bytes.Repeat([]byte{0, 255}, 1000), Version: math.MaxUint32, Kin: math.MaxUint32, Next: math.MaxUint32,
		Owner: api.Session{Site: math.MinInt, N: math.MaxUint32}, Made: math.MaxUint64, Changed: math.MaxUint64, Touched: math.MaxUint64,
	}
	x := treeOf(t, "/", putNode("/", n), putNode("/a", n))
	for _, p := range []string{"/", "/a"} {
		if got, ok := x.Get(p); !ok || fmt.Sprint(got) != fmt.Sprint(n) {
			t.Errorf("Get(%q) = %+v, %v", p, got, ok)
		}
	}
}

// P4.2, R3: what the caller writes to what is handed out is not to be seen later.
func TestHandedOutIsNew(t *testing.T) {
	x := treeOf(t, "/r", putNode("/r/a", node(1)), putNode("/r/b", node(2)), put("/r/c"), putNode("/r", node(3)))
	was := tell(x)
	for _, p := range x.Paths() {
		n, _ := x.Get(p)
		spoil(n.Data)
		_ = append(n.Data[:0], "another text"...)
	}
	for _, l := range [][]string{x.Paths(), x.Kids("/r")} {
		for i := range l[:cap(l)] {
			l[:cap(l)][i] = "other"
		}
	}
	wantTold(t, x, was)
}

// P4.2: the children alone, not theirs, rising byte by byte; the names of others begin like them.
func TestKids(t *testing.T) {
	x := treeOf(t, "/r", put("/r/b"), put("/r/b/z"), put("/r/ab"), put("/r/a"), put("/r/a/c"), put("/r/a/c/d"), put("/r/a!"), put("/r/a!/e"),
		put("/r/€"), put("/r/ä"), put("/r/B"), put("/r/10"), put("/r/9"), put("/r/ "), put("/r/r"))
	wantKids(t, x, "/r", " ", "10", "9", "B", "a", "a!", "ab", "b", "r", "ä", "€")
	wantKids(t, x, "/r/a", "c")
	wantKids(t, x, "/r/a!", "e")
	wantKids(t, x, "/r/a/c", "d")
	wantKids(t, x, "/r/b", "z")
	for _, p := range []string{"/r/ab", "/r/r", "/r/a/c/d", "/", "/r/x", "/r/", "r", "", "/r/b/z/y"} {
		wantKids(t, x, p)
	}
	wantApply(t, x, api.OK, gone("/r/b/z"), gone("/r/b"))
	wantKids(t, x, "/r", " ", "10", "9", "B", "a", "a!", "ab", "r", "ä", "€")
	wantKids(t, x, "/r/b")
}

// P4.2: / is its own parent, but not its own child; above a deeper root there is no node.
func TestKidsOfRoots(t *testing.T) {
	x := treeOf(t, "/", put("/b"), put("/a"), put("/a/c"))
	wantKids(t, x, "/", "a", "b")
	wantKids(t, x, "/a", "c")
	wantPaths(t, x, "/", "/a", "/a/c", "/b")
	y := treeOf(t, "/a/b", put("/a/b/c"), put("/a/b/b"))
	wantKids(t, y, "/")
	wantKids(t, y, "/a")
	wantKids(t, y, "/a/b", "b", "c")
}

// P4.2: paths rise byte by byte, not part by part, and not as they came.
func TestPaths(t *testing.T) {
	x := treeOf(t, "/r", put("/r/b"), put("/r/a"), put("/r/a/z"), put("/r/a/b"), put("/r/a!"), put("/r/a0"), put("/r/ä"), put("/r/Z"), put("/r/a/b/c"), put("/r/a!/x"))
	wantPaths(t, x, "/r", "/r/Z", "/r/a", "/r/a!", "/r/a!/x", "/r/a/b", "/r/a/b/c", "/r/a/z", "/r/a0", "/r/b", "/r/ä")
}

// P4.2: the order of children and paths does not hang on the one in which they came.
func TestOrderHangsOnNothing(t *testing.T) {
	names := []string{"a", "aa", "ab", "b", "~", "!", "0", "00", "1", "é", "\u0080", "😀"}
	rnd := rand.New(rand.NewSource(1))
	for range 50 {
		rnd.Shuffle(len(names), func(i, j int) { names[i], names[j] = names[j], names[i] })
		x := treeOf(t, "/r")
		var paths []string
		for _, name := range names {
			wantApply(t, x, api.OK, put("/r/"+name))
			paths = append(paths, "/r/"+name)
		}
		slices.Sort(paths)
		wantPaths(t, x, append([]string{"/r"}, paths...)...)
		rising := slices.Clone(names)
		slices.Sort(rising)
		wantKids(t, x, "/r", rising...)
	}
}

// P4.3: a path that is none, or none under the root, put or gone; and the root, which may be put, but is not to go.
func TestApplyErrPath(t *testing.T) {
	x := treeOf(t, "/r/s", put("/r/s/a"))
	for _, p := range append([]string{"/", "/r", "/r/a", "/x", "/r/sa", "/r/sa/b", "/s", "/r/x/s"}, noPaths...) {
		wantApply(t, x, api.ErrPath, put(p))
		wantApply(t, x, api.ErrPath, gone(p))
	}
	wantApply(t, x, api.ErrPath, gone("/r/s"))
	wantApply(t, x, api.ErrPath, gone("/r/s/a"), gone("/r/s"))
	wantApply(t, treeOf(t, "/r/s"), api.ErrPath, gone("/r/s"))
	wantApply(t, treeOf(t, "/"), api.ErrPath, gone("/"))
	wantApply(t, treeOf(t, "/", put("/a")), api.ErrPath, gone("/"))
}

// P4.3: the root is put as any other node is, and its children stay.
func TestApplyPutsRoot(t *testing.T) {
	for _, root := range []string{"/", "/r", "/r/s"} {
		a, _ := path.Join(root, "a")
		x := treeOf(t, root, put(a))
		wantApply(t, x, api.OK, putNode(root, node(1)))
		if n, ok := x.Get(root); !ok || fmt.Sprint(n) != fmt.Sprint(node(1)) {
			t.Errorf("the root at %q: %+v, %v", root, n, ok)
		}
		wantPaths(t, x, root, a)
		wantApply(t, x, api.OK, putNode(root, api.Znode{}))
		if n, ok := x.Get(root); !ok || !isZero(n) {
			t.Errorf("the root at %q: %+v, %v", root, n, ok)
		}
	}
}

// P4.3: a parent that is not there, or a node to go that is not.
func TestApplyErrNone(t *testing.T) {
	x := treeOf(t, "/r", put("/r/a"), put("/r/a/b"))
	wantApply(t, x, api.ErrNone, put("/r/x/y"))
	wantApply(t, x, api.ErrNone, put("/r/a/x/y"))
	wantApply(t, x, api.ErrNone, put("/r/ab/c"))
	wantApply(t, x, api.ErrNone, gone("/r/x"))
	wantApply(t, x, api.ErrNone, gone("/r/x/y"))
	wantApply(t, x, api.ErrNone, gone("/r/a/x"))
	wantApply(t, x, api.ErrNone, gone("/r/a/b/c"))
	wantApply(t, x, api.ErrNone, put("/r/a/b/c/d"))
	wantApply(t, treeOf(t, "/"), api.ErrNone, put("/a/b"))
	wantApply(t, treeOf(t, "/"), api.ErrNone, gone("/a"))
}

// P4.3: a node is put anew, whole: nothing of the one ahead stays, and its children do.
func TestApplyPutsAnew(t *testing.T) {
	x := treeOf(t, "/r", putNode("/r/a", node(1)), putNode("/r/a/b", node(2)))
	wantApply(t, x, api.OK, putNode("/r/a", api.Znode{Kin: 9}))
	n, ok := x.Get("/r/a")
	if !ok || fmt.Sprint(n) != fmt.Sprint(api.Znode{Kin: 9}) {
		t.Errorf("%+v, %v", n, ok)
	}
	wantKids(t, x, "/r/a", "b")
	wantPaths(t, x, "/r", "/r/a", "/r/a/b")
}

// P4.3: one with children is not to go; what its effect says of the node beside does not matter.
func TestApplyErrKids(t *testing.T) {
	x := treeOf(t, "/r", put("/r/a"), put("/r/a/b"), put("/r/ab"), put("/r/ab/c"))
	wantApply(t, x, api.ErrKids, gone("/r/a"))
	wantApply(t, x, api.ErrKids, gone("/r/ab"))
	wantApply(t, x, api.ErrKids, api.Effect{Path: "/r/a", Gone: true, Node: node(1)})
	wantApply(t, x, api.OK, api.Effect{Path: "/r/a/b", Gone: true, Node: node(1)})
	wantApply(t, x, api.OK, gone("/r/a"))
	wantPaths(t, x, "/r", "/r/ab", "/r/ab/c")
	wantApply(t, x, api.ErrNone, gone("/r/a"))
	y := treeOf(t, "/", put("/a"), put("/a/b"), put("/a!"))
	wantApply(t, y, api.ErrKids, gone("/a"))
	wantApply(t, y, api.OK, gone("/a!"))
}

// P4.3: a tree with MaxZnodes nodes takes none that is new, but what is there already, one by one or in one row.
func TestApplyErrQuota(t *testing.T) {
	for _, root := range []string{"/", "/r", "/r/s"} {
		one, _ := path.Join(root, "n01")
		more, _ := path.Join(root, "more")
		below, _ := path.Join(one, "more")
		none, _ := path.Join(more, "none")
		x, all := treeOf(t, root), fullRow(root, api.MaxZnodes)
		wantApply(t, x, api.ErrQuota, append(slices.Clone(all), put(more))...)
		wantApply(t, x, api.OK, all...)
		if n := len(x.Paths()); n != api.MaxZnodes {
			t.Errorf("%d nodes", n)
		}
		wantTold(t, treeOf(t, root, all...), strings.Replace(tell(x), "at 1\n", "at 47\n", 1))
		wantApply(t, x, api.ErrQuota, put(more))
		wantApply(t, x, api.ErrQuota, put(below))
		wantApply(t, x, api.ErrNone, put(none))
		wantApply(t, x, api.ErrQuota, put(more), gone(one))
		wantApply(t, x, api.OK, putNode(one, node(99)))
		wantApply(t, x, api.OK, putNode(root, node(98)))
		wantApply(t, x, api.OK, gone(one), put(more))
		wantApply(t, x, api.ErrQuota, put(one))
		wantApply(t, x, api.OK, gone(more))
		wantApply(t, x, api.ErrQuota, put(one), put(more))
		wantApply(t, x, api.OK, put(more))
		if n := len(x.Paths()); n != api.MaxZnodes {
			t.Errorf("%d nodes", n)
		}
	}
}

// P4.3: effects are held against what those ahead of them made.
func TestApplyOneByOne(t *testing.T) {
	x := treeOf(t, "/r")
	wantApply(t, x, api.OK, put("/r/a"), put("/r/a/b"), put("/r/a/b/c"))
	wantPaths(t, x, "/r", "/r/a", "/r/a/b", "/r/a/b/c")
	wantApply(t, x, api.ErrNone, put("/r/d/e"), put("/r/d"))
	wantApply(t, x, api.ErrKids, gone("/r/a/b"), gone("/r/a/b/c"))
	wantApply(t, x, api.OK, gone("/r/a/b/c"), gone("/r/a/b"), put("/r/a/b"))
	wantKids(t, x, "/r/a/b")
	wantApply(t, x, api.ErrNone, gone("/r/a/b"), gone("/r/a/b"))
	wantApply(t, x, api.ErrNone, gone("/r/a/b"), gone("/r/a"), put("/r/a/b"))
	wantApply(t, x, api.OK, put("/r/d"), gone("/r/d"))
	wantNone(t, x, "/r/d")
	wantApply(t, x, api.OK, putNode("/r/a", node(1)), putNode("/r/a", node(2)), putNode("/r/a", node(3)))
	if n, _ := x.Get("/r/a"); fmt.Sprint(n) != fmt.Sprint(node(3)) {
		t.Errorf("put thrice: %+v", n)
	}
	wantApply(t, x, api.OK, gone("/r/a/b"), gone("/r/a"), put("/r/a"), put("/r/a/z"))
	wantPaths(t, x, "/r", "/r/a", "/r/a/z")
}

// P4.3: the first effect that does not fit says the error, whatever stands behind it; of one effect the first error is told.
func TestApplyFirstError(t *testing.T) {
	x := treeOf(t, "/r", append(fullRow("/r", api.MaxZnodes-1), put("/r/n01/kid"))...)
	faults := []struct {
		f api.Effect
		e api.Errno
	}{
		{put("/x"), api.ErrPath}, {gone("/r"), api.ErrPath}, {put("/r/x/y"), api.ErrNone}, {gone("/r/x"), api.ErrNone},
		{gone("/r/n01"), api.ErrKids}, {put("/r/more"), api.ErrQuota},
	}
	for _, a := range faults {
		wantApply(t, x, a.e, a.f)
		for _, b := range faults {
			wantApply(t, x, a.e, a.f, b.f)
			wantApply(t, x, a.e, put("/r/n02"), a.f, b.f, put("/r/n03"))
		}
	}
}

// P4.3: where the last effect does not fit, those ahead of it are undone, whatever they were.
func TestApplyAllOrNothing(t *testing.T) {
	x := treeOf(t, "/r", putNode("/r", node(1)), putNode("/r/a", node(2)), putNode("/r/a/b", node(3)), putNode("/r/c", node(4)))
	ahead := row(put("/r/d"), put("/r/d/e"), put("/r"), put("/r/a"), gone("/r/a/b"), gone("/r/a"), putNode("/r/c", node(5)), gone("/r/c"))
	for n := range len(ahead) + 1 {
		wantApply(t, x, api.ErrPath, append(slices.Clone(ahead[:n]), put("/x"))...)
		wantApply(t, x, api.ErrPath, append(slices.Clone(ahead[:n]), gone("/r"))...)
		wantApply(t, x, api.ErrNone, append(slices.Clone(ahead[:n]), put("/r/x/y"))...)
		wantApply(t, x, api.ErrNone, append(slices.Clone(ahead[:n]), gone("/r/x"))...)
	}
	wantApply(t, x, api.ErrKids, put("/r/d"), put("/r"), put("/r/d/e"), gone("/r/d"))
	wantApply(t, x, api.OK, ahead...)
	wantPaths(t, x, "/r", "/r/d", "/r/d/e")
}

// P4.3, R3: what is handed in is not kept, and not changed, nor is the room behind it.
func TestApplyKeepsNothingHandedIn(t *testing.T) {
	for _, last := range []api.Effect{put("/r/c"), put("/x")} {
		room := []byte("data of a, and behind it")
		l := append(make([]api.Effect, 0, 8), putNode("/r/a", api.Znode{Data: room[:9]}), putNode("/r/b", node(2)), gone("/r/b"), last)
		whole := l[:cap(l)]
		whole[4], whole[5] = put("/r/behind"), api.Effect{Path: "/r/too", Node: node(3)}
		was := fmt.Sprintf("%+v %s", whole, room)
		x := treeOf(t, "/r", putNode("/r/b", node(1)))
		x.Apply(l)
		if got := fmt.Sprintf("%+v %s", whole, room); got != was {
			t.Errorf("what was handed in is\n%s, it was\n%s", got, was)
		}
		told := tell(x)
		for i, f := range whole {
			spoil(f.Node.Data)
			whole[i] = gone("/r/a")
		}
		wantTold(t, x, told)
	}
}

// P4.3, R3: one list that is handed to two trees, twice, is no bond between them.
func TestApplySharesNothing(t *testing.T) {
	l := row(putNode("/r/a", node(1)), putNode("/r/b", node(1)))
	l[1].Node.Data = l[0].Node.Data
	x, y := treeOf(t, "/r"), treeOf(t, "/r")
	wantApply(t, x, api.OK, l...)
	wantApply(t, y, api.OK, l...)
	n, _ := x.Get("/r/a")
	spoil(n.Data)
	for _, p := range []string{"/r/a", "/r/b"} {
		for _, z := range []*tree.Tree{x, y} {
			if m, _ := z.Get(p); fmt.Sprint(m) != fmt.Sprint(node(1)) {
				t.Errorf("Get(%q) = %+v", p, m)
			}
		}
	}
}

// R1: many effects in one row, and long data, are applied.
func TestApplyLong(t *testing.T) {
	var l []api.Effect
	for i := range 5000 {
		l = append(l, putNode("/r/a", node(uint32(i))), gone("/r/a"))
	}
	x := treeOf(t, "/r")
	wantApply(t, x, api.OK, l...)
	wantPaths(t, x, "/r")
	data := bytes.Repeat([]byte("x"), 1<<20)
	wantApply(t, x, api.OK, append(l, putNode("/r/a", api.Znode{Data: data}))...)
	if n, ok := x.Get("/r/a"); !ok || !bytes.Equal(n.Data, data) {
		t.Errorf("%d bytes of data, %v", len(n.Data), ok)
	}
}

// wantSame wants that answer for two trees, whichever stands first.
func wantSame(t *testing.T, what string, a, b *tree.Tree, want bool) {
	t.Helper()
	if tree.Same(a, b) != want || tree.Same(b, a) != want {
		t.Errorf("Same, %s: %v, %v, want %v", what, tree.Same(a, b), tree.Same(b, a), want)
	}
}

// P4.4: nil is like nil alone.
func TestSameNil(t *testing.T) {
	wantSame(t, "nil and nil", nil, nil, true)
	wantSame(t, "nil and a new tree", nil, treeOf(t, "/"), false)
	x := treeOf(t, "/r", put("/r/a"))
	wantSame(t, "nil and a tree", nil, x, false)
	wantSame(t, "a tree and itself", x, x, true)
}

// P4.4: another root, another At, another node at a path, or one more, make other trees.
func TestSame(t *testing.T) {
	x := treeOf(t, "/r", put("/r/a"), put("/r/b"))
	wantSame(t, "roots", treeOf(t, "/r"), treeOf(t, "/s"), false)
	wantSame(t, "roots, one under the other", treeOf(t, "/"), treeOf(t, "/r"), false)
	wantSame(t, "new trees", treeOf(t, "/r"), treeOf(t, "/r"), true)
	wantSame(t, "the order in which nodes came", x, treeOf(t, "/r", put("/r/b"), put("/r/a")), true)
	wantSame(t, "one node less", x, treeOf(t, "/r", put("/r/a"), put("/r/a")), false)
	wantSame(t, "one node more", x, treeOf(t, "/r", put("/r/a"), put("/r/a/b")).Clone(), false)
	wantSame(t, "another path", x, treeOf(t, "/r", put("/r/a"), put("/r/c")), false)
	y := x.Clone()
	wantSame(t, "a clone", x, y, true)
	wantApply(t, y, api.OK)
	wantSame(t, "At", x, y, false)
	wantApply(t, x, api.OK)
	wantSame(t, "At again", x, y, true)
	wantApply(t, x, api.ErrPath, put("/x"))
	wantSame(t, "a row that did not fit", x, y, true)
	wantApply(t, x, api.OK, gone("/r/a"))
	wantApply(t, y, api.OK, gone("/r/b"))
	wantSame(t, "another node that went", x, y, false)
	wantApply(t, x, api.OK, put("/r/a"), gone("/r/b"))
	wantApply(t, y, api.OK)
	wantSame(t, "what came back", x, y, true)
}

// P4.4: each field of a node, at the root and elsewhere; no data are like empty ones.
func TestSameEachField(t *testing.T) {
	changes := map[string]func(n *api.Znode){
		"none":      func(n *api.Znode) { n.Data = nil },
		"data":      func(n *api.Znode) { n.Data[0]++ },
		"last data": func(n *api.Znode) { n.Data[len(n.Data)-1]++ },
		"less data": func(n *api.Znode) { n.Data = n.Data[1:] },
		"more data": func(n *api.Znode) { n.Data = append(n.Data, 0) },
		"version":   func(n *api.Znode) { n.Version++ },
		"kin":       func(n *api.Znode) { n.Kin++ },
		"next":      func(n *api.Znode) { n.Next++ },
		"site":      func(n *api.Znode) { n.Owner.Site++ },
		"session":   func(n *api.Znode) { n.Owner.N++ },
		"made":      func(n *api.Znode) { n.Made += 1 << 40 },
		"changed":   func(n *api.Znode) { n.Changed += 1 << 40 },
		"touched":   func(n *api.Znode) { n.Touched += 1 << 40 },
	}
	for _, p := range []string{"/r", "/r/a"} {
		x := treeOf(t, "/r", putNode(p, node(7)))
		wantSame(t, p+", like nodes", x, treeOf(t, "/r", putNode(p, node(7))), true)
		for name, change := range changes {
			n := node(7)
			change(&n)
			wantSame(t, p+", "+name, x, treeOf(t, "/r", putNode(p, n)), false)
		}
		empty := treeOf(t, "/r", putNode(p, api.Znode{Data: []byte{}}))
		wantSame(t, p+", empty data", empty, treeOf(t, "/r", putNode(p, api.Znode{})), true)
	}
}

// effects makes a row of effects out of bytes: most of them near what may be there, some far off.
func effects(b []byte) []api.Effect {
	names := []string{"a", "b", "a!", "ä", "ab", "c", "d", "e"}
	var l []api.Effect
	for ; len(b) >= 3; b = b[3:] {
		p := "/r"
		switch {
		case b[0] == 0:
			p = noPaths[int(b[1])%len(noPaths)]
		case b[0] < 3:
			p = "/"
		}
		for n := b[0] % 4; n > 0 && len(p) < 60; n-- {
			p, _ = path.Join(p, names[b[1]>>(2*n)%8])
		}
		l = append(l, api.Effect{Path: p, Gone: b[2]%4 == 0, Node: node(uint32(b[2]))})
	}
	return l
}

// wantWhole wants of a tree what holds behind any effects.
func wantWhole(t *testing.T, x *tree.Tree) {
	t.Helper()
	paths := x.Paths()
	if len(paths) == 0 || len(paths) > 48 || !slices.Contains(paths, x.Root()) || !slices.IsSorted(paths) {
		t.Fatalf("of root %q: %d paths, %q", x.Root(), len(paths), paths)
	}
	for _, p := range paths {
		name, parent := path.Base(p), path.Parent(p)
		if p != x.Root() && (!slices.Contains(paths, parent) || !slices.Contains(x.Kids(parent), name) || !path.Under(p, x.Root())) {
			t.Fatalf("%q stands alone: %q", p, paths)
		}
	}
}

// wantModel applies a row to a tree, to one like it, and to the model: all come to the same.
func wantModel(t *testing.T, m *model, x, y *tree.Tree, l []api.Effect) api.Errno {
	t.Helper()
	want := m.apply(l)
	if e, again := x.Apply(l), y.Apply(l); e != want || again != want {
		t.Fatalf("Apply(%+v) = %v, %v, want %v", l, e, again, want)
	}
	if got := tell(x); got != m.tell() {
		t.Fatalf("behind Apply(%+v) the tree is\n%swant\n%s", l, got, m.tell())
	}
	wantSame(t, "the same effects on like trees", x, y, true)
	wantWhole(t, x)
	return want
}

// P4.3, P4.5: rows of any effects, on trees of three roots: each node has its parent there, and like trees stay like. All errors come.
func TestAnyEffects(t *testing.T) {
	told := map[api.Errno]int{}
	for seed := range int64(30) {
		rnd := rand.New(rand.NewSource(seed))
		root := []string{"/", "/r", "/r/a"}[seed%3]
		m, x, y := newModel(root), treeOf(t, root), treeOf(t, root)
		for range 200 {
			b := make([]byte, 3*rnd.Intn(6))
			rnd.Read(b)
			told[wantModel(t, m, x, y, effects(b))]++
			if rnd.Intn(20) == 0 {
				y = x.Clone()
			}
		}
	}
	for _, e := range []api.Errno{api.OK, api.ErrPath, api.ErrNone, api.ErrKids} {
		if told[e] < 50 {
			t.Errorf("%v was told %d times only: %v", e, told[e], told)
		}
	}
}

// P4.5: around a tree's end, where there are MaxZnodes nodes, one less, or as many again.
func TestAnyEffectsOfFullTree(t *testing.T) {
	told := map[api.Errno]int{}
	for seed := range int64(4) {
		rnd := rand.New(rand.NewSource(seed))
		m, x, y := newModel("/r"), treeOf(t, "/r"), treeOf(t, "/r")
		for range 200 {
			var l []api.Effect
			for range 1 + rnd.Intn(3) {
				p := fmt.Sprintf("/r/n%02d", rnd.Intn(60))
				l = append(l, api.Effect{Path: p, Gone: rnd.Intn(6) == 0, Node: node(rnd.Uint32())})
			}
			told[wantModel(t, m, x, y, l)]++
		}
	}
	for _, e := range []api.Errno{api.OK, api.ErrNone, api.ErrQuota} {
		if told[e] < 50 {
			t.Errorf("%v was told %d times only: %v", e, told[e], told)
		}
	}
}

// R1, P4.5: no bytes make a tree panic, or come to another one than the model's.
func FuzzApply(f *testing.F) {
	f.Add("/r", []byte{4, 0, 1}, []byte{5, 1, 0})
	f.Add("/", []byte{1, 0, 1, 2, 0, 1}, []byte{2, 0, 0, 1, 0, 0})
	f.Add("/r/", []byte{0, 0, 0}, []byte{0, 9, 9})
	f.Fuzz(func(t *testing.T, root string, a, b []byte) {
		x, e := tree.New(root)
		if e != path.Check(root) || (x == nil) != (e != api.OK) {
			t.Fatalf("New(%q): %v, %v", root, x, e)
		}
		if e != api.OK {
			return
		}
		m, y := newModel(root), x.Clone()
		for _, l := range [][]api.Effect{effects(a), effects(b), row(put(root)), effects(a)} {
			wantModel(t, m, x, y, l)
		}
	})
}

// The chapter's section 'Examples'.
func TestExamples(t *testing.T) {
	x := treeOf(t, "/r")
	for i, y := range []struct {
		l    []api.Effect
		want api.Errno
	}{
		{row(put("/r/a")), api.OK},
		{row(put("/r/b/c")), api.ErrNone},
		{row(put("/x")), api.ErrPath},
		{row(put("/r/a/b"), gone("/r/a")), api.ErrKids},
		{row(gone("/r/a")), api.OK},
		{row(gone("/r")), api.ErrPath},
	} {
		if e := x.Apply(y.l); e != y.want {
			t.Errorf("act %d: %v, want %v", i, e, y.want)
		}
	}
	if l := x.Paths(); !slices.Equal(l, []string{"/r"}) || x.At() != 2 {
		t.Errorf("%q, %d", l, x.At())
	}
}

func ExampleTree_Apply() {
	x, _ := tree.New("/r")
	fmt.Println(x.Apply([]api.Effect{{Path: "/r/a"}, {Path: "/r/b/c"}}) == api.ErrNone, x.Paths())
	fmt.Println(x.Apply([]api.Effect{{Path: "/r/a"}, {Path: "/r/a/b"}}) == api.OK, x.Paths())
	// Output:
	// true [/r]
	// true [/r /r/a /r/a/b]
}
