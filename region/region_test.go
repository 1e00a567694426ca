package region_test

import (
	"fmt"
	"math/rand"
	"slices"
	"strings"
	"testing"

	"outrider/api"
	"outrider/path"
	"outrider/region"
)

// longest is a path of as many bytes as may be, and deepest one of as many parts, too.
var (
	longest = "/" + strings.Repeat("n", api.MaxPath-1)
	deepest = strings.Repeat("/d", api.MaxPath/2)
)

var noPaths = []string{
	"", "a", "a/b", " ", ".", "..", "//", "/a/", "/a//b", "//a", "/.", "/..", "/a/.", "/a/..", "/a/../b", "/a/\x00", "/a/\x1f", "/a/\x7f",
	"/a/\xff", "/a/\ufffd", longest + "n", longest + "/", deepest + "/", "/a/" + strings.Repeat("n", 1000),
}

// oracleOf goes up from p, from path to path, till one is a root: the first that is found has the most parts.
func oracleOf(l []string, p string) int {
	if path.Check(p) != api.OK {
		return -1
	}
	for {
		for i, root := range l {
			if root == p {
				return i
			}
		}
		if p == "/" {
			return -1
		}
		p = p[:max(strings.LastIndexByte(p, '/'), 1)]
	}
}

// oracleCheck counts what may be wrong, each on its own.
func oracleCheck(l []string) api.Errno {
	times, bad := map[string]int{}, 0
	for _, root := range l {
		times[root]++
		if path.Check(root) != api.OK {
			bad++
		}
	}
	switch {
	case len(l) == 0 || len(l) > 4 || len(times) < len(l):
		return api.ErrArg
	case bad > 0:
		return api.ErrPath
	}
	return api.OK
}

// oracleAll gathers the regions of all paths.
func oracleAll(l []string, o api.Op) (int, api.Errno) {
	regions := map[int]bool{}
	for _, part := range o.Parts {
		regions[oracleOf(l, part.Path)] = true
	}
	if len(o.Parts) == 0 {
		regions[oracleOf(l, o.Path)] = true
	}
	if len(regions) != 1 || regions[-1] {
		return 0, api.ErrRegion
	}
	for n := range regions {
		return n, api.OK
	}
	panic("one region, but none")
}

// withRoom is a like list, with room behind its end that is not empty.
func withRoom(l []string) []string {
	return append(slices.Clone(l), "/room", "room", "/a")[:len(l)]
}

// wantUnchanged wants what was handed in, and the room behind it, to stay as they are while do runs.
func wantUnchanged(t *testing.T, l []string, do func(l []string)) {
	t.Helper()
	mine := withRoom(l)
	was := slices.Clone(mine[:cap(mine)])
	do(mine)
	if !slices.Equal(mine[:cap(mine)], was) {
		t.Fatalf("%q became %q", was, mine[:cap(mine)])
	}
}

func wantCheck(t *testing.T, l []string, want api.Errno) {
	t.Helper()
	wantUnchanged(t, l, func(l []string) {
		for range 2 {
			if e := region.Check(l); e != want {
				t.Errorf("Check(%.80q): %v, want %v", l, e, want)
			}
		}
	})
}

func wantOf(t *testing.T, l []string, p string, want int) {
	t.Helper()
	wantUnchanged(t, l, func(l []string) {
		for range 2 {
			if n := region.Of(l, p); n != want {
				t.Errorf("Of(%.80q, %.80q) = %d, want %d", l, p, n, want)
			}
		}
	})
}

func wantAll(t *testing.T, l []string, o api.Op, want int, wantE api.Errno) {
	t.Helper()
	asked := toldWithRoom(o)
	wantUnchanged(t, l, func(l []string) {
		for range 2 {
			if n, e := region.All(l, o); n != want || e != wantE {
				t.Errorf("All(%.80q, %+v) = %d, %v, want %d, %v", l, o, n, e, want, wantE)
			}
		}
	})
	if now := toldWithRoom(o); now != asked {
		t.Fatalf("%s became %s", asked, now)
	}
}

// toldWithRoom says an operation, and what stands in the room behind its parts.
func toldWithRoom(o api.Op) string { return fmt.Sprintf("%+v", []any{o, o.Parts[:cap(o.Parts)]}) }

func get(p string) api.Op { return api.Op{Kind: api.OpGet, Path: p} }

// multi is one of gets at these paths, with room behind its parts. Its own path is none.
func multi(paths ...string) api.Op {
	parts := make([]api.Op, 0, len(paths)+3)
	for _, p := range append(paths, "/room", "room") {
		parts = append(parts, get(p))
	}
	return api.Op{Kind: api.OpMulti, Parts: parts[:len(paths)]}
}

// lists are all lists of at most most of these texts, in all orders.
func lists(most int, texts ...string) [][]string {
	all, last := [][]string{nil}, [][]string{nil}
	for range most {
		var next [][]string
		for _, l := range last {
			for _, s := range texts {
				next = append(next, append(slices.Clone(l), s))
			}
		}
		all, last = append(all, next...), next
	}
	return all
}

// P6.1: 1 to MaxRegions roots, whatever paths they are.
func TestCheckHowMany(t *testing.T) {
	roots := []string{"/a", "/b", "/c", "/d", "/e", "/f", "/g", "/h"}
	for n := range len(roots) + 1 {
		want := api.OK
		if n < 1 || n > 4 {
			want = api.ErrArg
		}
		wantCheck(t, roots[:n], want)
	}
	wantCheck(t, nil, api.ErrArg)
	wantCheck(t, []string{}, api.ErrArg)
	var many []string
	for i := range 70000 {
		many = append(many, fmt.Sprint("/", i))
	}
	for _, n := range []int{256, 257, 260, 65536, 65537, 70000} {
		wantCheck(t, many[:n], api.ErrArg)
	}
}

// P6.1: ordinary roots: alone, beside each other, below each other, / alone and among others, of the most bytes.
func TestCheckOK(t *testing.T) {
	for _, l := range [][]string{
		{"/a"}, {"/a/b/c"}, {"/"}, {"/", "/a"}, {"/a", "/"}, {"/a", "/b", "/", "/c"}, {"/a", "/a/b"}, {"/a/b", "/a"}, {"/a", "/ab"}, {"/ab", "/a"},
		{"/a", "/a/a", "/a/a/a", "/a/a/a/a"}, {"/a", "/A", "/ä", "/a\u0308"}, {"/ ", "/  "}, {longest}, {deepest}, {longest, deepest, "/", "/d"},
	} {
		wantCheck(t, l, api.OK)
	}
}

// P6.1: a root that is there twice, wherever the two stand.
func TestCheckTwice(t *testing.T) {
	roots := []string{"/a", "/b", "/c", "/d"}
	for n := 2; n <= len(roots); n++ {
		for i := range n {
			for j := range n {
				l, want := slices.Clone(roots[:n]), api.ErrArg
				l[i] = l[j]
				if i == j {
					want = api.OK
				}
				wantCheck(t, l, want)
			}
		}
	}
	wantCheck(t, []string{"/", "/"}, api.ErrArg)
	wantCheck(t, []string{"/a", "/a", "/a", "/a"}, api.ErrArg)
	wantCheck(t, []string{longest, "/a", longest}, api.ErrArg)
	wantCheck(t, []string{"/a/b", strings.Clone("/a/b")}, api.ErrArg)
}

// P6.1: a root that is no path, wherever it stands.
func TestCheckNoPath(t *testing.T) {
	for _, bad := range noPaths {
		for n := 1; n <= api.MaxRegions; n++ {
			for at := range n {
				l := []string{"/a", "/b", "/c", "/d"}[:n]
				l[at] = bad
				wantCheck(t, l, api.ErrPath)
			}
		}
	}
	wantCheck(t, noPaths[:4], api.ErrPath)
}

// P6.1: how many, and one that is there twice, ahead of what is no path.
func TestCheckArgAheadOfPath(t *testing.T) {
	for _, bad := range noPaths {
		wantCheck(t, []string{bad, bad}, api.ErrArg)
		wantCheck(t, []string{bad, "/a", bad}, api.ErrArg)
		wantCheck(t, []string{bad, "/a", "/a"}, api.ErrArg)
		wantCheck(t, []string{"/a", bad, "/a"}, api.ErrArg)
		wantCheck(t, []string{"/a", "/a", bad}, api.ErrArg)
		wantCheck(t, []string{"/a", "/b", "/a", bad}, api.ErrArg)
		wantCheck(t, []string{bad, "/a", "/b", "/c", "/d"}, api.ErrArg)
		wantCheck(t, []string{"/a", "/b", "/c", "/d", bad}, api.ErrArg)
		wantCheck(t, slices.Repeat([]string{bad}, 5), api.ErrArg)
	}
	wantCheck(t, noPaths[:5], api.ErrArg)
}

// P6.1: all short lists.
func TestCheckAll(t *testing.T) {
	for _, l := range lists(5, "/", "/a", "/a/b", "/a/", "", "/c") {
		wantCheck(t, l, oracleCheck(l))
	}
}

// P6.2: ordinary regions, beside each other and below each other.
func TestOf(t *testing.T) {
	l := []string{"/a", "/a/b", "/c", "/a/b/c/d"}
	for p, want := range map[string]int{
		"/a": 0, "/a/x": 0, "/a/x/b": 0, "/a/c": 0, "/a/a": 0, "/a/bc": 0, "/a/B": 0, "/a/b": 1, "/a/b/x": 1, "/a/b/c": 1, "/a/b/b": 1, "/a/b/c/dd": 1,
		"/a/b/c/d": 3, "/a/b/c/d/e": 3, "/a/b/c/d/e/f/g": 3, "/c": 2, "/c/a": 2, "/c/a/b": 2, "/c/c": 2,
		"/": -1, "/b": -1, "/ab": -1, "/aa": -1, "/A": -1, "/ca": -1, "/b/a": -1, "/d/c": -1, "/x/a/b": -1, "/ä": -1,
	} {
		wantOf(t, l, p, want)
	}
}

// P6.2: one root.
func TestOfOne(t *testing.T) {
	wantOf(t, []string{"/a/b"}, "/a/b", 0)
	wantOf(t, []string{"/a/b"}, "/a/b/c", 0)
	wantOf(t, []string{"/a/b"}, "/a", -1)
	wantOf(t, []string{"/a/b"}, "/", -1)
	wantOf(t, []string{"/a/b"}, "/a/bc", -1)
	wantOf(t, []string{longest}, longest, 0)
	wantOf(t, []string{longest}, longest[:63], -1)
	wantOf(t, []string{longest[:63]}, longest, -1)
	wantOf(t, []string{deepest}, deepest, 0)
	wantOf(t, []string{deepest}, deepest[:62], -1)
	wantOf(t, []string{deepest[:62]}, deepest, 0)
}

// P6.2: no root at all.
func TestOfNoRoot(t *testing.T) {
	for _, p := range append(noPaths, "/", "/a", longest) {
		wantOf(t, nil, p, -1)
		wantOf(t, []string{}, p, -1)
	}
}

// P6.2: all paths are under /, which is the shortest one.
func TestOfSlash(t *testing.T) {
	for _, p := range []string{"/", "/a", "/a/b", longest, deepest} {
		wantOf(t, []string{"/"}, p, 0)
		wantOf(t, []string{"/b", "/"}, p, 1)
		wantOf(t, []string{"/", "/b"}, p, 0)
	}
	wantOf(t, []string{"/", "/a"}, "/a", 1)
	wantOf(t, []string{"/a", "/"}, "/a", 0)
	wantOf(t, []string{"/", "/a"}, "/a/b", 1)
	wantOf(t, []string{"/", "/a"}, "/ab", 0)
	wantOf(t, []string{"/a/b", "/", "/a"}, "/a/c", 2)
	wantOf(t, []string{"/a/b", "/", "/a"}, "/c", 1)
}

// P6.2: what is no path has no region, whatever the roots, itself among them.
func TestOfNoPath(t *testing.T) {
	for _, p := range noPaths {
		for _, l := range [][]string{{"/"}, {"/a"}, {"/a", "/"}, {p}, {"/", p}, {p, "/a", "/"}, noPaths} {
			wantOf(t, l, p, -1)
		}
	}
}

// P6.2: a root that is no path is none, and is counted nevertheless.
func TestOfRootNoPath(t *testing.T) {
	for _, bad := range noPaths {
		wantOf(t, []string{bad}, "/", -1)
		wantOf(t, []string{bad}, "/a", -1)
		wantOf(t, []string{bad}, "/a/b", -1)
		wantOf(t, []string{bad, "/a"}, "/a/b", 1)
		wantOf(t, []string{"/a", bad}, "/a/b", 0)
		wantOf(t, []string{bad, "/a", bad, "/a/b", bad}, "/a/b", 3)
		wantOf(t, []string{bad, "/a", bad, "/a/b", bad}, "/a/c", 1)
		wantOf(t, []string{"/", bad}, "/a/b", 0)
	}
}

// P6.2: of like roots the first one's, but of others the longest one, which also stands first.
func TestOfLike(t *testing.T) {
	wantOf(t, []string{"/a", "/a"}, "/a", 0)
	wantOf(t, []string{"/a", "/a", "/a"}, "/a/b", 0)
	wantOf(t, []string{"/", "/a", "/a"}, "/a/b", 1)
	wantOf(t, []string{"/a", "/", "/a"}, "/a/b", 0)
	wantOf(t, []string{"/", "/", "/a", "/a/b", "/a/b", "/a"}, "/a/b/c", 3)
	wantOf(t, []string{"/a/b", "/", "/a", "/a/b", "/a/b", "/a"}, "/a/b/c", 0)
	wantOf(t, []string{"/", "/", "/a", "/a/b", "/a/b", "/a"}, "/a/c", 2)
	wantOf(t, []string{"/", "/", "/a", "/a/b", "/a/b", "/a"}, "/c", 0)
	wantOf(t, slices.Repeat([]string{"/a"}, 300), "/a", 0)
}

// P6.2: the most parts, also where the parts are short ones, and where there are more roots than MaxRegions.
func TestOfMostParts(t *testing.T) {
	var l []string
	for size := 2; size <= len(deepest); size += 2 {
		l = append(l, deepest[:size])
	}
	for i, root := range l {
		wantOf(t, l, root, i)
		if len(root)+3 <= api.MaxPath {
			wantOf(t, l, root+"/x", i)
		}
	}
	slices.Reverse(l)
	for i, root := range l {
		wantOf(t, l, root, i)
	}
	wantOf(t, []string{"/" + strings.Repeat("n", 40), "/d/d"}, "/d/d/"+strings.Repeat("n", 40), 1)
}

// P6.2: a great many roots, that p is under half of: it ends soon.
func TestOfMany(t *testing.T) {
	l := slices.Repeat([]string{"/d", "/x", "no", "/d/d"}, 50000)
	wantOf(t, l, "/d/d/d", 3)
	wantOf(t, l, "/d/x", 0)
	wantOf(t, l, "/y", -1)
	wantOf(t, append(l, "/d/d/d"), "/d/d/d", len(l))
}

// P6.2: all short lists, of all short paths, and of texts that are none.
func TestOfAll(t *testing.T) {
	paths := []string{"/", "/a", "/b", "/ab", "/a/a", "/a/b", "/a/ab", "/ab/a", "/a/b/a", "/a/b/b/a", "/a/", "a", ""}
	for _, l := range lists(4, "/", "/a", "/ab", "/a/b", "/a/b/b", "/a/", "") {
		for _, p := range paths {
			if n, want := region.Of(l, p), oracleOf(l, p); n != want {
				t.Fatalf("Of(%q, %q) = %d, want %d", l, p, n, want)
			}
		}
	}
}

// P6.3: an operation without Parts has its Path's region, of whatever kind it is.
func TestAllNoParts(t *testing.T) {
	l := []string{"/a", "/a/b", "/c"}
	for p, want := range map[string]int{"/a": 0, "/a/x": 0, "/a/b": 1, "/a/b/x": 1, "/c/x": 2, "/": -1, "/ab": -1, "": -1, "a": -1, "/a/": -1, "/c/..": -1} {
		n, e := want, api.OK
		if want < 0 {
			n, e = 0, api.ErrRegion
		}
		for kind := range 256 {
			wantAll(t, l, api.Op{Kind: uint8(kind), Path: p}, n, e)
			wantAll(t, l, api.Op{Kind: uint8(kind), Path: p, Parts: []api.Op{}}, n, e)
		}
		wantAll(t, l, api.Op{Kind: api.OpCreate, Path: p, Data: make([]byte, 100), Version: 7, Seq: true, Eph: true}, n, e)
		room := multi(p, "/a", "/c")
		room.Path, room.Parts = p, room.Parts[:0]
		wantAll(t, l, room, n, e)
	}
}

// P6.3: Parts in one region, how many there are.
func TestAllOneRegion(t *testing.T) {
	l := []string{"/a", "/a/b", "/c"}
	for _, n := range []int{1, 2, 3, api.MaxMulti, api.MaxMulti + 1, 300} {
		wantAll(t, l, multi(slices.Repeat([]string{"/a/x"}, n)...), 0, api.OK)
		wantAll(t, l, multi(slices.Repeat([]string{"/a/b/x"}, n)...), 1, api.OK)
		wantAll(t, l, multi(slices.Repeat([]string{"/c"}, n)...), 2, api.OK)
	}
	wantAll(t, l, multi("/a", "/a/x", "/a/bb", "/a/c/b", "/a/x"), 0, api.OK)
	wantAll(t, l, multi("/a/b", "/a/b/a", "/a/b/c"), 1, api.OK)
	wantAll(t, l, multi("/c/a/b", "/c"), 2, api.OK)
	wantAll(t, []string{"/"}, multi("/c/a/b", "/", longest), 0, api.OK)
}

// P6.3: Parts in several regions, or one in none, wherever that stands.
func TestAllSeveral(t *testing.T) {
	l := []string{"/a", "/a/b", "/c"}
	in := []string{"/a/x", "/a/b/x", "/c/x"}
	for n := 1; n <= api.MaxMulti; n++ {
		for at := range n {
			for i, p := range in {
				for _, other := range append([]string{"/", "/ab", "/b/a", "/x"}, append(in, noPaths...)...) {
					paths := slices.Repeat([]string{p}, n)
					paths[at] = other
					want, wantE := 0, api.ErrRegion
					if other == p {
						want, wantE = i, api.OK
					} else if n == 1 && slices.Contains(in, other) {
						want, wantE = slices.Index(in, other), api.OK
					}
					wantAll(t, l, multi(paths...), want, wantE)
				}
			}
		}
	}
	wantAll(t, l, multi("/a/x", "/a/b", "/c"), 0, api.ErrRegion)
	wantAll(t, l, multi("/x", "/x"), 0, api.ErrRegion)
	wantAll(t, l, multi("", "a"), 0, api.ErrRegion)
}

// P6.3: beside Parts, Path is not looked at, and Kind never is; parts of parts are not.
func TestAllPartsAlone(t *testing.T) {
	l := []string{"/a", "/a/b", "/c"}
	for _, p := range append(noPaths, "/", "/x", "/a", "/a/b/x", "/c") {
		for _, kind := range []uint8{0, api.OpCreate, api.OpGet, api.OpMulti, api.OpMulti + 1, 255} {
			o := multi("/a/x", "/a/y")
			o.Kind, o.Path = kind, p
			wantAll(t, l, o, 0, api.OK)
			o.Parts[1].Path = "/c"
			wantAll(t, l, o, 0, api.ErrRegion)
			o.Parts[1].Path = "/x"
			wantAll(t, l, o, 0, api.ErrRegion)
		}
		o := multi("/c/x", "/c/y")
		o.Parts[0].Parts = []api.Op{get(p), get("/a")}
		wantAll(t, l, o, 2, api.OK)
	}
	parts := make([]api.Op, 1)
	parts[0] = api.Op{Kind: api.OpMulti, Path: "/c", Parts: parts}
	if n, e := region.All(l, api.Op{Path: "/a", Parts: parts}); n != 2 || e != api.OK {
		t.Errorf("All of a list that has itself as a part of a part: %d, %v", n, e)
	}
}

// P6.3: lists that Check would not have, as at Of: like roots are one region, the first one's.
func TestAllOddRoots(t *testing.T) {
	wantAll(t, nil, get("/a"), 0, api.ErrRegion)
	wantAll(t, nil, multi("/a", "/a"), 0, api.ErrRegion)
	wantAll(t, nil, api.Op{}, 0, api.ErrRegion)
	wantAll(t, []string{"", "a"}, api.Op{}, 0, api.ErrRegion)
	wantAll(t, []string{"", "a"}, get("a"), 0, api.ErrRegion)
	wantAll(t, []string{"x", "/a", "/a"}, get("/a"), 1, api.OK)
	wantAll(t, []string{"x", "/a", "/a"}, multi("/a", "/a/b"), 1, api.OK)
	wantAll(t, []string{"/a", "/b", "/c", "/d", "/e", "/f"}, multi("/f/x", "/f"), 5, api.OK)
}

// P6.3: all short lists of roots and of parts.
func TestAllAll(t *testing.T) {
	parts := lists(3, "/", "/a", "/ab", "/a/b", "/a/b/a", "/a/", "/c")
	for _, l := range lists(3, "/", "/a", "/a/b", "/a/", "/c") {
		for _, paths := range parts {
			o := multi(paths...)
			o.Path = "/a/b"
			n, e := region.All(l, o)
			if want, wantE := oracleAll(l, o); n != want || e != wantE {
				t.Fatalf("All(%q, %q) = %d, %v, want %d, %v", l, paths, n, e, want, wantE)
			}
		}
	}
}

// rootsOf are lists that Check has, of roots beside and below each other.
func rootsOf() [][]string {
	return slices.DeleteFunc(lists(4, "/", "/a", "/a/b", "/a/b/c", "/ab", "/c/d"), func(l []string) bool { return region.Check(l) != api.OK })
}

// pathsBelow are all paths of at most four of these parts.
func pathsBelow() []string {
	all := []string{"/"}
	for _, names := range lists(4, "a", "b", "c", "ab") {
		if len(names) > 0 {
			all = append(all, "/"+strings.Join(names, "/"))
		}
	}
	return all
}

// P6.4: a root is its own region's. A path has one at most, which it is under; no root that it is under, too, has as many parts.
func TestOneRegion(t *testing.T) {
	paths := pathsBelow()
	for _, l := range rootsOf() {
		for i, root := range l {
			if n := region.Of(l, root); n != i {
				t.Fatalf("Of(%q, %q) = %d, want %d", l, root, n, i)
			}
		}
		for _, p := range paths {
			n := region.Of(l, p)
			if n < -1 || n >= len(l) || n >= 0 && !path.Under(p, l[n]) {
				t.Fatalf("Of(%q, %q) = %d", l, p, n)
			}
			for i, root := range l {
				if i != n && path.Under(p, root) && (n < 0 || len(path.Parts(root)) >= len(path.Parts(l[n]))) {
					t.Fatalf("Of(%q, %q) = %d, but it is under %d", l, p, n, i)
				}
			}
		}
	}
}

// P6.4: what is below a path that has a region has one, whose root has no fewer parts.
func TestBelow(t *testing.T) {
	paths := pathsBelow()
	for _, l := range rootsOf() {
		for _, p := range paths {
			n, above := region.Of(l, p), region.Of(l, path.Parent(p))
			if above >= 0 && (n < 0 || !path.Under(l[n], l[above])) {
				t.Fatalf("Of(%q, %q) = %d, but its parent's is %d", l, p, n, above)
			}
		}
	}
}

// P6.2, P6.3: the order of the roots turns nothing but the numbers: what is found is the same root.
func TestOrderOfRoots(t *testing.T) {
	paths := pathsBelow()
	turn := rand.New(rand.NewSource(6))
	for _, l := range rootsOf() {
		other := slices.Clone(l)
		turn.Shuffle(len(other), func(i, j int) { other[i], other[j] = other[j], other[i] })
		if e := region.Check(other); e != api.OK {
			t.Fatalf("Check(%q): %v", other, e)
		}
		for _, p := range paths {
			if a, b := rootAt(l, region.Of(l, p)), rootAt(other, region.Of(other, p)); a != b {
				t.Fatalf("the root of %q is %q among %q, and %q among %q", p, a, l, b, other)
			}
			o := multi(p, paths[turn.Intn(len(paths))])
			n, e := region.All(l, o)
			m, f := region.All(other, o)
			if e != f || e == api.OK && l[n] != other[m] {
				t.Fatalf("%+v: %d, %v among %q, and %d, %v among %q", o, n, e, l, m, f, other)
			}
		}
	}
	for _, l := range lists(4, "/a", "/b", "/a/", "") {
		other := slices.Clone(l)
		slices.Reverse(other)
		if e, f := region.Check(l), region.Check(other); e != f {
			t.Fatalf("Check(%q): %v, but %v of %q", l, e, f, other)
		}
	}
}

func rootAt(l []string, n int) string {
	if n < 0 {
		return "none"
	}
	return l[n]
}

// R2, R3: a list is not kept: an answer hangs on what it says now, not on what was asked ahead.
func TestNotKept(t *testing.T) {
	l := []string{"/a", "/b"}
	wantOf(t, l, "/a/x", 0)
	wantAll(t, l, multi("/b/x", "/b"), 1, api.OK)
	region.Of(l, "/a/x")
	region.All(l, multi("/b/x"))
	region.Check(l)
	l[0], l[1] = "/b", "/a"
	if n := region.Of(l, "/a/x"); n != 1 {
		t.Errorf("Of(%q, /a/x) = %d", l, n)
	}
	if n, e := region.All(l, multi("/b/x")); n != 0 || e != api.OK {
		t.Errorf("All(%q, /b/x) = %d, %v", l, n, e)
	}
	l[1] = "/b"
	if e := region.Check(l); e != api.ErrArg {
		t.Errorf("Check(%q): %v", l, e)
	}
}

// All promises, of any texts.
func FuzzRegion(f *testing.F) {
	f.Add("/a", "/a/b", "/c", "/a/b/x", "/a/x")
	f.Add("/", "/a", "/a", "/", "/a")
	for _, bad := range noPaths {
		f.Add(bad, "/", "/a/b", "/a/b", bad)
		f.Add("/a", bad, bad, bad, "/a/c")
	}
	f.Fuzz(func(t *testing.T, a, b, c, p, q string) {
		l := []string{a, b, c}
		wantCheck(t, l, oracleCheck(l))
		wantCheck(t, l[:2], oracleCheck(l[:2]))
		wantOf(t, l, p, oracleOf(l, p))
		wantOf(t, l, q, oracleOf(l, q))
		for _, o := range []api.Op{get(p), multi(p), multi(p, q), multi(q, p, p)} {
			n, e := oracleAll(l, o)
			wantAll(t, l, o, n, e)
		}
	})
}

// The chapter's examples.
func Example() {
	l := []string{"/a", "/a/b", "/c"}
	fmt.Println("Of", region.Of(l, "/a/x"), region.Of(l, "/a/b/x"), region.Of(l, "/ab"), region.Of(l, "/c"))
	for _, o := range []api.Op{multi("/a/x", "/a/y"), multi("/a/x", "/a/b")} {
		n, e := region.All(l, o)
		fmt.Println("All", n, int(e))
	}
	for _, roots := range [][]string{{"/a", "/a"}, nil, {"a"}} {
		fmt.Println("Check", int(region.Check(roots)))
	}
	// Output:
	// Of 0 1 -1 2
	// All 0 0
	// All 0 60
	// Check 1
	// Check 1
	// Check 30
}
