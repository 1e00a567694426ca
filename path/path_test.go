package path_test

import (
	"fmt"
	"regexp"
	"slices"
	"strings"
	"testing"
	"unicode/utf8"

	"outrider/api"
	"outrider/path"
)

// What a name is, told another way than the program tells it.
var nameForm = regexp.MustCompile(`^[^/\x00-\x1f\x7f\x{FFFD}]+$`)

func oracleName(s string) bool {
	return utf8.ValidString(s) && nameForm.MatchString(s) && s != "." && s != ".."
}

// oracleParts reads p from its end to its beginning, one name at a time.
func oracleParts(p string) (parts []string, ok bool) {
	if p == "/" {
		return nil, true
	}
	if p == "" || len(p) > 64 {
		return nil, false
	}
	for p != "" {
		at := strings.LastIndexByte(p, '/')
		if at < 0 || !oracleName(p[at+1:]) {
			return nil, false
		}
		parts = append([]string{p[at+1:]}, parts...)
		p = p[:at]
	}
	return parts, true
}

func errnoOf(ok bool) api.Errno {
	if ok {
		return api.OK
	}
	return api.ErrPath
}

// texts answers all texts of at most most pieces.
func texts(most int, pieces ...string) []string {
	all, last := []string{""}, []string{""}
	for range most {
		var next []string
		for _, s := range last {
			for _, piece := range pieces {
				next = append(next, s+piece)
			}
		}
		all, last = append(all, next...), next
	}
	return all
}

// paths answers those of the texts that are paths, each once.
func paths(texts []string) []string {
	var all []string
	for _, p := range texts {
		if _, ok := oracleParts(p); ok {
			all = append(all, p)
		}
	}
	slices.Sort(all)
	return slices.Compact(all)
}

// A path of so many bytes, of names of one byte and, if the number is odd, one of two.
func pathOf(size int) string {
	if size%2 == 1 {
		return "/ab" + strings.Repeat("/c", (size-3)/2)
	}
	return strings.Repeat("/c", size/2)
}

// Names that may be, and texts that are none.
var (
	names = []string{
		"a", "Z", "0", " ", "~", "!", "-", "ab", "a b", "...", "....", ".a", "a.", "..a", "a..", ". ", ".. ",
		"\u0080", "\u009f", "\u00a0", "ä", "€", "\u2028", "\ufeff", "\ufffc", "\ufffe", "\uffff", "\ud7ff", "\ue000",
		"😀", "\U00010000", "\U0010ffff", "aä€😀z", "\\", "*", "\u0301", strings.Repeat("n", 63), strings.Repeat("n", 64),
		strings.Repeat("n", 65), strings.Repeat("€", 1000),
	}
	noNames = []string{
		"", ".", "..", "/", "a/", "/a", "a/b", "//",
		"\x00", "\x01", "\t", "\n", "\r", "\x1f", "\x7f", "a\x00", "\x00a", "a\x1fb", "a\x7f", "\x7fa", "ä\n",
		"\ufffd", "a\ufffd", "\ufffda", "a\ufffdb", "\xef\xbf\xbd",
		"\xff", "\xffa", "a\xff", "a\xffb", "\x80", "a\x80", "\xc3", "a\xc3", "\xc3a", "a\xc3b", "ä\xa4",
		"\xc0\xaf", "\xc1\xbf", "\xe2\x82", "a\xe2\x82", "\xe2\x82z", "\xe0\x80\xaf", "\xed\xa0\x80", "\xed\xbf\xbf",
		"\xf0\x9f\x98", "a\xf0\x9f\x98", "\xf0\x9f\x98z", "\xf0\x80\x80\xaf", "\xf4\x90\x80\x80", "\xf8\x88\x80\x80\x80",
		strings.Repeat("n", 1000) + "\xff", strings.Repeat("n", 1000) + "/",
	}
	noPaths = []string{
		"", "a", "a/b", "a/", " ", ".", "..", "\xff", "ä", " /a", "./a",
		"//", "///", "/a/", "/a//", "//a", "/a//b", "/a/b/", "/.", "/..", "/./a", "/../a", "/a/.", "/a/..", "/a/./b", "/a/../b",
		"/\x00", "/\x1f", "/a/\x1f/b", "/\x7f", "/\ufffd", "/a/\ufffd", "/a\ufffd/b",
		"/\xff", "/\xffa", "/a\xff", "/a\xffb", "/a\xff/b", "/a/\xffb", "/\xc3/\xa4", "/\xe2\x82", "/a/\xf0\x9f\x98",
		"/" + strings.Repeat("n", 64), "/" + strings.Repeat("€", 22), "/" + strings.Repeat("n", 1<<16), strings.Repeat("/", 64),
	}
)

// P3.1: names, and what is none.
func TestName(t *testing.T) {
	for _, s := range names {
		if e := path.Name(s); e != api.OK {
			t.Errorf("Name(%.40q) = %v, want OK", s, e)
		}
	}
	for _, s := range noNames {
		if e := path.Name(s); e != api.ErrPath {
			t.Errorf("Name(%.40q) = %v, want ErrPath", s, e)
		}
	}
}

// P3.1: every rune there is, alone and between others.
func TestNameEachRune(t *testing.T) {
	for r := rune(0); r <= utf8.MaxRune; r++ {
		if !utf8.ValidRune(r) {
			continue
		}
		bad := r < 32 || r == '/' || r == 127 || r == 0xfffd
		if e := path.Name(string(r)); e != errnoOf(!bad && r != '.') {
			t.Errorf("Name(%q) = %v", string(r), e)
		}
		if e := path.Name("a" + string(r) + "b"); e != errnoOf(!bad) {
			t.Errorf("Name(a, %q, b) = %v", string(r), e)
		}
	}
}

// P3.1: every text of two bytes, and every byte at each place of a longer one.
func TestNameEachByte(t *testing.T) {
	for v := range 1 << 16 {
		s := string([]byte{byte(v >> 8), byte(v)})
		if e := path.Name(s); e != errnoOf(oracleName(s)) {
			t.Errorf("Name(%q) = %v", s, e)
		}
	}
	for at := range len("aä€😀z") {
		for v := range 256 {
			b := []byte("aä€😀z")
			b[at] = byte(v)
			if e := path.Name(string(b)); e != errnoOf(oracleName(string(b))) {
				t.Errorf("Name(%q) = %v", b, e)
			}
		}
	}
}

// P3.1: paths, and what is none.
func TestCheck(t *testing.T) {
	good := []string{"/", "/a", "/a/b", "/ ", "/...", "/a/.../b", "/.a/b.", "/ä/€/😀", "/" + strings.Repeat("n", 63), "/" + strings.Repeat("€", 21)}
	for _, p := range good {
		if e := path.Check(p); e != api.OK {
			t.Errorf("Check(%q) = %v, want OK", p, e)
		}
	}
	for _, p := range noPaths {
		if e := path.Check(p); e != api.ErrPath {
			t.Errorf("Check(%.40q) = %v, want ErrPath", p, e)
		}
	}
	for _, name := range names {
		if e := path.Check("/" + name); e != errnoOf(len(name) < 64) {
			t.Errorf("Check(/, %.40q) = %v", name, e)
		}
	}
	for _, s := range noNames {
		if s == "" || strings.Contains(s, "/") {
			continue
		}
		for _, p := range []string{"/" + s, "/a/" + s, "/" + s + "/b", "/a/" + s + "/b"} {
			if e := path.Check(p); e != api.ErrPath {
				t.Errorf("Check(%.40q) = %v, want ErrPath", p, e)
			}
		}
	}
}

// P3.1: a path's bytes are counted, not its runes; one more than may be is ErrPath, not ErrLong.
func TestCheckLength(t *testing.T) {
	for size := 2; size < 200; size++ {
		if e := path.Check(pathOf(size)); e != errnoOf(size <= api.MaxPath) {
			t.Errorf("Check(a path of %d bytes) = %v", size, e)
		}
		p := "/" + strings.Repeat("n", size-1)
		if e := path.Check(p); e != errnoOf(size <= api.MaxPath) {
			t.Errorf("Check(a name of %d bytes) = %v", size-1, e)
		}
	}
	if e := path.Check("/" + strings.Repeat("ä", 32)); e != api.ErrPath {
		t.Errorf("Check(a path of 33 runes, 65 bytes) = %v", e)
	}
}

// P3.1, P3.2: all texts of some pieces.
func TestAllTexts(t *testing.T) {
	for _, s := range texts(6, "/", ".", "a", "ä", "\xa4", "\x1f") {
		if e := path.Name(s); e != errnoOf(oracleName(s)) {
			t.Errorf("Name(%q) = %v", s, e)
		}
		wantPath(t, s)
	}
	for _, p := range noPaths {
		wantPath(t, p)
	}
}

// wantPath holds all that is told of one path against what is read from its end.
func wantPath(t *testing.T, p string) {
	t.Helper()
	parts, ok := oracleParts(p)
	parent, base := "", ""
	if ok {
		parent = "/"
	}
	if len(parts) > 0 {
		base = parts[len(parts)-1]
		parent += strings.Join(parts[:len(parts)-1], "/")
	}
	if e := path.Check(p); e != errnoOf(ok) {
		t.Errorf("Check(%.80q) = %v", p, e)
	}
	if got := path.Parts(p); !slices.Equal(got, parts) {
		t.Errorf("Parts(%.80q) = %q, want %q", p, got, parts)
	}
	if got := path.Parent(p); got != parent {
		t.Errorf("Parent(%.80q) = %q, want %q", p, got, parent)
	}
	if got := path.Base(p); got != base {
		t.Errorf("Base(%.80q) = %q, want %q", p, got, base)
	}
}

// P3.2: ordinary paths, / alone, the longest ones, and one byte more.
func TestPartsParentBase(t *testing.T) {
	long := strings.Repeat("n", 63)
	for _, x := range []struct {
		p            string
		parts        []string
		parent, base string
	}{
		{"/", nil, "/", ""},
		{"/a", []string{"a"}, "/", "a"},
		{"/a/b", []string{"a", "b"}, "/a", "b"},
		{"/a/b/c", []string{"a", "b", "c"}, "/a/b", "c"},
		{"/a/a", []string{"a", "a"}, "/a", "a"},
		{"/ä/€ 😀", []string{"ä", "€ 😀"}, "/ä", "€ 😀"},
		{"/ / ", []string{" ", " "}, "/ ", " "},
		{"/.../.a", []string{"...", ".a"}, "/...", ".a"},
		{"/" + long, []string{long}, "/", long},
		{pathOf(64), strings.Split(pathOf(64)[1:], "/"), pathOf(62), "c"},
		{pathOf(65), nil, "", ""},
		{"/" + long + "n", nil, "", ""},
		{"", nil, "", ""},
		{"a", nil, "", ""},
		{"a/b", nil, "", ""},
		{"/a/", nil, "", ""},
		{"//", nil, "", ""},
		{"/a//b", nil, "", ""},
		{"/a/./b", nil, "", ""},
		{"/../b", nil, "", ""},
		{"/a/\xff", nil, "", ""},
		{"/a\x00/b", nil, "", ""},
	} {
		parts, parent, base := path.Parts(x.p), path.Parent(x.p), path.Base(x.p)
		if !slices.Equal(parts, x.parts) || parent != x.parent || base != x.base {
			t.Errorf("of %q: %q, %q, %q, want %q, %q, %q", x.p, parts, parent, base, x.parts, x.parent, x.base)
		}
	}
}

// P3.2, R3: what the caller writes to the parts, or behind them, is not to be seen later.
func TestPartsAreNew(t *testing.T) {
	const p = "/a/b/c"
	parts := path.Parts(p)
	for i := range parts[:cap(parts)] {
		parts[:cap(parts)][i] = "other"
	}
	_ = append(parts[:1], "another")
	if got := path.Parts(p); !slices.Equal(got, []string{"a", "b", "c"}) {
		t.Errorf("Parts(%q) = %q behind a write to what was answered", p, got)
	}
}

func wantJoin(t *testing.T, p, name, want string, wantE api.Errno) {
	t.Helper()
	if got, e := path.Join(p, name); got != want || e != wantE {
		t.Errorf("Join(%.80q, %.80q) = %.80q, %v, want %q, %v", p, name, got, e, want, wantE)
	}
}

// P3.3: ordinary paths and names.
func TestJoin(t *testing.T) {
	wantJoin(t, "/", "a", "/a", api.OK)
	wantJoin(t, "/a", "b", "/a/b", api.OK)
	wantJoin(t, "/a/b", "c", "/a/b/c", api.OK)
	wantJoin(t, "/a", "a", "/a/a", api.OK)
	wantJoin(t, "/", " ", "/ ", api.OK)
	wantJoin(t, "/ä", "€😀", "/ä/€😀", api.OK)
	wantJoin(t, "/a", "...", "/a/...", api.OK)
	wantJoin(t, "/a", "..a", "/a/..a", api.OK)
}

// P3.3: what is no path, or no name, is ErrPath with any other argument.
func TestJoinErrPath(t *testing.T) {
	for _, p := range noPaths {
		for _, name := range slices.Concat(names, noNames) {
			wantJoin(t, p, name, "", api.ErrPath)
		}
	}
	for _, p := range []string{"/", "/a", "/a/b", pathOf(63), pathOf(64)} {
		for _, name := range noNames {
			wantJoin(t, p, name, "", api.ErrPath)
		}
	}
}

// P3.3: at the limit, one byte more, far more; a p that is too long itself is no path, which is told first.
func TestJoinLength(t *testing.T) {
	wantJoin(t, "/", strings.Repeat("n", 63), "/"+strings.Repeat("n", 63), api.OK)
	wantJoin(t, "/", strings.Repeat("n", 64), "", api.ErrLong)
	wantJoin(t, "/", strings.Repeat("n", 1<<16), "", api.ErrLong)
	wantJoin(t, "/", strings.Repeat("€", 21), "/"+strings.Repeat("€", 21), api.OK)
	wantJoin(t, "/", strings.Repeat("€", 22), "", api.ErrLong)
	wantJoin(t, pathOf(62), "c", pathOf(64), api.OK)
	wantJoin(t, pathOf(62), "ab", "", api.ErrLong)
	wantJoin(t, pathOf(62), "ä", "", api.ErrLong)
	wantJoin(t, pathOf(63), "c", "", api.ErrLong)
	wantJoin(t, pathOf(64), "c", "", api.ErrLong)
	wantJoin(t, pathOf(65), "c", "", api.ErrPath)
	for size := 2; size <= 64; size++ {
		for more := 1; more <= 64; more++ {
			p, name := pathOf(size), strings.Repeat("n", more)
			if size+1+more <= api.MaxPath {
				wantJoin(t, p, name, p+"/"+name, api.OK)
			} else {
				wantJoin(t, p, name, "", api.ErrLong)
			}
		}
	}
}

// P3.4: paths under each other, and such as only begin with the same bytes.
func TestUnder(t *testing.T) {
	for _, x := range []struct {
		p, root string
		want    bool
	}{
		{"/", "/", true},
		{"/a", "/", true},
		{"/a/b/c", "/", true},
		{"/a", "/a", true},
		{"/a/b", "/a", true},
		{"/a/b/c", "/a", true},
		{"/a/b/c", "/a/b", true},
		{"/ä/b", "/ä", true},
		{pathOf(64), pathOf(62), true},
		{pathOf(64), pathOf(64), true},
		{pathOf(64), "/", true},
		{"/", "/a", false},
		{"/a", "/a/b", false},
		{"/ab", "/a", false},
		{"/a", "/ab", false},
		{"/ab/c", "/a", false},
		{"/a/bc", "/a/b", false},
		{"/a/b", "/b", false},
		{"/b/a", "/a", false},
		{"/a/b", "/c/b", false},
		{"/a/b/c", "/a/c", false},
		{"/A", "/a", false},
		{"/ä", "/a", false},
		{"/a\u0301", "/a", false},
		{"/á", "/a\u0301", false},
	} {
		if got := path.Under(x.p, x.root); got != x.want {
			t.Errorf("Under(%q, %q) = %v", x.p, x.root, got)
		}
	}
}

// P3.4: what is no path is under nothing, and nothing is under it, not even itself.
func TestUnderNoPath(t *testing.T) {
	for _, p := range append(noPaths, pathOf(65)) {
		for _, q := range append([]string{"/", "/a", "/a/b", p, p + "/b", pathOf(64)}, noPaths...) {
			if path.Under(p, q) || path.Under(q, p) {
				t.Errorf("Under of %.80q and %.80q", p, q)
			}
		}
	}
}

// P3.4: all pairs of short texts, paths or not.
func TestUnderAllPairs(t *testing.T) {
	all := texts(5, "/", "a", ".")
	for _, p := range all {
		parts, ok := oracleParts(p)
		for _, root := range all {
			first, okRoot := oracleParts(root)
			want := ok && okRoot && len(first) <= len(parts)
			for i := 0; want && i < len(first); i++ {
				want = parts[i] == first[i]
			}
			if got := path.Under(p, root); got != want {
				t.Errorf("Under(%q, %q) = %v", p, root, got)
			}
		}
	}
}

// P3.5: a path is its parts, joined one by one; and its parent, joined with its last part.
func TestJoinedAgain(t *testing.T) {
	for _, p := range manyPaths() {
		wantJoined(t, p)
	}
}

func wantJoined(t *testing.T, p string) {
	t.Helper()
	joined := "/"
	for _, part := range path.Parts(p) {
		next, e := path.Join(joined, part)
		if e != api.OK || path.Parent(next) != joined || path.Base(next) != part || !path.Under(p, next) {
			t.Errorf("%q: Join(%q, %q) = %q, %v", p, joined, part, next, e)
		}
		joined = next
	}
	if joined != p {
		t.Errorf("the parts of %q joined: %q", p, joined)
	}
	if p != "/" {
		wantJoin(t, path.Parent(p), path.Base(p), p, api.OK)
	}
}

func manyPaths() []string {
	all := paths(texts(6, "/", "a", "..", "ä"))
	for size := 2; size <= 64; size++ {
		all = append(all, pathOf(size), "/"+strings.Repeat("n", size-1))
	}
	for _, name := range names {
		if len(name) < 60 {
			all = append(all, "/"+name, "/a/"+name, "/"+name+"/a")
		}
	}
	return all
}

// P3.5: Under is an order.
func TestUnderIsAnOrder(t *testing.T) {
	all := paths(texts(6, "/", "a", "b"))
	for _, p := range append(all, manyPaths()...) {
		if !path.Under(p, p) || !path.Under(p, "/") || !path.Under(p, path.Parent(p)) {
			t.Errorf("%q is not under itself, / and its parent", p)
		}
	}
	for _, p := range all {
		for _, q := range all {
			if p != q && path.Under(p, q) && path.Under(q, p) {
				t.Errorf("%q and %q are under each other", p, q)
			}
			for _, r := range all {
				if path.Under(p, q) && path.Under(q, r) && !path.Under(p, r) {
					t.Errorf("%q under %q under %q, but not under it", p, q, r)
				}
			}
		}
	}
}

// All promises, of any texts.
func FuzzPath(f *testing.F) {
	for _, p := range append(noPaths, "/", "/a/b", "/ä/€/😀", pathOf(64)) {
		f.Add(p, "a")
	}
	for _, name := range append(names, noNames...) {
		f.Add("/a", name)
	}
	f.Fuzz(func(t *testing.T, p, name string) {
		if e := path.Name(name); e != errnoOf(oracleName(name)) {
			t.Errorf("Name(%q) = %v", name, e)
		}
		wantPath(t, p)
		_, ok := oracleParts(p)
		if ok {
			wantJoined(t, p)
		}
		joined := strings.TrimSuffix(p, "/") + "/" + name
		switch {
		case !ok || !oracleName(name):
			wantJoin(t, p, name, "", api.ErrPath)
		case len(joined) > 64:
			wantJoin(t, p, name, "", api.ErrLong)
		default:
			wantJoin(t, p, name, joined, api.OK)
		}
		if got := path.Under(p, p); got != ok {
			t.Errorf("Under(%q, itself) = %v", p, got)
		}
	})
}

// The chapter's examples.
func Example() {
	for _, p := range []string{"/", "/a/b", "/a/", "a", "/a/../b"} {
		fmt.Println("Check", p, int(path.Check(p)))
	}
	fmt.Println("of /a/b:", path.Parent("/a/b"), path.Base("/a/b"), "of /:", path.Parts("/"))
	fmt.Println("Under", path.Under("/a/b", "/a"), path.Under("/ab", "/a"), path.Under("/a", "/a/b"), path.Under("/a", "/"))
	for _, x := range [][2]string{{"/", "a"}, {"/a", "b"}, {"/a", ".."}} {
		joined, e := path.Join(x[0], x[1])
		fmt.Printf("Join %q %d\n", joined, int(e))
	}
	// Output:
	// Check / 0
	// Check /a/b 0
	// Check /a/ 30
	// Check a 30
	// Check /a/../b 30
	// of /a/b: /a b of /: []
	// Under true false false true
	// Join "/a" 0
	// Join "/a/b" 0
	// Join "" 30
}
