package path

import (
	"math/rand"
	"slices"
	"strings"
	"testing"

	"rillbed/api"
)

// isName is how the chapter's words say what a name is, but for its length if that is not asked; nothing at all is no name either way.
func isName(s string, ofAnyLength bool) bool {
	if len(s) == 0 || len(s) > 16 && !ofAnyLength {
		return false
	}
	for i := range len(s) {
		if s[i] == 0 || s[i] == 0x2f {
			return false
		}
	}
	return s != "\x2e" && s != "\x2e\x2e"
}

// parsed is how the chapter's words say what Parse answers.
func parsed(p string) (string, []string, api.Errno) {
	if len(p) > 120 {
		return "", nil, api.ErrLong
	}
	parts := strings.Split(p, "/")
	if len(parts) == 1 {
		return "", nil, api.ErrForm
	}
	snap := parts[0]
	if p[0] != '/' {
		if snap[len(snap)-1] != ':' || strings.Count(snap, ":") != 1 || !isName(snap[:len(snap)-1], true) {
			return "", nil, api.ErrForm
		}
		snap = snap[:len(snap)-1]
		if len(snap) > 16 {
			return "", nil, api.ErrLong
		}
	}
	names := parts[1:]
	if len(names) == 1 && names[0] == "" {
		return snap, nil, api.OK
	}
	for i, name := range names {
		if !isName(name, true) {
			return "", nil, api.ErrForm
		}
		if len(name) > 16 || i == 6 {
			return "", nil, api.ErrLong
		}
	}
	return snap, names, api.OK
}

// texts are all texts of at most n of the pieces, one behind the other.
func texts(pieces []string, n int) []string {
	out := []string{""}
	for from := 0; n > 0; n-- {
		to := len(out)
		for _, s := range out[from:to] {
			for _, p := range pieces {
				out = append(out, s+p)
			}
		}
		from = to
	}
	return out
}

func of(names ...string) []string { return names }

// long is a text of n bytes that is a name but for its length.
func long(n int) string { return strings.Repeat("n", n) }

func wantParse(t *testing.T, p, snap string, l []string, want api.Errno) {
	t.Helper()
	gotSnap, got, e := Parse(p)
	if gotSnap != snap || !slices.Equal(got, l) || e != want {
		t.Errorf("Parse of %q (%d bytes): %q, %q, %d; not %q, %q, %d", p, len(p), gotSnap, got, e, snap, l, want)
	}
}

func wantText(t *testing.T, snap string, l []string, text string, want api.Errno) {
	t.Helper()
	got, e := Text(snap, l)
	if got != text || e != want {
		t.Errorf("Text of %q, %q: %q, %d; not %q, %d", snap, l, got, e, text, want)
	}
}

func wantMove(t *testing.T, l, from, to, want []string) {
	t.Helper()
	if got := Move(l, from, to); !slices.Equal(got, want) {
		t.Errorf("Move of %q from %q to %q: %q, not %q", l, from, to, got, want)
	}
}

// P5.1
func TestName(t *testing.T) {
	for _, s := range of("a", "ab", "a b", " ", "...", "....", ".a", "a.", "..a", "a..", ":", "a:b", "::", "\x01", "\xff", "\xff\xfe", "\\", "näh", "\u2044", long(15), long(16), strings.Repeat(".", 16)) {
		if !Name(s) {
			t.Errorf("Name of %q: false", s)
		}
	}
	for _, s := range of("", ".", "..", "/", "a/", "/a", "a/b", "\x00", "a\x00", "\x00a", "a\x00b", ".\x00", "./", long(17), long(18), strings.Repeat(".", 17), long(300), long(15)+"/", long(15)+"\x00", long(16)+"/", strings.Repeat("é", 9)) {
		if Name(s) {
			t.Errorf("Name of %q: true", s)
		}
	}
}

// P5.1: each byte, alone and at each place of a name.
func TestBytesOfName(t *testing.T) {
	for b := range 256 {
		s := string([]byte{byte(b)})
		if want := b != 0 && b != 0x2f && b != 0x2e; Name(s) != want {
			t.Errorf("Name of the byte %x: %t", b, !want)
		}
		for at := range 16 {
			s := long(at) + s + long(15-at)
			if want := b != 0 && b != 0x2f; Name(s) != want {
				t.Errorf("Name of %q: %t", s, !want)
			}
		}
	}
}

// P5.1: all short texts.
func TestNameOfShortTexts(t *testing.T) {
	for _, s := range texts(of("\x00", "/", ":", ".", "a", "\xff"), 6) {
		if Name(s) != isName(s, false) {
			t.Errorf("Name of %q: %t", s, Name(s))
		}
	}
}

// P5.1
func TestParse(t *testing.T) {
	for p, want := range map[string][]string{
		"/":                             nil,
		"/a":                            of("a"),
		"/a/b":                          of("a", "b"),
		"/a/a":                          of("a", "a"),
		"/a/b/c/d/e/f":                  of("a", "b", "c", "d", "e", "f"),
		"/.../..a/.b":                   of("...", "..a", ".b"),
		"/:/s:/a":                       of(":", "s:", "a"),
		"/a:b":                          of("a:b"),
		"/\xff\xfe/ /\n":                of("\xff\xfe", " ", "\n"),
		"/" + long(16) + "/" + long(15): of(long(16), long(15)),
	} {
		wantParse(t, p, "", want, api.OK)
		for _, snap := range of("s", "...", " ", "\xff", "a.b", long(15), long(16)) {
			wantParse(t, snap+":"+p, snap, want, api.OK)
		}
	}
}

// P5.1: no slash at all.
func TestParseWithoutSlash(t *testing.T) {
	for _, p := range of("", "a", ".", "..", ":", "s:", "s:a", "\x00", "\\a", long(16), long(17), long(120), long(16)+":", long(17)+":") {
		wantParse(t, p, "", nil, api.ErrForm)
	}
}

// P5.1: what stands ahead of the first slash.
func TestParseOfSnapshot(t *testing.T) {
	for _, ahead := range of(
		"a", "s:t", ":s", "s: ", long(16), long(17), long(100), // no colon at the end
		"::", "s::", ":s:", "s:t:", long(16)+"::", long(17)+"::", ":"+long(17)+":", // two
		":",                            // nothing ahead of it
		".:", "..:", "\x00:", "s\x00:", // no name
		"\x00"+long(16)+":", long(16)+"\x00:", long(40)+"\x00:") {
		for _, behind := range of("", "a", "a/b", long(17), "..", "a/") {
			wantParse(t, ahead+"/"+behind, "", nil, api.ErrForm)
		}
	}
	for _, n := range []int{17, 18, 50} {
		for _, behind := range of("", "a", "a/b", long(17), "..", "a/", "/", "\x00", "a/a/a/a/a/a/a") {
			wantParse(t, long(n)+":/"+behind, "", nil, api.ErrLong)
		}
	}
}

// P5.1: nothing behind the last slash is right in the root alone.
func TestParseOfNothingBehindSlash(t *testing.T) {
	for _, ahead := range of("", "s:") {
		for _, p := range of("/a/", "//", "///", "//a", "/a//b", "/a//", "/a/b/c/d/e/f/") {
			wantParse(t, ahead+p, "", nil, api.ErrForm)
		}
	}
}

// P5.1: each wrong name at each place, and that a name of 17 bytes is too long there.
func TestParseOfWrongName(t *testing.T) {
	for at := range 6 {
		for behind := range 6 - at {
			ahead, rest := strings.Repeat("/a", at), strings.Repeat("/b", behind)
			for _, name := range of("", ".", "..", "\x00", "a\x00", long(15)+"\x00", long(16)+"\x00", long(17)+"\x00") {
				if name == "" && ahead+rest == "" {
					continue
				}
				wantParse(t, ahead+"/"+name+rest, "", nil, api.ErrForm)
			}
			for _, n := range []int{17, 18, 40} {
				wantParse(t, ahead+"/"+long(n)+rest, "", nil, api.ErrLong)
			}
			if _, l, e := Parse(ahead + "/" + long(16) + rest); e != api.OK || l[at] != long(16) {
				t.Errorf("a name of 16 bytes at %d: %q, %d", at, l, e)
			}
		}
	}
}

// P5.1: of several wrong names the first from the left is told; a name that is no name and too long, or the seventh, is told by its form.
func TestParseTellsFirstError(t *testing.T) {
	six := "/a/b/c/d/e/f"
	for p, want := range map[string]api.Errno{
		"/" + long(17) + "/..":           api.ErrLong,
		"/" + long(17) + "/":             api.ErrLong,
		"/../" + long(17):                api.ErrForm,
		"//" + long(17):                  api.ErrForm,
		six + "/g":                       api.ErrLong,
		six + "/g/h":                     api.ErrLong,
		six + "/g/..":                    api.ErrLong,
		six + "/g/":                      api.ErrLong,
		six + "/" + long(17):             api.ErrLong,
		six + "/..":                      api.ErrForm,
		six + "/../g":                    api.ErrForm,
		six + "/":                        api.ErrForm,
		six + "//g":                      api.ErrForm,
		six + "/\x00" + long(17):         api.ErrForm,
		"/a/b/c/d/e/../g":                api.ErrForm,
		"/a/b/c/d/e/" + long(17) + "/..": api.ErrLong,
	} {
		wantParse(t, p, "", nil, want)
		wantParse(t, "s:"+p, "", nil, want)
	}
}

// P5.1: 120 bytes are not too many, 121 are, whatever else is wrong.
func TestParseOfManyBytes(t *testing.T) {
	for n, want := range map[int]api.Errno{120: api.ErrForm, 121: api.ErrLong, 122: api.ErrLong, 70000: api.ErrLong} {
		for _, s := range of("/", "a", ":", ".", "\x00", "./", "s:", "s://") {
			wantParse(t, strings.Repeat(s, n)[:n], "", nil, want)
		}
	}
	names := slices.Repeat(of(long(16)), 6)
	longest := long(16) + ":/" + strings.Join(names, "/")
	wantParse(t, longest, long(16), names, api.OK)
	wantParse(t, longest+"/", "", nil, api.ErrForm)
	wantParse(t, longest+"/.", "", nil, api.ErrLong)
}

// P5.1: all short texts, and all that few greater pieces make.
func TestParseOfAllTexts(t *testing.T) {
	all := texts(of("/", ":", ".", "a", "\x00"), 7)
	all = append(all, texts(of("/", ":", "..", "b", long(15), long(16), "/a/b/c"), 6)...)
	all = append(all, texts(of("/", "s:/", "/a", "/.", long(17), "/\x00"), 7)...)
	for _, p := range all {
		snap, l, e := parsed(p)
		wantParse(t, p, snap, l, e)
	}
}

// P5.2
func TestText(t *testing.T) {
	for _, snap := range of("", "s", "...", "\xff", long(16)) {
		ahead := ""
		if snap != "" {
			ahead = snap + ":"
		}
		wantText(t, snap, nil, ahead+"/", api.OK)
		wantText(t, snap, of(), ahead+"/", api.OK)
		wantText(t, snap, of("a"), ahead+"/a", api.OK)
		wantText(t, snap, of("a", "b"), ahead+"/a/b", api.OK)
		wantText(t, snap, of(":", "s:", "a:b"), ahead+"/:/s:/a:b", api.OK)
		wantText(t, snap, of("...", long(16), "\xff"), ahead+"/.../"+long(16)+"/\xff", api.OK)
		wantText(t, snap, slices.Repeat(of(long(16)), 6), ahead+strings.Repeat("/"+long(16), 6), api.OK)
	}
}

// P5.2: a name that is too long is no name.
func TestTextOfWrongNames(t *testing.T) {
	for _, wrong := range of("", ".", "..", "/", "a/b", "/a", "a/", "\x00", "a\x00", long(17), long(200)) {
		for at := range 8 {
			for behind := range 8 - at {
				l := append(append(slices.Repeat(of("a"), at), wrong), slices.Repeat(of("b"), behind)...)
				wantText(t, "", l, "", api.ErrForm)
				wantText(t, "s", l, "", api.ErrForm)
			}
		}
		if wrong != "" {
			wantText(t, wrong, nil, "", api.ErrForm)
			wantText(t, wrong, slices.Repeat(of("a"), 7), "", api.ErrForm)
		}
	}
	for _, snap := range of(":", "s:", ":s", "s:t", "::", long(15)+":") {
		wantText(t, snap, nil, "", api.ErrForm)
		wantText(t, snap, of("a"), "", api.ErrForm)
		wantText(t, snap, slices.Repeat(of("a"), 7), "", api.ErrForm)
	}
}

// P5.2
func TestTextOfManyNames(t *testing.T) {
	for _, snap := range of("", "s", long(16)) {
		for _, n := range []int{7, 8, 100} {
			wantText(t, snap, slices.Repeat(of("a"), n), "", api.ErrLong)
			wantText(t, snap, slices.Repeat(of(long(16)), n), "", api.ErrLong)
		}
	}
}

// P5.3: names are held against each other whole, and each list is one, right path or not.
func TestWithin(t *testing.T) {
	for _, c := range []struct {
		a, b []string
		want bool
	}{
		{nil, nil, true},
		{nil, of(), true},
		{of(), nil, true},
		{nil, of("a"), true},
		{of("a"), nil, false},
		{of("a"), of("a"), true},
		{of("a"), of("b"), false},
		{of("a"), of("a", "b"), true},
		{of("a", "b"), of("a"), false},
		{of("a", "b"), of("a", "b"), true},
		{of("a", "b"), of("a", "c"), false},
		{of("a", "b"), of("c", "b"), false},
		{of("a", "b"), of("a", "c", "b"), false},
		{of("b"), of("a", "b"), false},
		{of("a"), of("ab"), false},
		{of("ab"), of("a", "b"), false},
		{of("a", "b"), of("ab"), false},
		{of("a"), of("ab", "b"), false},
		{of("a", "b"), of("a", "bc"), false},
		{of(""), nil, false},
		{of(""), of("a"), false},
		{of("a", ""), of("a"), false},
		{of(""), of("", "a"), true},
		{of("a/b"), of("a", "b"), false},
		{slices.Repeat(of("x"), 8), slices.Repeat(of("x"), 9), true},
		{slices.Repeat(of("x"), 9), slices.Repeat(of("x"), 8), false},
	} {
		if got := Within(c.a, c.b); got != c.want {
			t.Errorf("Within of %q and %q: %t", c.a, c.b, got)
		}
	}
}

// P5.3
func TestUp(t *testing.T) {
	for _, l := range [][]string{nil, of()} {
		if up, last := Up(l); len(up) != 0 || last != "" {
			t.Errorf("Up of none: %q, %q", up, last)
		}
	}
	for _, last := range of("z", "", "a/b", long(17)) {
		for n := range 9 {
			above := of("a", "b", "c", "d", "e", "f", "g", "h")[:n]
			up, got := Up(append(slices.Clone(above), last))
			if !slices.Equal(up, above) || got != last {
				t.Errorf("Up of %q and %q: %q, %q", above, last, up, got)
			}
		}
	}
}

// P5.3
func TestMove(t *testing.T) {
	wantMove(t, of("a", "b", "c"), of("a", "b"), of("x"), of("x", "c"))
	wantMove(t, of("a", "b", "c"), of("a"), of("x", "y", "z"), of("x", "y", "z", "b", "c"))
	wantMove(t, of("a", "b"), of("a", "b"), of("x"), of("x"))
	wantMove(t, of("a", "b"), of("a", "b"), nil, nil)
	wantMove(t, of("a", "b"), of("a"), nil, of("b"))
	wantMove(t, of("a", "b"), nil, of("x"), of("x", "a", "b"))
	wantMove(t, of("a", "b"), nil, nil, of("a", "b"))
	wantMove(t, nil, nil, of("x", "y"), of("x", "y"))
	wantMove(t, nil, nil, nil, nil)
	wantMove(t, of("a", "a", "a"), of("a"), of("b"), of("b", "a", "a"))
	wantMove(t, slices.Repeat(of("a"), 7), of("a"), slices.Repeat(of("x"), 7), append(slices.Repeat(of("x"), 7), slices.Repeat(of("a"), 6)...))
}

// P5.3: what is not within from stays where it is.
func TestMoveOfWhatIsNotWithin(t *testing.T) {
	for _, l := range [][]string{nil, of("a"), of("b", "a"), of("ab"), of("a", "bc"), of("a", "c", "b"), of("x"), of("A", "b")} {
		for _, to := range [][]string{nil, of("x"), of("x", "y", "z")} {
			wantMove(t, l, of("a", "b"), to, l)
		}
	}
}

// filled is l with names behind it in its memory, so that what is written there can be told.
func filled(l []string) (room, cut []string) {
	room = append(slices.Clone(l), "behind", "behind", "behind", "behind")
	return room, room[:len(l)]
}

// P5.3: what is written into an answer, and behind it, is not in what was handed in; nor the other way round.
func TestAnswersAreNewMemory(t *testing.T) {
	lists := [][]string{nil, of("a"), of("a", "b"), of("a", "b", "c"), of("x"), of("x", "y")}
	for _, l := range lists {
		room, cut := filled(l)
		up, _ := Up(cut)
		wantApart(t, up, room)
		for _, from := range lists {
			for _, to := range lists {
				room, cut := filled(l)
				fromRoom, fromCut := filled(from)
				toRoom, toCut := filled(to)
				wantApart(t, Move(cut, fromCut, toCut), room, fromRoom, toRoom)
			}
		}
	}
}

func wantApart(t *testing.T, got []string, rooms ...[]string) {
	t.Helper()
	var were [][]string
	for _, room := range rooms {
		were = append(were, slices.Clone(room))
	}
	told := slices.Clone(got)
	all := append(got, "new", "new")[:cap(append(got, "new", "new"))]
	for _, list := range [][]string{got, got[:cap(got)], all} {
		for i := range list {
			list[i] = "written"
		}
	}
	for i, room := range rooms {
		if !slices.Equal(room, were[i]) {
			t.Errorf("what is written into %q is in what was handed in: %q", told, room)
		}
		for j := range room {
			room[j] = "changed"
		}
	}
	if slices.Contains(got, "changed") {
		t.Errorf("what was handed in is in the answer %q", told)
	}
}

// No list is changed by a call, nor kept.
func TestListsStay(t *testing.T) {
	room, l := filled(of("a", "b", "c"))
	was := slices.Clone(room)
	Text("s", l)
	Within(l, l)
	Up(l)
	Move(l, l[:1], l)
	Move(l, l, l[:2])
	if !slices.Equal(room, was) {
		t.Errorf("%q became %q", was, room)
	}
	_, first, _ := Parse("/a/b")
	_, second, _ := Parse("/a/b")
	first[0] = "x"
	if second[0] != "a" {
		t.Errorf("two answers of Parse share memory: %q", second)
	}
}

func chosenName(r *rand.Rand) string {
	for {
		b := make([]byte, 1+r.Intn(16))
		for i := range b {
			b[i] = "ab.:\x01\xff~ "[r.Intn(8)]
		}
		if s := string(b); isName(s, false) {
			return s
		}
	}
}

func chosenPath(r *rand.Rand) (snap string, l []string) {
	if r.Intn(2) == 1 {
		snap = strings.ReplaceAll(chosenName(r), ":", "s")
		if !isName(snap, false) {
			snap = "s"
		}
	}
	for range r.Intn(7) {
		l = append(l, chosenName(r))
	}
	return snap, l
}

// P5.4: Parse of a Text, whatever the names.
func TestParseOfText(t *testing.T) {
	r := rand.New(rand.NewSource(4))
	for range 20000 {
		snap, l := chosenPath(r)
		text, e := Text(snap, l)
		if e != api.OK {
			t.Errorf("Text of %q, %q: %d", snap, l, e)
			continue
		}
		wantParse(t, text, snap, l, api.OK)
	}
}

// P5.4: Text of what Parse tells.
func TestTextOfParsed(t *testing.T) {
	told := 0
	for _, p := range texts(of("/", "a", "s:", ".", "b/", long(16)), 7) {
		snap, l, e := Parse(p)
		if e != api.OK {
			continue
		}
		told++
		wantText(t, snap, l, p, api.OK)
	}
	if told < 1000 {
		t.Errorf("only %d of the texts were told", told)
	}
}

// P5.4: a path is within itself, and within each one above it, and not the other way round.
func TestWithinWhatIsAbove(t *testing.T) {
	r := rand.New(rand.NewSource(5))
	for range 2000 {
		_, l := chosenPath(r)
		above := l
		for {
			if !Within(above, l) {
				t.Errorf("%q is not within %q", l, above)
			}
			if len(above) < len(l) && Within(l, above) {
				t.Errorf("%q is within %q", above, l)
			}
			if len(above) == 0 {
				break
			}
			above, _ = Up(above)
		}
	}
}

// P5.5
func TestMoveBack(t *testing.T) {
	r := rand.New(rand.NewSource(6))
	for range 20000 {
		_, from := chosenPath(r)
		_, to := chosenPath(r)
		_, behind := chosenPath(r)
		l := append(slices.Clone(from), behind...)
		moved := Move(l, from, to)
		if !Within(to, moved) || !slices.Equal(moved[len(to):], behind) {
			t.Errorf("Move of %q from %q to %q: %q", l, from, to, moved)
		}
		wantMove(t, moved, to, from, l)
	}
}

func TestExamples(t *testing.T) {
	wantParse(t, "/", "", nil, api.OK)
	wantParse(t, "/a/b", "", of("a", "b"), api.OK)
	wantParse(t, "s:/a", "s", of("a"), api.OK)
	wantParse(t, "s:/", "s", nil, api.OK)

	for _, p := range of("", "a", "a/b", "/a/", "//", "/a/../b", ":/a", "s:t:/a") {
		wantParse(t, p, "", nil, api.ErrForm)
	}
	for _, p := range of("/12345678901234567", "/a/a/a/a/a/a/a", strings.Repeat("/", 121)) {
		wantParse(t, p, "", nil, api.ErrLong)
	}
	wantParse(t, "/a:b", "", of("a:b"), api.OK)
	wantParse(t, "/a//12345678901234567", "", nil, api.ErrForm)
	wantParse(t, "s/:/a", "", nil, api.ErrForm)

	wantText(t, "s", of("a", "b"), "s:/a/b", api.OK)
	wantText(t, "", nil, "/", api.OK)
	wantText(t, "s:", nil, "", api.ErrForm)
	wantText(t, "", of("a", "b", "c", "d", "e", "f", "g"), "", api.ErrLong)

	if !Within(of("a"), of("a", "b")) || Within(of("a", "b"), of("a")) || !Within(nil, of("a")) {
		t.Error("Within")
	}
	if up, last := Up(of("a", "b")); !slices.Equal(up, of("a")) || last != "b" {
		t.Errorf("Up of a b: %q, %q", up, last)
	}
	wantMove(t, of("a", "b", "c"), of("a", "b"), of("x"), of("x", "c"))
}
