package key

import (
	"math"
	"math/rand"
	"slices"
	"strings"
	"testing"

	"rillbed/api"
)

// isRight is how the chapter's words say which paths are right.
func isRight(l []string) bool {
	if len(l) > 6 {
		return false
	}
	for _, name := range l {
		if len(name) < 1 || len(name) > 16 || name == "\x2e" || name == "\x2e\x2e" {
			return false
		}
		for i := range len(name) {
			if name[i] == 0 || name[i] == 0x2f {
				return false
			}
		}
	}
	return true
}

// jointOf is how the chapter's words say what a path's joint is.
func jointOf(l []string) string {
	var b []byte
	for i, name := range l {
		if i > 0 {
			b = append(b, 0)
		}
		b = append(b, name...)
	}
	return string(b)
}

// isWithin is how the chapter's words say that p lies within l.
func isWithin(p, l []string) bool {
	if len(p) < len(l) {
		return false
	}
	for i := range l {
		if p[i] != l[i] {
			return false
		}
	}
	return true
}

// moved is how the chapter's words say what Move answers.
func moved(k string, from, to []string) string {
	if !isRight(from) || !isRight(to) || len(from) == 0 || len(to) == 0 {
		return k
	}
	if len(k) == 0 || k[0] != 'm' && k[0] != 'd' {
		return k
	}
	n := len(jointOf(from))
	if len(k) < 1+n || k[1:1+n] != jointOf(from) || len(k) > 1+n && k[1+n] != 0 {
		return k
	}
	return k[:1] + jointOf(to) + k[1+n:]
}

// told is how the chapter's words say what Take answers.
func told(k string) (byte, []string, int, api.Errno) {
	if k == "m" {
		return 'm', nil, 0, api.OK
	}
	if strings.HasPrefix(k, "m") {
		if l := strings.Split(k[1:], "\x00"); isRight(l) {
			return 'm', l, 0, api.OK
		}
	}
	if n := len(k) - 4; n > 1 && k[0] == 'd' && k[n] == 0 && k[n+1] == 0 {
		i := int(k[n+2])*256 + int(k[n+3])
		if l := strings.Split(k[1:n], "\x00"); isRight(l) && i <= 31 {
			return 'd', l, i, api.OK
		}
	}
	return 0, nil, 0, api.ErrForm
}

// texts are all texts of at most n of the pieces, one behind the other.
func texts(pieces []string, n int) []string {
	out := []string{""}
	for from := 0; n > 0; n-- {
		to := len(out)
		for _, s := range out[from:to] {
			for _, p := range pieces {
				out = append(out, s+p)
			}
		}
		from = to
	}
	return out
}

// lists are all lists of at most n of the names.
func lists(names []string, n int) [][]string {
	out := [][]string{nil}
	for from := 0; n > 0; n-- {
		to := len(out)
		for _, l := range out[from:to] {
			for _, name := range names {
				out = append(out, append(slices.Clone(l), name))
			}
		}
		from = to
	}
	return out
}

func of(names ...string) []string { return names }

// long is a name of n bytes, but for its length if that is above 16.
func long(n int) string { return strings.Repeat("n", n) }

// rightPaths have names of which one is the beginning of another, and names with the bytes next to those that keys are made with.
func rightPaths() [][]string {
	out := lists(of("a", "ab", "a\x01", "\x01", "b", "\xff"), 3)
	return append(out,
		of("..."), of(".a"), of("m"), of("d"), of("n"), of("e"), of("m", "d"), of(":"), of("a\x02"), of("\x1f"), of(" "),
		of(long(15)), of(long(16)), of(long(16), "a"), of(long(15), "n"), of("n", long(15)),
		of("a", "b", "c", "d", "e"), of("a", "b", "c", "d", "e", "f"), of("a", "a", "a", "a", "a", "a"), of("a", "a", "a", "a", "a", "ab"),
		slices.Repeat(of(long(16)), 6), slices.Repeat(of("\xff"), 6), slices.Repeat(of("\x01"), 6))
}

// wrongPaths have a wrong name at each place of a list, or seven names and more.
func wrongPaths() [][]string {
	out := [][]string{slices.Repeat(of("a"), 7), slices.Repeat(of("a"), 8), slices.Repeat(of(long(16)), 7), slices.Repeat(of(""), 7), slices.Repeat(of("a"), 1000)}
	for _, wrong := range of("", ".", "..", "/", "a/", "/a", "a/b", "\x00", "a\x00", "\x00a", "a\x00b", long(17), long(15)+"\x00", long(300)) {
		for at := range 6 {
			for behind := range 6 - at {
				out = append(out, append(append(slices.Repeat(of("a"), at), wrong), slices.Repeat(of("b"), behind)...))
			}
		}
	}
	return out
}

func numbers() []int {
	out := []int{math.MinInt, math.MinInt64 + 1, -65536, -256, -32, -2, -1, 32, 33, 63, 64, 255, 256, 257, 258, 287, 65535, 65536, 65537, 1 << 32, math.MaxInt}
	for i := range 32 {
		out = append(out, i)
	}
	return out
}

func in(k string, r Range) bool { return r.From <= k && k < r.To }

func wantText(t *testing.T, what string, l []string, got, want string) {
	t.Helper()
	if got != want {
		t.Errorf("%s of %q: %q, not %q", what, l, got, want)
	}
}

func wantRange(t *testing.T, what string, l []string, got Range, from, to string) {
	t.Helper()
	if got != (Range{From: from, To: to}) {
		t.Errorf("%s of %q: %q to %q, not %q to %q", what, l, got.From, got.To, from, to)
	}
}

func wantMove(t *testing.T, k string, from, to []string, want string) {
	t.Helper()
	if got := Move(k, from, to); got != want {
		t.Errorf("Move of %q from %q to %q: %q, not %q", k, from, to, got, want)
	}
}

func wantTake(t *testing.T, k string, kind byte, l []string, i int, want api.Errno) {
	t.Helper()
	gotKind, got, gotI, e := Take(k)
	if gotKind != kind || !slices.Equal(got, l) || gotI != i || e != want {
		t.Errorf("Take of %.120q: %q, %q, %d, %d; not %q, %q, %d, %d", k, gotKind, got, gotI, e, kind, l, i, want)
	}
	if e != api.OK && got != nil {
		t.Errorf("Take of %.120q: a list beside an error: %q", k, got)
	}
}

func wantAsTold(t *testing.T, k string) {
	t.Helper()
	kind, l, i, e := told(k)
	wantTake(t, k, kind, l, i, e)
}

// P6.1
func TestMeta(t *testing.T) {
	wantText(t, "Meta", nil, Meta(nil), "m")
	wantText(t, "Meta", of(), Meta(of()), "m")
	for _, l := range rightPaths() {
		wantText(t, "Meta", l, Meta(l), "m"+jointOf(l))
	}
	for _, l := range wrongPaths() {
		wantText(t, "Meta", l, Meta(l), "")
	}
}

// P6.1: of the numbers only 0 to 31, and of the root none, have a key.
func TestBlock(t *testing.T) {
	for _, i := range numbers() {
		for _, l := range rightPaths() {
			want := ""
			if len(l) > 0 && i >= 0 && i <= 31 {
				want = "d" + jointOf(l) + string([]byte{0, 0, 0, byte(i)})
			}
			if got := Block(l, i); got != want {
				t.Errorf("Block of %q, %d: %q, not %q", l, i, got, want)
			}
		}
		for _, l := range wrongPaths() {
			wantText(t, "Block", l, Block(l, i), "")
		}
		wantText(t, "Block", of(), Block(of(), i), "")
	}
}

// P6.1
func TestPast(t *testing.T) {
	wantText(t, "Past", nil, Past(nil), "n")
	wantText(t, "Past", of(), Past(of()), "n")
	for _, l := range rightPaths()[1:] {
		wantText(t, "Past", l, Past(l), "m"+jointOf(l)+"\x01")
	}
	for _, l := range wrongPaths() {
		wantText(t, "Past", l, Past(l), "")
	}
}

// P6.2
func TestRanges(t *testing.T) {
	for _, l := range rightPaths()[1:] {
		j := jointOf(l)
		meta, blocks := Subtree(l)
		wantRange(t, "Subtree, of metadata,", l, meta, "m"+j, "m"+j+"\x01")
		wantRange(t, "Subtree, of blocks,", l, blocks, "d"+j, "d"+j+"\x01")
		wantRange(t, "Below", l, Below(l), "m"+j+"\x00", "m"+j+"\x01")
		wantRange(t, "Blocks", l, Blocks(l), "d"+j+"\x00\x00", "d"+j+"\x00\x01")
	}
}

// P6.2: the root's ranges; the one of its blocks is as the words say, and has none.
func TestRangesOfRoot(t *testing.T) {
	for _, l := range [][]string{nil, of()} {
		meta, blocks := Subtree(l)
		wantRange(t, "Subtree, of metadata,", l, meta, "m", "n")
		wantRange(t, "Subtree, of blocks,", l, blocks, "d", "e")
		wantRange(t, "Below", l, Below(l), "m\x00", "n")
		wantRange(t, "Blocks", l, Blocks(l), "d\x00\x00", "d\x00\x01")
	}
}

// P6.2
func TestRangesOfWrongPaths(t *testing.T) {
	for _, l := range wrongPaths() {
		meta, blocks := Subtree(l)
		wantRange(t, "Subtree, of metadata,", l, meta, "", "")
		wantRange(t, "Subtree, of blocks,", l, blocks, "", "")
		wantRange(t, "Below", l, Below(l), "", "")
		wantRange(t, "Blocks", l, Blocks(l), "", "")
	}
}

// P6.3
func TestMove(t *testing.T) {
	a, ab, c, cd := of("a"), of("a", "b"), of("c"), of("c", "d")
	number := "\x00\x00\x00\x01"
	wantMove(t, "ma", a, c, "mc")
	wantMove(t, "ma", a, cd, "mc\x00d")
	wantMove(t, "ma\x00b", a, c, "mc\x00b")
	wantMove(t, "ma\x00b", ab, c, "mc")
	wantMove(t, "ma\x00b\x00x", ab, c, "mc\x00x")
	wantMove(t, "da"+number, a, cd, "dc\x00d"+number)
	wantMove(t, "da\x00b"+number, a, c, "dc\x00b"+number)
	wantMove(t, "ma\x00a", a, c, "mc\x00a")
	wantMove(t, "ma", a, of("a", "a"), "ma\x00a")
	wantMove(t, "ma\x00b", ab, a, "ma")
	wantMove(t, "ma\x00b", a, a, "ma\x00b")
	wantMove(t, "ma\x00b\x00c\x00d\x00e\x00f", a, cd, "mc\x00d\x00b\x00c\x00d\x00e\x00f")
	six := slices.Repeat(of(long(16)), 6)
	wantMove(t, "m"+jointOf(six)+"\x00z", six, a, "ma\x00z")
	wantMove(t, "ma\x00z", a, six, "m"+jointOf(six)+"\x00z")
}

// P6.3: a text need not be a key to be moved, if it begins as one.
func TestMoveOfWhatIsNoKey(t *testing.T) {
	a, c := of("a"), of("c")
	for _, head := range of("m", "d") {
		for _, behind := range of("", "\x00", "\x00\x00", "\x00/", "\x00\x00b", "\x00\x01", "\x00"+long(40), "\x00\x00\x00\x00\x00\x00", "\x00a\x00a\x00a\x00a\x00a\x00a\x00a") {
			wantMove(t, head+"a"+behind, a, c, head+"c"+behind)
		}
	}
}

// P6.3: what stays.
func TestMoveOfWhatStays(t *testing.T) {
	a, ab, c := of("a"), of("a", "b"), of("c")
	for _, k := range of("", "m", "d", "mab", "mab\x00c", "dab\x00\x00\x00\x01", "ma\x01", "ma/b", "mb", "mb\x00a", "m\x00a", "mma", "a", "a\x00b", "na", "na\x00b", "ea\x00\x00\x00\x00", "xa", "\x00a", "Ma", "la", "ca", "\xeda") {
		wantMove(t, k, a, c, k)
	}
	for _, k := range of("ma", "ma\x00", "ma\x00bc", "mab", "ma\x00\x00b", "ma\x00c\x00b", "mb", "da\x00\x00\x00\x01", "da\x00bc\x00\x00\x00\x01") {
		wantMove(t, k, ab, c, k)
	}
}

// P6.3: from or to is the root, or is not right; even if k begins with what would be its joint.
func TestMoveOfRootAndWrongPaths(t *testing.T) {
	a := of("a")
	keys := of("m", "ma", "ma\x00b", "da\x00\x00\x00\x01", "d\x00\x00\x00\x01", "m\x00a", "")
	for _, k := range keys {
		for _, root := range [][]string{nil, of()} {
			wantMove(t, k, root, a, k)
			wantMove(t, k, a, root, k)
			wantMove(t, k, root, root, k)
		}
	}
	for _, wrong := range wrongPaths() {
		for _, k := range append(keys, "m"+jointOf(wrong), "m"+jointOf(wrong)+"\x00b", "d"+jointOf(wrong)+"\x00\x00\x00\x01") {
			wantMove(t, k, wrong, a, k)
			wantMove(t, k, a, wrong, k)
			wantMove(t, k, wrong, wrong, k)
			wantMove(t, k, nil, wrong, k)
		}
	}
}

// P6.3: all short texts.
func TestMoveOfAllTexts(t *testing.T) {
	paths := [][]string{nil, of("a"), of("ab"), of("b"), of("a", "b"), of("b", "a"), of("a", "a"), of("m"), of("d", "m"), of(""), of("a", ""), of("a\x00b")}
	for _, k := range texts(of("m", "d", "a", "b", "\x00", "n"), 5) {
		for _, from := range paths {
			for _, to := range paths {
				if got, want := Move(k, from, to), moved(k, from, to); got != want {
					t.Errorf("Move of %q from %q to %q: %q, not %q", k, from, to, got, want)
				}
			}
		}
	}
}

// P6.4: each kind of key.
func TestTakeOfKeys(t *testing.T) {
	wantTake(t, "m", 'm', nil, 0, api.OK)
	for _, l := range rightPaths() {
		wantTake(t, "m"+jointOf(l), 'm', l, 0, api.OK)
		for i := range 32 {
			k := "d" + jointOf(l) + string([]byte{0, 0, 0, byte(i)})
			if len(l) > 0 {
				wantTake(t, k, 'd', l, i, api.OK)
			} else {
				wantTake(t, k, 0, nil, 0, api.ErrForm)
			}
		}
	}
}

// P6.4: what would be the keys of paths that are not right. (A name with a byte 0 in its midst has there the look of two, an empty one alone that of the root.)
func TestTakeOfWrongPaths(t *testing.T) {
	for _, l := range wrongPaths() {
		for _, k := range of("m"+jointOf(l), "d"+jointOf(l)+"\x00\x00\x00\x00", "d"+jointOf(l)+"\x00\x00\x00\x1f") {
			wantAsTold(t, k)
		}
	}
	for _, joint := range of("\x00", "\x00a", "a\x00", "a\x00\x00b", ".", "..", "a\x00.", "..\x00a", "/", "a/b", "a\x00b/", long(17), "a\x00"+long(17), "a\x00a\x00a\x00a\x00a\x00a\x00a") {
		wantTake(t, "m"+joint, 0, nil, 0, api.ErrForm)
		wantTake(t, "d"+joint+"\x00\x00\x00\x01", 0, nil, 0, api.ErrForm)
	}
}

// P6.4: numbers above 31, and each of the two bytes.
func TestTakeOfNumbers(t *testing.T) {
	for n := range 65536 {
		k := "da\x00b\x00\x00" + string([]byte{byte(n >> 8), byte(n)})
		if n <= 31 {
			wantTake(t, k, 'd', of("a", "b"), n, api.OK)
		} else {
			wantTake(t, k, 0, nil, 0, api.ErrForm)
		}
	}
}

// P6.4: keys that lack a byte, have one more, or have another one, at each place.
func TestTakeOfSpoiltKeys(t *testing.T) {
	keys := of("m", "ma", "ma\x00b", "mab\x00c\x00d", "m"+jointOf(slices.Repeat(of("a"), 6)), "m"+long(16), "m"+long(16)+"\x00"+long(16))
	for _, l := range [][]string{of("a"), of("a", "b"), of("ab", "c"), of(long(16)), slices.Repeat(of("a"), 6), slices.Repeat(of(long(16)), 6)} {
		for _, i := range []byte{0, 1, 2, 30, 31} {
			keys = append(keys, "d"+jointOf(l)+string([]byte{0, 0, 0, i}))
		}
	}
	others := of("", "\x00", "\x01", "\x1f", "\x20", "/", ".", "a", "m", "d", "n", "e", "\xff", "\x00\x00")
	for _, k := range keys {
		wantAsTold(t, k)
		for at := range len(k) {
			for _, other := range others {
				wantAsTold(t, k[:at]+other+k[at:])
				wantAsTold(t, k[:at]+other+k[at+1:])
			}
		}
		for _, other := range others {
			wantAsTold(t, k+other)
		}
	}
}

// P6.4: a byte less, or more, at the end of a block's key is never a key.
func TestTakeOfEndsOfBlockKeys(t *testing.T) {
	for i := range 32 {
		k := "da\x00b\x00\x00\x00" + string([]byte{byte(i)})
		for n := 1; n <= 4; n++ {
			wantTake(t, k[:len(k)-n], 0, nil, 0, api.ErrForm)
		}
		for b := range 256 {
			wantTake(t, k+string([]byte{byte(b)}), 0, nil, 0, api.ErrForm)
		}
	}
}

// P6.4: each byte, alone and as a key's first one.
func TestTakeOfFirstBytes(t *testing.T) {
	for b := range 256 {
		first := string([]byte{byte(b)})
		for _, behind := range of("", "a", "a\x00b", "a\x00\x00\x00\x01", "\x00\x00\x00\x01") {
			wantAsTold(t, first+behind)
		}
	}
}

// P6.4: all short texts, and all that few greater pieces make.
func TestTakeOfAllTexts(t *testing.T) {
	all := texts(of("m", "d", "a", "\x00", "\x01", ".", "/"), 6)
	all = append(all, texts(of("ma", "da", "\x00b", "\x00\x00", "\x00\x1f", "\x00\x20", "\x00", long(16)), 5)...)
	all = append(all, texts(of("d\x00", "da", "a\x00", "\x00\x00\x00", "\x00\x00", "\x00a\x00b\x00c", "m"), 5)...)
	taken := 0
	for _, k := range all {
		wantAsTold(t, k)
		if _, _, _, e := Take(k); e == api.OK {
			taken++
		}
	}
	if taken < 1000 {
		t.Errorf("only %d of the texts were keys", taken)
	}
}

// P6.4, P6.7: keys far longer than any that is right.
func TestTakeOfLongKeys(t *testing.T) {
	for _, piece := range of("a", "\x00", "a\x00", "\x00a", "ab\x00", "m", "d", "da\x00\x00\x00\x01", "\xff") {
		behind := strings.Repeat(piece, 100000)
		for _, first := range of("m", "d", "", "x") {
			wantTake(t, first+behind, 0, nil, 0, api.ErrForm)
			wantTake(t, first+behind+"\x00\x00\x00\x01", 0, nil, 0, api.ErrForm)
		}
	}
}

// P6.5: no two things have one key, and Take tells which it is.
func TestUnlikeKeys(t *testing.T) {
	type thing struct {
		kind  byte
		joint string
		i     int
	}
	owners := map[string]thing{}
	own := func(k string, l []string, by thing) {
		if was, there := owners[k]; there {
			t.Errorf("%q is the key of %v and of %v", k, was, by)
		}
		owners[k] = by
		wantTake(t, k, by.kind, l, by.i, api.OK)
	}
	for _, l := range rightPaths() {
		own(Meta(l), l, thing{'m', jointOf(l), 0})
		for i := range 32 {
			if len(l) > 0 {
				own(Block(l, i), l, thing{'d', jointOf(l), i})
			}
		}
	}
}

// P6.5: each path is held against the ranges of each other one.
func TestWhoStandsInRanges(t *testing.T) {
	paths := rightPaths()
	for _, l := range paths {
		meta, blocks := Subtree(l)
		below, own := Below(l), Blocks(l)
		for _, p := range paths {
			within := isWithin(p, l)
			same := within && len(p) == len(l)
			k := Meta(p)
			if in(k, meta) != within || in(k, below) != (within && !same) || in(k, blocks) || in(k, own) {
				t.Errorf("the metadata of %q in the ranges of %q", p, l)
			}
			if len(p) == 0 {
				continue
			}
			for _, i := range []int{0, 1, 30, 31} {
				k := Block(p, i)
				if in(k, blocks) != within || in(k, own) != same || in(k, meta) || in(k, below) {
					t.Errorf("block %d of %q in the ranges of %q", i, p, l)
				}
			}
		}
	}
}

// P6.5: a path's blocks rise.
func TestBlocksRise(t *testing.T) {
	for _, l := range rightPaths()[1:] {
		for i := range 31 {
			if !(Block(l, i) < Block(l, i+1)) {
				t.Errorf("the blocks %d and %d of %q do not rise", i, i+1, l)
			}
		}
		for i := range 32 {
			if !in(Block(l, i), Blocks(l)) {
				t.Errorf("block %d of %q is not in the range", i, l)
			}
		}
	}
}

// P6.5, P6.6: of all texts, not only of those that were made as keys, just those of what is within a path stand in its ranges.
func TestOnlyKeysOfWhatIsWithin(t *testing.T) {
	all := texts(of("m", "d", "a", "b", "\x00", "\x01"), 6)
	for _, l := range [][]string{nil, of("a"), of("b"), of("a", "b"), of("a\x01"), of("\x01"), of("ab"), of("a", "a", "a")} {
		meta, blocks := Subtree(l)
		below, own := Below(l), Blocks(l)
		for _, k := range all {
			kind, p, _, e := Take(k)
			if e != api.OK {
				continue
			}
			within := isWithin(p, l)
			if got := Meta(l) <= k && k < Past(l); got != (kind == 'm' && within) {
				t.Errorf("%q, between Meta and Past of %q: %t", k, l, got)
			}
			if in(k, meta) != (kind == 'm' && within) || in(k, below) != (kind == 'm' && within && len(p) > len(l)) {
				t.Errorf("%q, in the ranges of the metadata of %q", k, l)
			}
			if in(k, blocks) != (kind == 'd' && within) || in(k, own) != (kind == 'd' && within && len(p) == len(l)) {
				t.Errorf("%q, in the ranges of the blocks of %q", k, l)
			}
		}
	}
}

// keysWithin are the keys of the paths that end with each of the behinds below from, in order.
func keysWithin(from []string, behinds [][]string) []string {
	var out []string
	for _, behind := range behinds {
		l := append(slices.Clone(from), behind...)
		if !isRight(l) {
			continue
		}
		out = append(out, Meta(l))
		for _, i := range []int{0, 1, 31} {
			out = append(out, Block(l, i))
		}
	}
	slices.Sort(out)
	return out
}

// P6.6: what is moved keeps its order, is the key of the path with to's names in the place of from's, and comes back.
func TestMoveKeepsOrderAndComesBack(t *testing.T) {
	behinds := lists(of("a", "ab", "\x01", "\xff"), 2)
	paths := [][]string{of("a"), of("ab"), of("b"), of("a", "b"), of("a\x01"), of("\x01"), of("\xff", "a"), of(long(16)), slices.Repeat(of(long(16)), 4), of("c", "d", "e", "f")}
	for _, from := range paths {
		keys := keysWithin(from, behinds)
		for _, to := range paths {
			apart := !isWithin(from, to) && !isWithin(to, from)
			last := ""
			for _, k := range keys {
				got := Move(k, from, to)
				if got <= last {
					t.Errorf("from %q to %q: %q came to stand at %q, behind %q", from, to, k, got, last)
				}
				last = got
				kind, l, i, _ := Take(k)
				wantTake(t, got, kind, append(slices.Clone(to), l[len(from):]...), i, api.OK)
				if apart {
					wantMove(t, got, to, from, k)
				}
			}
		}
	}
}

// chosenName is now and then one that is not right.
func chosenName(r *rand.Rand) string {
	b := make([]byte, r.Intn(18))
	for i := range b {
		b[i] = "aaabbbb.\x01\xff"[r.Intn(10)]
	}
	if len(b) > 0 && r.Intn(20) == 0 {
		b[r.Intn(len(b))] = "\x00/."[r.Intn(3)]
	}
	return string(b)
}

func chosenList(r *rand.Rand) (l []string) {
	for range r.Intn(8) {
		l = append(l, chosenName(r))
	}
	return l
}

func chosenText(r *rand.Rand) string {
	b := make([]byte, r.Intn(20))
	for i := range b {
		b[i] = "mda\x00\x00\x00\x01\x1f\x20/"[r.Intn(10)]
	}
	return string(b)
}

// P6.7: no call panics, whatever it is given, and all answer as the words say.
func TestChosenArguments(t *testing.T) {
	r := rand.New(rand.NewSource(6))
	ints := numbers()
	for range 50000 {
		l, to, k := chosenList(r), chosenList(r), chosenText(r)
		if r.Intn(2) == 0 {
			k = "md"[r.Intn(2):][:1] + jointOf(l) + k
		}
		Subtree(l)
		Below(l)
		Blocks(l)
		Past(l)
		i := ints[r.Intn(len(ints))]
		if got := Block(l, i); got != "" {
			wantTake(t, got, 'd', l, i, api.OK)
		}
		if isRight(l) {
			wantTake(t, Meta(l), 'm', l, 0, api.OK)
		}
		wantAsTold(t, k)
		wantMove(t, k, l, to, moved(k, l, to))
	}
}

// filled is l with names behind it in its memory, so that what is written there can be told.
func filled(l []string) (room, cut []string) {
	room = append(slices.Clone(l), "behind", "behind", "behind", "behind")
	return room, room[:len(l)]
}

// P6.7: no list is changed by a call.
func TestListsStay(t *testing.T) {
	for _, l := range append(rightPaths(), wrongPaths()...) {
		room, cut := filled(l)
		otherRoom, other := filled(of("x", "y"))
		was, otherWas := slices.Clone(room), slices.Clone(otherRoom)
		Meta(cut)
		Block(cut, 1)
		Subtree(cut)
		Below(cut)
		Blocks(cut)
		Past(cut)
		Move("m"+jointOf(l), cut, other)
		Move("mx\x00y\x00z", other, cut)
		if !slices.Equal(room, was) || !slices.Equal(otherRoom, otherWas) {
			t.Errorf("%q became %q, %q became %q", was, room, otherWas, otherRoom)
		}
	}
}

// P6.7: what is done with a list behind a call makes no difference to answers.
func TestListsAreNotKept(t *testing.T) {
	l := of("a", "b")
	meta, block := Meta(l), Block(l, 1)
	subtree, blocks := Subtree(l)
	below, own, past := Below(l), Blocks(l), Past(l)
	l[0], l[1] = "x", "y"
	wantText(t, "Meta", l, meta, "ma\x00b")
	wantText(t, "Block", l, block, "da\x00b\x00\x00\x00\x01")
	wantText(t, "Past", l, past, "ma\x00b\x01")
	wantRange(t, "Subtree, of metadata,", l, subtree, "ma\x00b", "ma\x00b\x01")
	wantRange(t, "Subtree, of blocks,", l, blocks, "da\x00b", "da\x00b\x01")
	wantRange(t, "Below", l, below, "ma\x00b\x00", "ma\x00b\x01")
	wantRange(t, "Blocks", l, own, "da\x00b\x00\x00", "da\x00b\x00\x01")
	wantText(t, "Meta", l, Meta(l), "mx\x00y")
}

// P6.7: two answers of Take share no memory, and what is written into one is in no later one.
func TestTakenListsAreNew(t *testing.T) {
	for _, k := range of("ma\x00b", "da\x00b\x00\x00\x00\x01") {
		_, first, _, _ := Take(k)
		_, second, _, _ := Take(k)
		all := append(first, "new")
		for i := range all {
			all[i] = "written"
		}
		for i := range first {
			first[i] = "written"
		}
		_, third, _, _ := Take(k)
		if !slices.Equal(second, of("a", "b")) || !slices.Equal(third, of("a", "b")) {
			t.Errorf("Take of %q: %q, then %q", k, second, third)
		}
	}
}

func TestExamples(t *testing.T) {
	a, ab := of("a"), of("a", "b")
	wantText(t, "Meta", nil, Meta(nil), "m")
	wantText(t, "Meta", a, Meta(a), "ma")
	wantText(t, "Meta", ab, Meta(ab), "ma\x00b")

	wantText(t, "Block 258", ab, Block(ab, 258), "")
	wantText(t, "Block 1", a, Block(a, 1), "d\x61\x00\x00\x00\x01")
	wantText(t, "Block 0", nil, Block(nil, 0), "")

	meta, blocks := Subtree(a)
	wantRange(t, "Subtree, of metadata,", a, meta, "ma", "ma\x01")
	wantRange(t, "Subtree, of blocks,", a, blocks, "da", "da\x01")
	meta, blocks = Subtree(nil)
	wantRange(t, "Subtree, of metadata,", nil, meta, "m", "n")
	wantRange(t, "Subtree, of blocks,", nil, blocks, "d", "e")
	wantRange(t, "Below", a, Below(a), "ma\x00", "ma\x01")
	wantRange(t, "Below", nil, Below(nil), "m\x00", "n")
	wantRange(t, "Blocks", a, Blocks(a), "da\x00\x00", "da\x00\x01")

	wantMove(t, "ma\x00b", a, of("c", "d"), "mc\x00d\x00b")
	wantMove(t, "mab", a, of("c", "d"), "mab")
	wantMove(t, "da\x00\x00\x00\x01", a, of("c", "d"), "dc\x00d\x00\x00\x00\x01")

	wantTake(t, "ma\x00b", 'm', ab, 0, api.OK)
	wantTake(t, "m", 'm', nil, 0, api.OK)
	wantTake(t, "da\x00\x00\x00\x01", 'd', a, 1, api.OK)
	for _, k := range of("ma\x00\x00b", "da", "x") {
		wantTake(t, k, 0, nil, 0, api.ErrForm)
	}
}
