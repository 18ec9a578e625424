package message

import (
	"fmt"
	"math"
	"math/rand"
	"strings"
	"testing"

	"rillbed/api"
	"rillbed/block"
	"rillbed/meta"
)

func noughts(n int) string { return strings.Repeat("\x00", n) }

// letters are n bytes of which no two neighbours are alike, and none is 0.
func letters(n int) string {
	b := make([]byte, n)
	for i := range b {
		b[i] = byte('a' + i%26)
	}
	return string(b)
}

// long is a key of n bytes that begins with a byte.
func long(first string, n int) string { return first + letters(n-1) }

func put(key, v string) api.Msg { return api.Msg{Op: 1, Key: key, Value: v} }

func drop(key string) api.Msg { return api.Msg{Op: 2, Key: key} }

func cleared(key, to string) api.Msg { return api.Msg{Op: 3, Key: key, To: to} }

func patch(key, p string) api.Msg { return api.Msg{Op: 4, Key: key, Value: p} }

// Texts of metas, of changes and of patches, written out.
const (
	fileOf5   = "\x01\x00\x00\x00\x05\x00\x00\x00\x00\x00\x00\x00\x00\x00\x00\x00\x00\x00\x00\x00\x01"
	fileOf9   = "\x01\x00\x00\x00\x09\x00\x00\x00\x00\x00\x00\x00\x00\x00\x00\x00\x00\x00\x00\x00\x01"
	file5At7  = "\x01\x00\x00\x00\x05\x00\x00\x00\x00\x00\x00\x00\x00\x00\x00\x00\x00\x00\x00\x00\x07"
	marked5   = "\x01\x00\x00\x00\x05\x3f\xf8\x00\x00\x00\x00\x00\x00\x00\x00\x00\x00\x00\x00\x00\x01"
	aDir      = "\x02\x00\x00\x00\x00\x3f\xf8\x00\x00\x00\x00\x00\x00\x00\x00\x00\x00\x00\x00\x00\x02"
	tooBig    = "\x01\x00\x00\x08\x01\x00\x00\x00\x00\x00\x00\x00\x00\x00\x00\x00\x00\x00\x00\x00\x01"
	notQuiet  = "\x01\x00\x00\x00\x05\x7f\xf0\x00\x00\x00\x00\x00\x01\x00\x00\x00\x00\x00\x00\x00\x01"
	noKind    = "\x03\x00\x00\x00\x00\x00\x00\x00\x00\x00\x00\x00\x00\x00\x00\x00\x00\x00\x00\x00\x01"
	grow9     = "\x01\x00\x00\x00\x09"
	growOver  = "\x01\x00\x00\x08\x01"
	cutTo9    = "\x02\x00\x00\x00\x09"
	add1and5  = "\x03\x02\x3f\xf8\x00\x00\x00\x00\x00\x00"
	stamp7    = "\x04\x00\x00\x00\x00\x00\x00\x00\x07"
	spliceZ   = "\x01\x04\x00\x01z"
	spliceOff = "\x01\x3f\x00\x02xy"
	cutAt0    = "\x02\x00"
	cutAt3    = "\x02\x03"
	cutAt64   = "\x02\x40"
	both      = "\x01\x00\x00\x01a" // a change by Grow 353 as well as a splice of a at 0
)

// manyValues are texts at all edges: of metas, changes and patches, such that may be and such that may not, and of neither.
func manyValues() []string {
	return []string{
		"", "x", "1", "abc", "\x00", "a\x00", "\x00a", "\xff\xfe", noughts(21), noughts(64), letters(21), letters(63), letters(64), letters(65), letters(63) + "\x00", noughts(63) + "z", letters(64) + "\x00", letters(108), letters(109), letters(65536),
		fileOf5, fileOf9, file5At7, marked5, aDir, tooBig, notQuiet, noKind, fileOf5[:20], fileOf5 + "\x00", fileOf5 + "x",
		grow9, growOver, cutTo9, add1and5, stamp7, grow9[:4], grow9 + "\x00", stamp7 + "\x00", "\x03\x06" + noughts(8), "\x05",
		spliceZ, spliceOff, cutAt0, cutAt3, cutAt64, spliceZ[:4], spliceZ + "x", "\x01", "\x02", "\x02\x03\x00", "\x01\x00\x00\x00", "\x01\x00\x00\x40" + letters(64), "\x01\x3f\x00\x01\x00", both,
	}
}

// manyKeys are keys at all edges, and texts that are none.
func manyKeys() []string {
	out := []string{"", "\x00", "a", "a\x00", "b", "c", "d", "d\x00", "da", "da\x00", "db", "l\xff", "m", "m\x00", "ma", "mb", "n", "M", "x", "y", "\xff", "\xff\xff", "xm", "xd", "näh"}
	for _, first := range []string{"a", "d", "m", "x"} {
		for _, n := range []int{107, 108, 109, 110} {
			out = append(out, long(first, n))
		}
	}
	return append(out, letters(65535), long("m", 65536))
}

// manyMsgs are messages of all kinds and of none, with all the keys, and with fields that are not named.
func manyMsgs() []api.Msg {
	var out []api.Msg
	for _, op := range []int{math.MinInt, -255, -1, 0, 1, 2, 3, 4, 5, 6, 255, 256, 257, 258, 259, 260, math.MaxInt} {
		for _, key := range manyKeys() {
			for _, to := range append(manyKeys(), key+"\x00", strings.TrimSuffix(key, "\x00")) {
				for _, v := range []string{"", "x", "\x00", fileOf5, grow9, spliceZ} {
					out = append(out, api.Msg{Op: op, Key: key, To: to, Value: v})
				}
			}
			for _, v := range manyValues() {
				out = append(out, api.Msg{Op: op, Key: key, Value: v})
			}
		}
	}
	return out
}

// rightMsgs are those that may be.
func rightMsgs() []api.Msg {
	var out []api.Msg
	for _, m := range manyMsgs() {
		if isRight(m) {
			out = append(out, m)
		}
	}
	return out
}

// someMsgs are a few of all kinds that may be, and some that may not.
func someMsgs() []api.Msg {
	return []api.Msg{
		put("x", "1"), put("x", ""), put("ma", fileOf5), put("ma", aDir), put("da", "abc"), put(long("d", 108), letters(64)), put("c", "v"),
		drop("x"), drop("c"), drop("ma"), drop("da"), drop(long("m", 108)),
		cleared("a", "b"), cleared("b", "d"), cleared("a", "z"), cleared("c", "c\x00"), cleared("\x00", "\xff"), cleared("da", "db"), cleared("m", "n"), cleared(long("a", 108), long("x", 108)),
		patch("ma", grow9), patch("ma", cutTo9), patch("ma", add1and5), patch("ma", stamp7), patch("ma", both), patch("da", both), patch("da", spliceZ), patch("da", cutAt0), patch("da", cutAt3), patch("m", stamp7), patch("d", "\x01\x3f\x00\x01\x00"),
		{}, {Op: 5, Key: "c"}, put("ma", "x"), put("da", "a\x00"), put("x", letters(65)), cleared("b", "a"), cleared("b", "b"), cleared("b", ""), cleared("", "z"), cleared("a", letters(109)), patch("x", spliceZ), patch("ma", spliceZ), patch("da", grow9), patch("ma", fileOf5), put("", "1"), drop(""), drop(letters(109)), {Op: 2, Key: "c", Value: "1"}, {Op: 2, Key: "c", To: "d"}, {Op: 3, Key: "a", To: "z", Value: "1"}, {Op: 1, Key: "c", To: "d", Value: "1"}, {Op: 4, Key: "da", To: "db", Value: spliceZ},
	}
}

// shown is a message for a report, however long its texts are.
func shown(m api.Msg) string {
	return fmt.Sprintf("{Op: %d, Key: %.20q, %d bytes, To: %.20q, %d bytes, Value: %.80q, %d bytes}", m.Op, m.Key, len(m.Key), m.To, len(m.To), m.Value, len(m.Value))
}

// isRight is how the chapter's words say which messages may be.
func isRight(m api.Msg) bool {
	if len(m.Key) < 1 || len(m.Key) > 108 {
		return false
	}
	e := api.OK
	switch {
	case m.Op == 1 && m.Key[0] == 'm':
		_, e = meta.Take(m.Value)
	case m.Op == 1 && m.Key[0] == 'd':
		e = block.Check(m.Value)
	case m.Op == 4 && m.Key[0] == 'm':
		_, e = meta.TakeChange(m.Value)
	case m.Op == 4 && m.Key[0] == 'd':
		_, e = block.Take(m.Value)
	}
	switch m.Op {
	case 1:
		return e == api.OK && len(m.Value) <= 64 && m.To == ""
	case 2:
		return m.Value == "" && m.To == ""
	case 3:
		return m.Value == "" && len(m.To) >= 1 && len(m.To) <= 108 && strings.Compare(m.To, m.Key) > 0
	case 4:
		return e == api.OK && strings.ContainsAny(m.Key[:1], "md") && m.To == ""
	}
	return false
}

// asText is how chapter 3's words say how a text stands.
func asText(s string) string { return string([]byte{byte(len(s) >> 8), byte(len(s))}) + s }

// textOf is how the chapter's words say what a message's text is.
func textOf(m api.Msg) string {
	s := string([]byte{byte(m.Op)}) + asText(m.Key)
	switch m.Op {
	case 1, 4:
		return s + asText(m.Value)
	case 3:
		return s + asText(m.To)
	}
	return s
}

// takeText is the text that s begins with, and what is left behind it; false, if it lacks bytes.
func takeText(s string) (text, rest string, is bool) {
	if len(s) < 2 {
		return "", "", false
	}
	end := 2 + int(s[0])*256 + int(s[1])
	if len(s) < end {
		return "", "", false
	}
	return s[2:end], s[end:], true
}

// told is how the chapter's words say what Take answers.
func told(s string) (api.Msg, api.Errno) {
	if s == "" {
		return api.Msg{}, api.ErrTorn
	}
	if s[0] < 1 || s[0] > 4 {
		return api.Msg{}, api.ErrForm
	}
	m := api.Msg{Op: int(s[0])}
	key, rest, is := takeText(s[1:])
	m.Key = key
	if is && m.Op != 2 {
		var other string
		other, rest, is = takeText(rest)
		if m.Op == 3 {
			m.To = other
		} else {
			m.Value = other
		}
	}
	if !is {
		return api.Msg{}, api.ErrTorn
	}
	if rest != "" || !isRight(m) {
		return api.Msg{}, api.ErrForm
	}
	return m, api.OK
}

// inRange is how the chapter's words say which keys lie in a range.
func inRange(key, from, to string) bool {
	return strings.Compare(key, from) >= 0 && (to == "" || strings.Compare(key, to) < 0)
}

// touched is how the chapter's words say what Touches answers.
func touched(m api.Msg, key string) bool {
	if m.Op == 3 {
		return isRight(m) && inRange(key, m.Key, m.To)
	}
	return isRight(m) && m.Key == key
}

// partOf is how the chapter's words say what Part answers.
func partOf(m api.Msg, from, to string) (api.Msg, bool) {
	if isRight(m) && m.Op != 3 && inRange(m.Key, from, to) {
		return m, true
	}
	if !isRight(m) || m.Op != 3 {
		return api.Msg{}, false
	}
	if from > m.Key {
		m.Key = from
	}
	if to != "" && to < m.To {
		m.To = to
	}
	if m.Key >= m.To {
		return api.Msg{}, false
	}
	return m, true
}

// applied is how the chapter's words say what Apply answers.
func applied(m api.Msg, key, v string, there bool) (string, bool) {
	if !there {
		v = ""
	}
	if !touched(m, key) {
		return v, there
	}
	switch {
	case m.Op == 1:
		return m.Value, true
	case m.Op == 2 || m.Op == 3:
		return "", false
	case key[0] == 'd':
		p, _ := block.Take(m.Value)
		v = block.Apply(v, p)
		return v, len(v) > 0
	}
	x, e := meta.Take(v)
	if !there || e != api.OK {
		return v, there
	}
	c, _ := meta.TakeChange(m.Value)
	v, _ = meta.Put(meta.Apply(x, c))
	return v, true
}

func wantCheck(t *testing.T, m api.Msg, want api.Errno) {
	t.Helper()
	if e := Check(m); e != want {
		t.Errorf("Check(%s): %d, not %d", shown(m), e, want)
	}
}

func wantPut(t *testing.T, m api.Msg, want string, wantE api.Errno) {
	t.Helper()
	if s, e := Put(m); s != want || e != wantE {
		t.Errorf("Put(%s): %x, %d; not %x, %d", shown(m), s, e, want, wantE)
	}
	if n := Size(m); n != len(want) {
		t.Errorf("Size(%s): %d, not %d", shown(m), n, len(want))
	}
}

// wantRight and wantWrong are of a message that may be, and of one that may not.
func wantRight(t *testing.T, m api.Msg) {
	t.Helper()
	wantCheck(t, m, api.OK)
	wantPut(t, m, textOf(m), api.OK)
	wantTake(t, textOf(m), m, api.OK)
}

func wantWrong(t *testing.T, m api.Msg) {
	t.Helper()
	wantCheck(t, m, api.ErrForm)
	wantPut(t, m, "", api.ErrForm)
}

func wantTake(t *testing.T, s string, want api.Msg, wantE api.Errno) {
	t.Helper()
	if m, e := Take(s); m != want || e != wantE {
		t.Errorf("Take(%.80x, %d bytes): %s, %d; not %s, %d", s, len(s), shown(m), e, shown(want), wantE)
	}
}

func wantTaken(t *testing.T, s string) {
	t.Helper()
	m, e := told(s)
	wantTake(t, s, m, e)
}

func wantTouches(t *testing.T, m api.Msg, key string, want bool) {
	t.Helper()
	if got := Touches(m, key); got != want {
		t.Errorf("Touches(%s, %.20q, %d bytes): %t", shown(m), key, len(key), got)
	}
}

func wantPart(t *testing.T, m api.Msg, from, to string, want api.Msg, wantIs bool) {
	t.Helper()
	if p, is := Part(m, from, to); p != want || is != wantIs {
		t.Errorf("Part(%s, %.20q, %.20q): %s, %t; not %s, %t", shown(m), from, to, shown(p), is, shown(want), wantIs)
	}
}

func wantApply(t *testing.T, m api.Msg, key, v string, there bool, want string, wantIs bool) {
	t.Helper()
	if got, is := Apply(m, key, v, there); got != want || is != wantIs {
		t.Errorf("Apply(%s, %.20q, %.80q, %t): %.80q, %t; not %.80q, %t", shown(m), key, v, there, got, is, want, wantIs)
	}
}

// spoil hands over each text that has one byte less than s, one more, or another one, and each beginning of s.
func spoil(s string, each func(string)) {
	for at := range len(s) {
		each(s[:at])
		each(s[:at] + s[at+1:])
		for b := range 256 {
			other := string([]byte{byte(b)})
			each(s[:at] + other + s[at:])
			each(s[:at] + other + s[at+1:])
		}
	}
	for b := range 256 {
		each(s + string([]byte{byte(b)}))
	}
}

// P9.1: Check, Put and Size of all edges.
func TestPut(t *testing.T) {
	for _, m := range append(manyMsgs(), someMsgs()...) {
		if isRight(m) {
			wantCheck(t, m, api.OK)
			wantPut(t, m, textOf(m), api.OK)
		} else {
			wantWrong(t, m)
		}
	}
}

// P9.1: keys of 0, 1, 108 and 109 bytes, as Key of all kinds and as To.
func TestLengthsOfKeys(t *testing.T) {
	values := []struct{ first, value, patch string }{{"m", fileOf5, stamp7}, {"d", "abc", cutAt3}, {"x", "1", ""}}
	for n := 1; n < 120; n++ {
		want := wantRight
		if n > 108 {
			want = wantWrong
		}
		for _, c := range values {
			key := long(c.first, n)
			want(t, put(key, c.value))
			want(t, drop(key))
			want(t, cleared(key, "y"))
			want(t, cleared("a", key))
			if c.patch != "" {
				want(t, patch(key, c.patch))
			}
		}
	}
	for _, m := range []api.Msg{put("", "1"), put("", ""), put("", fileOf5), drop(""), cleared("", "a"), cleared("", ""), cleared("a", ""), cleared(long("a", 108), ""), patch("", stamp7), patch("", cutAt3), patch("", "")} {
		wantWrong(t, m)
	}
	wantRight(t, cleared(long("a", 108), long("b", 108)))
	wantWrong(t, cleared(long("a", 109), long("b", 109)))
	wantWrong(t, cleared(letters(108), letters(109)))
}

// P9.1: numbers that are no kinds, those among them whose last byte is one.
func TestKinds(t *testing.T) {
	for op := -600; op <= 600; op++ {
		rights := 0
		for _, m := range []api.Msg{{Key: "x", Value: "1"}, {Key: "x"}, {Key: "x", To: "y"}, {Key: "ma", Value: grow9}, {Key: "ma", Value: fileOf5}, {Key: "da", Value: cutAt3}} {
			m.Op = op
			if Check(m) == api.OK {
				rights++
			}
		}
		want := 0
		switch op {
		case api.Put:
			want = 4 // an empty value and a value of x, a meta's, and a cut's text as a block's
		case api.Drop, api.Clear:
			want = 1
		case api.Patch:
			want = 2
		}
		if rights != want {
			t.Errorf("Op %d: %d messages may be, not %d", op, rights, want)
		}
	}
	for _, op := range []int{0, 5, 255, 256, 257, -1, math.MinInt, math.MaxInt} {
		wantWrong(t, api.Msg{Op: op, Key: "x"})
		wantWrong(t, api.Msg{Op: op})
	}
}

// P9.1: which values suit which keys.
func TestValuesThatArePut(t *testing.T) {
	metas := []string{fileOf5, fileOf9, file5At7, marked5, aDir}
	for _, key := range []string{"m", "ma", "m\x00", long("m", 108)} {
		for _, v := range metas {
			wantRight(t, put(key, v))
		}
		for _, v := range []string{"", "x", "\x00", tooBig, notQuiet, noKind, fileOf5[:20], fileOf5 + "\x00", grow9, stamp7, letters(21), letters(64), spliceZ} {
			wantWrong(t, put(key, v))
		}
	}
	for _, key := range []string{"d", "da", "d\x00", long("d", 108)} {
		for _, v := range []string{"a", "\x00a", letters(63), letters(64), noughts(63) + "z", fileOf5, grow9, cutAt3} {
			wantRight(t, put(key, v))
		}
		for _, v := range []string{"", "\x00", "a\x00", letters(65), noughts(64), letters(63) + "\x00", cutAt0} {
			wantWrong(t, put(key, v))
		}
	}
	for b := range 256 {
		key := string([]byte{byte(b)}) + "md"
		if b == 'm' || b == 'd' {
			continue
		}
		for _, v := range []string{"", "x", "\x00", "a\x00", letters(63), letters(64), noughts(64), fileOf5, tooBig, spliceOff} {
			wantRight(t, put(key, v))
		}
		for _, v := range []string{letters(65), noughts(65), letters(66), letters(128), letters(65536)} {
			wantWrong(t, put(key, v))
		}
	}
}

// P9.1: Clears whose To is empty, below Key, Key itself, and above it.
func TestEndsOfClears(t *testing.T) {
	for _, c := range [][2]string{{"b", ""}, {"b", "a"}, {"b", "a\xff"}, {"b", "b"}, {"b\x00", "b"}, {"bb", "b"}, {"b", "B"}, {"\xff", "\x00"}, {"\xff", "z"}, {"\x80", "\x7f"}, {long("a", 108), "a"}, {letters(108), letters(107)}} {
		wantWrong(t, cleared(c[0], c[1]))
	}
	for _, c := range [][2]string{{"b", "b\x00"}, {"b", "ba"}, {"b", "c"}, {"a\xff", "b"}, {"\x00", "\x00\x00"}, {"\x00", "\xff"}, {"\x7f", "\x80"}, {"z", "\xff"}, {"a", long("a", 108)}, {letters(107), letters(108)}} {
		wantRight(t, cleared(c[0], c[1]))
	}
}

// P9.1: which patches suit which keys.
func TestTextsOfPatches(t *testing.T) {
	changes := []string{grow9, cutTo9, add1and5, stamp7, both}
	patches := []string{spliceZ, cutAt0, cutAt3, both, "\x01\x00\x00\x40" + letters(64), "\x01\x3f\x00\x01\x00"}
	neither := []string{"", "x", "\x00", "\x05", "\x01", "\x02", growOver, spliceOff, cutAt64, grow9[:4], grow9 + "\x00", spliceZ + "\x00", fileOf5, aDir, letters(64), letters(65), letters(65536)}
	for _, p := range changes {
		wantRight(t, patch("ma", p))
		wantRight(t, patch(long("m", 108), p))
		if p != both {
			wantWrong(t, patch("da", p))
		}
	}
	for _, p := range patches {
		wantRight(t, patch("da", p))
		wantRight(t, patch(long("d", 108), p))
		if p != both {
			wantWrong(t, patch("ma", p))
		}
	}
	for _, p := range neither {
		wantWrong(t, patch("ma", p))
		wantWrong(t, patch("da", p))
	}
	for b := range 256 {
		for _, p := range append(append(changes, patches...), neither...) {
			if b != 'm' && b != 'd' {
				wantWrong(t, patch(string([]byte{byte(b)})+"md", p))
			}
		}
	}
}

// P9.1: what is not named must be empty.
func TestFieldsThatAreNotNamed(t *testing.T) {
	for _, m := range rightMsgs() {
		for _, more := range []string{"\x00", "a", "x", m.Key, m.Key + "\x00", letters(108), "\xff"} {
			with := m
			if m.Op == 3 {
				with.Value = more
			} else {
				with.To = more
			}
			wantWrong(t, with)
			if m.Op == 2 {
				wantWrong(t, api.Msg{Op: 2, Key: m.Key, Value: more})
				wantWrong(t, api.Msg{Op: 2, Key: m.Key, To: "\xff\xff", Value: more})
			}
		}
	}
}

// P9.1: Take of the texts of messages that may be, and of what would be those of messages that may not.
func TestTake(t *testing.T) {
	for _, m := range manyMsgs() {
		if len(m.Key) < 65536 && len(m.To) < 65536 && len(m.Value) < 65536 {
			wantTaken(t, textOf(m))
		}
	}
	for _, m := range rightMsgs() {
		wantTake(t, textOf(m), m, api.OK)
	}
}

// P9.1: what is wrong first is what is told.
func TestTakeOfWrongTexts(t *testing.T) {
	wantTake(t, "", api.Msg{}, api.ErrTorn)
	for first := range 256 {
		s := string([]byte{byte(first)})
		if first >= 1 && first <= 4 {
			for _, behind := range []string{"", "\x00", "\x00\x01", "\x00\x02a", "\xff\xff" + letters(65534)} {
				wantTake(t, s+behind, api.Msg{}, api.ErrTorn)
			}
			continue
		}
		for _, behind := range []string{"", "\x00", "\x00\x01", "\x00\x01a", "\x00\x01a\x00\x01b", "\x01", letters(1000)} {
			wantTake(t, s+behind, api.Msg{}, api.ErrForm)
		}
	}
	for _, s := range []string{"\x01\x00\x01x", "\x01\x00\x01x\x00", "\x01\x00\x01x\x00\x01", "\x03\x00\x01a", "\x03\x00\x01a\x00", "\x03\x00\x01a\x00\x02b", "\x04\x00\x01m", "\x04\x00\x02ma\x00\x05\x01\x00\x00\x00", "\x01\x00\x00", "\x01\x00\x00\x00", "\x03\x00\x00\x00\x01", "\x03\x00\x01b\x00\x02a", "\x04\x00\x01x\x00\x09", "\x01\x00\x6d" + letters(109), "\x01\x00\x01x\x00\x41" + letters(64)} {
		wantTake(t, s, api.Msg{}, api.ErrTorn)
	}
	for _, s := range []string{"\x02\x00\x00", "\x02\x00\x01a\x00", "\x02\x00\x01a\x00\x01b", "\x02\x00\x00\x61", "\x02\x00\x6d" + letters(109), "\x01\x00\x00\x00\x00", "\x01\x00\x01x\x00\x00\x00", "\x01\x00\x01x\x00\x011\x00\x01y", "\x01\x00\x01m\x00\x01x", "\x01\x00\x01d\x00\x01\x00", "\x01\x00\x01d\x00\x00", "\x01\x00\x01x\x00\x41" + letters(65), "\x03\x00\x01b\x00\x01a", "\x03\x00\x01b\x00\x01b", "\x03\x00\x01b\x00\x00", "\x03\x00\x00\x00\x01b", "\x03\x00\x01a\x00\x01b\x00", "\x03\x00\x01a\x00\x6d" + letters(109), "\x04\x00\x01x\x00\x02\x02\x03", "\x04\x00\x01m\x00\x00", "\x04\x00\x01m\x00\x02\x02\x03", "\x04\x00\x01d\x00\x01\x02", "\x04\x00\x01d\x00\x02\x02\x03\x00"} {
		wantTake(t, s, api.Msg{}, api.ErrForm)
	}
}

// P9.1: texts with one byte less, one more, or another one.
func TestTakeOfSpoiltTexts(t *testing.T) {
	for _, m := range someMsgs() {
		spoil(textOf(m), func(s string) { wantTaken(t, s) })
	}
}

// P9.2
func TestTouches(t *testing.T) {
	keys := manyKeys()
	for _, m := range someMsgs() {
		for _, key := range append(keys, m.Key, m.Key+"\x00", m.To, m.To+"\x00") {
			wantTouches(t, m, key, touched(m, key))
		}
	}
	for i, m := range manyMsgs() {
		wantTouches(t, m, m.Key, isRight(m))
		key := keys[i%len(keys)]
		wantTouches(t, m, key, touched(m, key))
	}
}

// P9.2: the same, written out: at Key, just above it, just below To, and at To.
func TestTouchesWrittenOut(t *testing.T) {
	for _, c := range []struct {
		m    api.Msg
		key  string
		want bool
	}{
		{put("x", "1"), "x", true}, {put("x", "1"), "x\x00", false}, {put("x", "1"), "w", false}, {put("x", "1"), "", false}, {put("x", ""), "x", true}, {put("ma", fileOf5), "ma", true}, {put("ma", fileOf5), "m", false},
		{drop("x"), "x", true}, {drop("x"), "xx", false}, {drop("x"), "X", false}, {patch("da", cutAt0), "da", true}, {patch("da", cutAt0), "d", false}, {patch("ma", stamp7), "ma", true}, {patch("ma", stamp7), "mb", false},
		{cleared("b", "d"), "a\xff", false}, {cleared("b", "d"), "b", true}, {cleared("b", "d"), "b\x00", true}, {cleared("b", "d"), "c", true}, {cleared("b", "d"), "c\xff\xff", true}, {cleared("b", "d"), "d", false}, {cleared("b", "d"), "d\x00", false}, {cleared("b", "d"), "", false}, {cleared("b", "d"), "\xff", false},
		{cleared("b", "b\x00"), "b", true}, {cleared("b", "b\x00"), "b\x00", false}, {cleared("\x7f", "\x81"), "\x80", true},
		{cleared("b", "d"), "c" + letters(300), true},
		{cleared("d", "b"), "c", false}, {cleared("b", "b"), "b", false}, {cleared("b", ""), "b", false}, {cleared("b", ""), "c", false}, {cleared("", "c"), "b", false}, {cleared("", "c"), "", false},
		{api.Msg{Op: 3, Key: "b", To: "d", Value: "1"}, "b", false}, {api.Msg{Op: 3, Key: "b", To: "d", Value: "1"}, "c", false}, {cleared("b", letters(109)), "b", false}, {cleared(letters(109), "d"), letters(109), false},
		{api.Msg{}, "", false}, {api.Msg{Op: 5, Key: "x"}, "x", false}, {api.Msg{Key: "x"}, "x", false}, {put("ma", "x"), "ma", false}, {put("da", ""), "da", false}, {put("x", letters(65)), "x", false}, {patch("x", cutAt0), "x", false}, {patch("ma", cutAt0), "ma", false}, {drop(""), "", false}, {put("", "1"), "", false}, {drop(letters(109)), letters(109), false}, {api.Msg{Op: 2, Key: "x", To: "y"}, "x", false},
	} {
		wantTouches(t, c.m, c.key, c.want)
	}
}

// P9.2: ranges of all edges.
func TestPart(t *testing.T) {
	for _, m := range someMsgs() {
		ends := append(manyKeys(), m.Key, m.Key+"\x00", m.To, m.To+"\x00")
		for _, from := range ends {
			for _, to := range ends {
				p, is := partOf(m, from, to)
				wantPart(t, m, from, to, p, is)
			}
		}
	}
	for _, m := range manyMsgs() {
		if isRight(m) {
			wantPart(t, m, "", "", m, true)
		} else {
			wantPart(t, m, "", "", api.Msg{}, false)
		}
	}
}

// P9.2: parts of Clears, written out; a part without keys is none.
func TestPartOfClears(t *testing.T) {
	m := cleared("c", "g")
	for _, c := range []struct{ from, to, key, end string }{
		{"", "", "c", "g"}, {"a", "", "c", "g"}, {"c", "", "c", "g"}, {"d", "", "d", "g"}, {"f\xff", "", "f\xff", "g"}, {"g", "", "", ""}, {"g\x00", "", "", ""}, {"z", "", "", ""},
		{"", "a", "", ""}, {"", "c", "", ""}, {"", "c\x00", "c", "c\x00"}, {"", "e", "c", "e"}, {"", "g", "c", "g"}, {"", "g\x00", "c", "g"}, {"", "z", "c", "g"},
		{"a", "b", "", ""}, {"a", "c", "", ""}, {"b", "d", "c", "d"}, {"c", "d", "c", "d"}, {"d", "e", "d", "e"}, {"d", "g", "d", "g"}, {"d", "z", "d", "g"}, {"c", "g", "c", "g"}, {"b", "h", "c", "g"}, {"g", "h", "", ""}, {"f", "g", "f", "g"}, {"h", "i", "", ""},
		{"d", "d", "", ""}, {"e", "d", "", ""}, {"c", "c", "", ""}, {"g", "c", "", ""}, {"z", "a", "", ""}, {"g", "g", "", ""},
	} {
		want := cleared(c.key, c.end)
		if c.key == "" {
			want = api.Msg{}
		}
		wantPart(t, m, c.from, c.to, want, c.key != "")
	}
}

// P9.2: the others are in a range wholly, or not at all.
func TestPartOfOthers(t *testing.T) {
	for _, m := range []api.Msg{put("x", "1"), put("x", ""), drop("x")} {
		for _, c := range []struct {
			from, to string
			is       bool
		}{
			{"", "", true}, {"x", "", true}, {"x", "y", true}, {"a", "x\x00", true}, {"x", "x\x00", true}, {"", "x", false}, {"a", "x", false}, {"x\x00", "", false}, {"x\x00", "z", false}, {"x", "x", false}, {"y", "x", false}, {"y", "a", false}, {"z", "w", false}, {"", "z", true},
		} {
			want := m
			if !c.is {
				want = api.Msg{}
			}
			wantPart(t, m, c.from, c.to, want, c.is)
		}
	}
	wantPart(t, patch("da", cutAt3), "d", "e", patch("da", cutAt3), true)
	wantPart(t, patch("da", cutAt3), "db", "e", api.Msg{}, false)
	for _, m := range []api.Msg{{}, {Key: "x"}, {Op: 5, Key: "x"}, put("ma", "x"), put("x", letters(65)), patch("x", cutAt0), cleared("b", "a"), cleared("b", "b"), cleared("b", ""), {Op: 3, Key: "a", To: "z", Value: "1"}, {Op: 2, Key: "x", To: "y"}, drop(letters(109))} {
		wantPart(t, m, "", "", api.Msg{}, false)
		wantPart(t, m, "a", "z", api.Msg{}, false)
	}
}

// P9.3: all that is there, and all that is not.
func TestApply(t *testing.T) {
	for _, m := range someMsgs() {
		for _, key := range append(manyKeys(), m.Key+"\x00", m.To) {
			for _, v := range manyValues() {
				for _, there := range []bool{false, true} {
					made, is := applied(m, key, v, there)
					wantApply(t, m, key, v, there, made, is)
				}
			}
		}
	}
	for _, m := range manyMsgs() {
		for _, v := range []string{"", "abc", fileOf5, letters(70)} {
			for _, there := range []bool{false, true} {
				made, is := applied(m, m.Key, v, there)
				wantApply(t, m, m.Key, v, there, made, is)
			}
		}
	}
}

// P9.3: Puts, Drops and Clears, written out, on keys that are touched and that are not.
func TestApplyWrittenOut(t *testing.T) {
	for _, v := range []string{"", "old", letters(200)} {
		for _, there := range []bool{false, true} {
			same := v
			if !there {
				same = ""
			}
			wantApply(t, put("x", "1"), "x", v, there, "1", true)
			wantApply(t, put("x", ""), "x", v, there, "", true)
			wantApply(t, put("ma", aDir), "ma", v, there, aDir, true)
			wantApply(t, put("da", "z"), "da", v, there, "z", true)
			wantApply(t, drop("x"), "x", v, there, "", false)
			wantApply(t, cleared("a", "z"), "x", v, there, "", false)
			wantApply(t, cleared("x", "z"), "x", v, there, "", false)
			for _, m := range []api.Msg{put("y", "1"), drop("y"), drop("x\x00"), cleared("a", "x"), cleared("x\x00", "z"), patch("da", cutAt0), patch("ma", grow9), {}, {Key: "x"}, {Op: 5, Key: "x"}, {Op: 2, Key: "x", To: "y"}, {Op: 3, Key: "a", To: "z", Value: "1"}, cleared("x", ""), cleared("z", "a"), put("x", letters(65)), patch("x", cutAt0)} {
				wantApply(t, m, "x", v, there, same, there)
			}
			wantApply(t, put("ma", "x"), "ma", v, there, same, there)
			wantApply(t, put("da", "a\x00"), "da", v, there, same, there)
			wantApply(t, patch("da", grow9), "da", v, there, same, there)
			wantApply(t, patch("ma", spliceZ), "ma", v, there, same, there)
		}
	}
}

// P9.3: a meta is changed where one stands, and none is made where none does.
func TestApplyOfChanges(t *testing.T) {
	for _, c := range [][3]string{{grow9, fileOf5, fileOf9}, {grow9, fileOf9, fileOf9}, {cutTo9, fileOf5, fileOf9}, {stamp7, fileOf5, file5At7}, {add1and5, fileOf5, marked5}, {grow9, aDir, aDir}, {cutTo9, aDir, aDir}, {both, fileOf5, "\x01\x00\x00\x01\x61" + fileOf5[5:]}} {
		wantApply(t, patch("ma", c[0]), "ma", c[1], true, c[2], true)
		wantApply(t, patch("ma", c[0]), "ma", c[1], false, "", false)
		wantApply(t, patch("ma", c[0]), "mb", c[1], true, c[1], true)
		for _, v := range []string{"", "x", "\x00", tooBig, notQuiet, noKind, fileOf5[:20], fileOf5 + "\x00", letters(64), letters(1000), grow9} {
			wantApply(t, patch("ma", c[0]), "ma", v, true, v, true)
			wantApply(t, patch("ma", c[0]), "ma", v, false, "", false)
		}
	}
}

// P9.3: a block that has no value is patched too; what is left empty is not there.
func TestApplyOfPatches(t *testing.T) {
	for _, c := range []struct{ p, v, want string }{
		{spliceZ, "abc", "abc\x00z"}, {spliceZ, "", "\x00\x00\x00\x00z"}, {spliceZ, "abcdefg", "abcdzfg"}, {spliceZ, letters(70), "abcdz" + letters(64)[5:]},
		{cutAt0, "abc", ""}, {cutAt0, "", ""}, {cutAt0, letters(70), ""}, {cutAt3, "abcdef", "abc"}, {cutAt3, "\x00\x00\x00d", ""}, {cutAt3, "a\x00\x00d", "a"}, {cutAt3, "", ""}, {cutAt3, "ab\x00", "ab"}, {cutAt3, noughts(64), ""},
		{"\x01\x00\x00\x01\x00", "a", ""}, {"\x01\x00\x00\x01\x00", "ab", "\x00b"}, {"\x01\x00\x00\x01\x00", "", ""}, {"\x01\x3f\x00\x01\x00", "", ""}, {"\x01\x3f\x00\x01q", "", noughts(63) + "q"}, {"\x01\x00\x00\x40" + letters(64), "zz", letters(64)}, {both, "zz", "az"},
	} {
		wantApply(t, patch("da", c.p), "da", c.v, true, c.want, c.want != "")
		wantApply(t, patch("da", c.p), "db", c.v, true, c.v, true)
		p, _ := block.Take(c.p)
		none := block.Apply("", p)
		wantApply(t, patch("da", c.p), "da", c.v, false, none, none != "")
	}
	wantApply(t, patch("da", spliceZ), "da", "abc", false, "\x00\x00\x00\x00z", true)
	wantApply(t, patch("da", cutAt3), "da", "abc", false, "", false)
}

// P9.4: what was told is what is taken, no two messages have the same text, and none has more than 221 bytes.
func TestTakeOfPut(t *testing.T) {
	texts := map[string]api.Msg{}
	most := 0
	for _, m := range append(manyMsgs(), someMsgs()...) {
		s, e := Put(m)
		if e != api.OK {
			continue
		}
		wantTake(t, s, m, api.OK)
		if other, is := texts[s]; is && other != m {
			t.Errorf("%s and %s have one text", shown(m), shown(other))
		}
		texts[s] = m
		most = max(most, len(s))
	}
	if most != 221 {
		t.Errorf("the longest text has %d bytes", most)
	}
}

// P9.4: a beginning of a text is torn.
func TestTakeOfBeginnings(t *testing.T) {
	for _, m := range rightMsgs() {
		s := textOf(m)
		for n := range len(s) {
			wantTake(t, s[:n], api.Msg{}, api.ErrTorn)
		}
	}
}

// P9.4: a text that is taken, put anew, is that text: so each has one form.
func TestPutOfTake(t *testing.T) {
	again := func(s string) {
		wantTaken(t, s)
		if m, e := Take(s); e == api.OK {
			wantPut(t, m, s, api.OK)
		}
	}
	for _, m := range someMsgs() {
		if len(m.Key) < 100 {
			spoil(textOf(m), again)
		}
	}
	r := rand.New(rand.NewSource(9))
	for range 50000 {
		b := make([]byte, r.Intn(16))
		for i := range b {
			b[i] = byte(r.Intn(256) >> (r.Intn(2) * 6))
		}
		again(string(b))
	}
}

// P9.5: on keys of a range the part does what the message does, and on others nothing.
func TestPartDoesTheSame(t *testing.T) {
	ends := []string{"", "\x00", "a", "b", "b\x00", "c", "d", "da", "da\x00", "db", "m", "ma", "ma\x00", "x", "x\x00", "z", "\xff", long("a", 108), long("x", 108)}
	keys := append(ends[1:], "c\xff", "cc", "dz", "mb", "w", "y")
	for _, m := range someMsgs() {
		for _, from := range ends {
			for _, to := range ends {
				p, is := Part(m, from, to)
				if is && Check(p) != api.OK {
					t.Errorf("Part(%s, %q, %q) may not be: %s", shown(m), from, to, shown(p))
				}
				for _, key := range keys {
					for _, v := range []string{"abc", fileOf5} {
						want, wantIs := v, true
						if inRange(key, from, to) {
							want, wantIs = Apply(m, key, v, true)
						}
						wantApply(t, p, key, v, true, want, wantIs)
					}
				}
			}
		}
	}
}

// P9.5: the parts of two ranges that follow each other touch, together, what the message touches in both.
func TestPartsOfRangesThatFollow(t *testing.T) {
	ends := []string{"\x00", "a", "b", "b\x00", "c", "c\x00", "d", "da", "da\x00", "db", "ma", "x", "x\x00", "z", "\xff"}
	for _, m := range someMsgs() {
		for _, from := range append(ends, "") {
			for _, mid := range ends {
				for _, to := range append(ends, "") {
					if mid < from || to != "" && to < mid {
						continue
					}
					first, _ := Part(m, from, mid)
					second, _ := Part(m, mid, to)
					for _, key := range append(ends, "a\xff", "cc", "m") {
						a, b := Touches(first, key), Touches(second, key)
						if a && b || (a || b) != (Touches(m, key) && inRange(key, from, to)) {
							t.Errorf("%s in %q, %q, %q: the parts touch %q: %t, %t", shown(m), from, mid, to, key, a, b)
						}
					}
				}
			}
		}
	}
}

// P9.6: what is put is there, what is dropped or cleared is not, and a value of a kind stays of that kind.
func TestValuesStayOfTheirKind(t *testing.T) {
	for _, m := range rightMsgs() {
		for _, v := range manyValues() {
			for _, there := range []bool{false, true} {
				made, is := Apply(m, m.Key, v, there)
				switch {
				case m.Op == 1 && (!is || made != m.Value):
					t.Errorf("behind %s: %q, %t", shown(m), made, is)
				case (m.Op == 2 || m.Op == 3) && (is || made != ""):
					t.Errorf("behind %s: %q, %t", shown(m), made, is)
				case !is && made != "":
					t.Errorf("behind %s nothing is there, but %q", shown(m), made)
				case is && (!there || isRight(put(m.Key, v))) && !isRight(put(m.Key, made)):
					t.Errorf("behind %s %q is %q", shown(m), v, made)
				}
			}
		}
	}
}

// P9.6: the same of many messages, one behind the other, held against what the chapter's words say.
func TestManyMessages(t *testing.T) {
	r := rand.New(rand.NewSource(6))
	msgs := append(someMsgs(), rightMsgs()...)
	keys := []string{"ma", "da", "x", "m", "d", "c"}
	for range 20 {
		for _, key := range keys {
			v, there := "", false
			for range 500 {
				m := msgs[r.Intn(len(msgs))]
				if m.Op != 3 && r.Intn(2) == 0 {
					m.Key = key
				}
				want, wantIs := applied(m, key, v, there)
				wantApply(t, m, key, v, there, want, wantIs)
				v, there = want, wantIs
				if there && !isRight(put(key, v)) {
					t.Fatalf("behind %s %q has the value %q", shown(m), key, v)
				}
			}
		}
	}
}

// A panic anywhere here would end the test.
func TestNothingPanics(t *testing.T) {
	texts := append(manyValues(), manyKeys()...)
	for _, s := range texts {
		Take(s)
		for _, op := range []int{math.MinInt, -1, 0, 1, 2, 3, 4, 5, math.MaxInt} {
			for _, m := range []api.Msg{{Op: op, Key: s}, {Op: op, Key: s, To: s}, {Op: op, Key: s, Value: s}, {Op: op, Key: "m", Value: s}, {Op: op, Key: "d", Value: s}, {Op: op, Key: "a", To: s}, {Op: op, Key: s, To: s, Value: s}} {
				Check(m)
				Put(m)
				Size(m)
				Touches(m, s)
				Touches(m, "")
				Part(m, s, "")
				Part(m, "", s)
				Part(m, s, s)
				Apply(m, s, s, true)
				Apply(m, m.Key, s, true)
				Apply(m, "", s, false)
			}
		}
	}
}

// The chapter's examples.
func TestExamples(t *testing.T) {
	wantPut(t, put("x", "1"), "\x01\x00\x01\x78\x00\x01\x31", api.OK)
	wantPut(t, drop("ma"), "\x02\x00\x02\x6d\x61", api.OK)
	wantPut(t, cleared("a", "b"), "\x03\x00\x01\x61\x00\x01\x62", api.OK)

	for _, m := range []api.Msg{cleared("b", "a"), cleared("a", "a"), put("ma", "x"), put("da", "\x00"), patch("x", ""), drop(letters(109)), {Op: 5, Key: "x"}} {
		wantCheck(t, m, api.ErrForm)
	}

	wantTake(t, "", api.Msg{}, api.ErrTorn)
	wantTake(t, "\x05", api.Msg{}, api.ErrForm)
	wantTake(t, "\x02\x00\x02\x61", api.Msg{}, api.ErrTorn)
	wantTake(t, "\x02\x00\x01\x61\x00", api.Msg{}, api.ErrForm)

	wantPart(t, cleared("b", "d"), "c", "", cleared("c", "d"), true)
	wantPart(t, cleared("b", "d"), "d", "e", api.Msg{}, false)
	wantPart(t, put("x", "1"), "x", "y", put("x", "1"), true)

	wantApply(t, put("x", "1"), "x", "", false, "1", true)
	wantApply(t, drop("x"), "x", "", false, "", false)
	wantApply(t, cleared("a", "z"), "x", "", false, "", false)
	wantApply(t, put("y", "1"), "x", "", false, "", false)

	wantApply(t, patch("da", "\x02\x00"), "da", "abc", true, "", false)
	wantApply(t, patch("da", "\x01\x04\x00\x01\x7a"), "da", "abc", true, "abc\x00z", true)
}
