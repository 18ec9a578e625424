package codec

import (
	"encoding/binary"
	"math"
	"math/rand"
	"strings"
	"testing"

	"rillbed/api"
)

// item is one thing that is written or read: a number of a width, bytes alone, or a text.
type item struct {
	kind string
	n    uint64
	s    string
}

func write(w *Writer, it item) {
	switch it.kind {
	case "u8":
		w.U8(uint8(it.n))
	case "u16":
		w.U16(uint16(it.n))
	case "u32":
		w.U32(uint32(it.n))
	case "u64":
		w.U64(it.n)
	case "raw":
		w.Raw(it.s)
	case "text":
		w.Text(it.s)
	}
}

// read reads what stands where it was written.
func read(r *Reader, it item) item {
	got := item{kind: it.kind}
	switch it.kind {
	case "u8":
		got.n = uint64(r.U8())
	case "u16":
		got.n = uint64(r.U16())
	case "u32":
		got.n = uint64(r.U32())
	case "u64":
		got.n = r.U64()
	case "raw":
		got.s = r.Fixed(len(it.s))
	case "text":
		got.s = r.Text()
	}
	return got
}

// standing is how the chapter's words say that an item stands.
func standing(it item) string {
	b := make([]byte, 8)
	switch it.kind {
	case "u8":
		return string([]byte{byte(it.n)})
	case "u16":
		binary.BigEndian.PutUint16(b, uint16(it.n))
		return string(b[:2])
	case "u32":
		binary.BigEndian.PutUint32(b, uint32(it.n))
		return string(b[:4])
	case "u64":
		binary.BigEndian.PutUint64(b, it.n)
		return string(b)
	case "text":
		binary.BigEndian.PutUint16(b, uint16(len(it.s)))
		return string(b[:2]) + it.s
	}
	return it.s
}

func numbersOf(bits int) []uint64 {
	most := uint64(math.MaxUint64) >> (64 - bits)
	out := []uint64{0, 1, 2, 127, 128, 255, most, most - 1, most >> 1, most>>1 + 1, 0x0102030405060708 & most, 0xf0e0d0c0b0a09080 & most}
	for i := range bits {
		out = append(out, 1<<i, most^(1<<i))
	}
	return out
}

func manyTexts() []string {
	out := []string{"", "a", "ab", "\x00", "\xff", "\x00\x02ab", "näh", "\xff\xfe\x80", "a\x00b", strings.Repeat("x", 255), strings.Repeat("y", 256), strings.Repeat("z", 257)}
	for b := range 256 {
		out = append(out, string([]byte{byte(b)}))
	}
	return append(out, strings.Repeat("q", 65534), strings.Repeat("\x80", 65535))
}

// singles: each number's edges and single bits, and texts of all bytes and at the edges of their length.
func singles() []item {
	var out []item
	for kind, bits := range map[string]int{"u8": 8, "u16": 16, "u32": 32, "u64": 64} {
		for _, n := range numbersOf(bits) {
			out = append(out, item{kind: kind, n: n})
		}
	}
	for _, s := range manyTexts() {
		out = append(out, item{kind: "raw", s: s}, item{kind: "text", s: s})
	}
	return out
}

// mixed: some items, chosen the same way in each run.
func mixed(r *rand.Rand) []item {
	kinds := []string{"u8", "u16", "u32", "u64", "raw", "text"}
	out := make([]item, r.Intn(12))
	for i := range out {
		it := item{kind: kinds[r.Intn(len(kinds))]}
		switch it.kind {
		case "raw", "text":
			b := make([]byte, r.Intn(20))
			r.Read(b)
			it.s = string(b)
		case "u8":
			it.n = uint64(uint8(r.Uint64()))
		case "u16":
			it.n = uint64(uint16(r.Uint64()))
		case "u32":
			it.n = uint64(uint32(r.Uint64()))
		default:
			it.n = r.Uint64()
		}
		out[i] = it
	}
	return out
}

func written(items []item) (string, api.Errno) {
	var w Writer
	for _, it := range items {
		write(&w, it)
	}
	return w.Bytes()
}

func wantBytes(t *testing.T, w *Writer, want string, wantErr api.Errno) {
	t.Helper()
	if s, e := w.Bytes(); s != want || e != wantErr {
		t.Errorf("Bytes: %.40q of %d bytes, %d; not %.40q of %d bytes, %d", s, len(s), e, want, len(want), wantErr)
	}
}

func wantReader(t *testing.T, r *Reader, rest string, e api.Errno) {
	t.Helper()
	if r.Rest() != rest || r.Err() != e {
		t.Errorf("Rest %.40q, Err %d; not %.40q, %d", r.Rest(), r.Err(), rest, e)
	}
}

// wantZeros asks for everything that a reader can be asked for.
func wantZeros(t *testing.T, r *Reader, e api.Errno) {
	t.Helper()
	if r.U8() != 0 || r.U16() != 0 || r.U32() != 0 || r.U64() != 0 {
		t.Error("a number is not 0")
	}
	for _, n := range []int{math.MinInt, -1, 0, 1, 2, math.MaxInt} {
		if s := r.Fixed(n); s != "" {
			t.Errorf("Fixed(%d) = %q", n, s)
		}
	}
	if s := r.Text(); s != "" {
		t.Errorf("Text = %q", s)
	}
	wantReader(t, r, "", e)
}

// P3.1: nothing was written, so there is nothing.
func TestZeroWriter(t *testing.T) {
	var w Writer
	wantBytes(t, &w, "", api.OK)
	wantBytes(t, new(Writer), "", api.OK)
	w.Raw("")
	wantBytes(t, &w, "", api.OK)
	w.Text("")
	wantBytes(t, &w, "\x00\x00", api.OK)
}

// P3.1: each number and text by itself.
func TestWriteSingles(t *testing.T) {
	for _, it := range singles() {
		got, e := written([]item{it})
		if want := standing(it); got != want || e != api.OK {
			t.Errorf("%s %d %.20q: %.40q, %d; not %.40q", it.kind, it.n, it.s, got, e, want)
		}
	}
}

// P3.1: one behind the other; Bytes tells at each point all that was written till then, and changes nothing.
func TestWriteBehind(t *testing.T) {
	r := rand.New(rand.NewSource(1))
	for range 300 {
		var w Writer
		want := ""
		for _, it := range mixed(r) {
			write(&w, it)
			want += standing(it)
			wantBytes(t, &w, want, api.OK)
			wantBytes(t, &w, want, api.OK)
		}
	}
}

// P3.1: Raw writes its bytes alone, however many.
func TestRawIsNotBounded(t *testing.T) {
	for _, n := range []int{65535, 65536, 65537, 200000} {
		s := strings.Repeat("r", n)
		var w Writer
		w.U8(9)
		w.Raw(s)
		w.U8(8)
		wantBytes(t, &w, "\x09"+s+"\x08", api.OK)
	}
}

// P3.1: the longest text, and one byte more.
func TestTextAtItsEdge(t *testing.T) {
	longest := strings.Repeat("t", 65535)
	var w Writer
	w.U8(1)
	w.Text(longest)
	w.Text("")
	wantBytes(t, &w, "\x01\xff\xff"+longest+"\x00\x00", api.OK)
	w.Text(longest + "t")
	wantBytes(t, &w, "", api.ErrLong)
}

// P3.1: neither the text that is too long nor anything behind it is written, and what was ahead of it is not told either.
func TestNothingBehindTooLongText(t *testing.T) {
	for _, n := range []int{65536, 65537, 131072, 131075, 1 << 20} {
		for _, ahead := range [][]item{nil, {{kind: "u8", n: 7}}, {{kind: "text", s: "ab"}, {kind: "u64", n: 1}}} {
			var w Writer
			for _, it := range ahead {
				write(&w, it)
			}
			w.Text(strings.Repeat("l", n))
			wantBytes(t, &w, "", api.ErrLong)
			for _, it := range []item{{kind: "u8", n: 1}, {kind: "u16", n: 1}, {kind: "u32", n: 1}, {kind: "u64", n: 1}, {kind: "raw", s: "r"}, {kind: "text", s: "t"}, {kind: "text", s: ""}, {kind: "text", s: strings.Repeat("l", 65536)}} {
				write(&w, it)
				wantBytes(t, &w, "", api.ErrLong)
			}
		}
	}
}

// P3.1
func TestNilWriter(t *testing.T) {
	var w *Writer
	wantBytes(t, w, "", api.ErrNil)
	for _, it := range []item{{kind: "u8", n: 1}, {kind: "u16", n: 1}, {kind: "u32", n: 1}, {kind: "u64", n: 1}, {kind: "raw", s: "r"}, {kind: "text", s: "t"}, {kind: "text", s: strings.Repeat("l", 65536)}} {
		write(w, it)
		wantBytes(t, w, "", api.ErrNil)
	}
}

// P3.1: all that was written by a writer is told by it, whatever is written by a copy of it.
func TestCopiedWriterGoesOnByItself(t *testing.T) {
	var one Writer
	want := ""
	for i := range 40 {
		one.U8(uint8(i))
		want += string([]byte{byte(i)})
		other, third := one, one
		other.Raw("xy")
		third.Text("z")
		wantBytes(t, &one, want, api.OK)
		wantBytes(t, &other, want+"xy", api.OK)
		wantBytes(t, &third, want+"\x00\x01z", api.OK)
	}
	spoilt := one
	spoilt.Text(strings.Repeat("l", 65536))
	wantBytes(t, &one, want, api.OK)
	wantBytes(t, &spoilt, "", api.ErrLong)
}

// P3.1: writers have nothing in common.
func TestTwoWriters(t *testing.T) {
	var one, two Writer
	one.U16(1)
	two.Raw("b")
	one.Raw("a")
	two.U16(2)
	wantBytes(t, &one, "\x00\x01a", api.OK)
	wantBytes(t, &two, "b\x00\x02", api.OK)
}

// P3.1: many small numbers, in a time that grows as they do.
func TestManyWrites(t *testing.T) {
	const many = 1 << 20
	var w Writer
	for i := range many {
		w.U8(uint8(i))
	}
	s, e := w.Bytes()
	if len(s) != many || e != api.OK {
		t.Fatalf("%d bytes, %d", len(s), e)
	}
	for i := range many {
		if s[i] != byte(i) {
			t.Fatalf("byte %d is %d", i, s[i])
		}
	}
}

// P3.2: each number and text by itself, ahead of other bytes, which stay.
func TestReadSingles(t *testing.T) {
	for _, it := range singles() {
		for _, behind := range []string{"", "b", "behind it"} {
			r := New(standing(it) + behind)
			if got := read(r, it); got != it {
				t.Errorf("%s: %d %.20q, not %d %.20q", it.kind, got.n, got.s, it.n, it.s)
			}
			wantReader(t, r, behind, api.OK)
		}
	}
}

// P3.2, P3.3: a reader stands at the beginning, and asking for the rest or the error reads nothing.
func TestNewReader(t *testing.T) {
	for _, s := range manyTexts() {
		r := New(s)
		if r == nil {
			t.Fatal("no reader")
		}
		wantReader(t, r, s, api.OK)
		wantReader(t, r, s, api.OK)
		if got := r.Fixed(len(s)); got != s {
			t.Errorf("Fixed(%d) = %.20q", len(s), got)
		}
		wantReader(t, r, "", api.OK)
	}
}

// P3.2: one byte too few of each number tears it, and nothing of it is answered.
func TestTornNumbers(t *testing.T) {
	for kind, width := range map[string]int{"u8": 1, "u16": 2, "u32": 4, "u64": 8} {
		for n := range width {
			r := New(strings.Repeat("\xff", n))
			if got := read(r, item{kind: kind}); got.n != 0 {
				t.Errorf("%s of %d bytes: %d", kind, n, got.n)
			}
			wantZeros(t, r, api.ErrTorn)
		}
	}
}

// P3.2: a text is torn in its length, or in its bytes.
func TestTornTexts(t *testing.T) {
	for _, s := range []string{"", "\x00", "\xff", "\x00\x01", "\x00\x02a", "\x01\x00" + strings.Repeat("a", 255), "\xff\xff" + strings.Repeat("a", 65534)} {
		r := New(s)
		if got := r.Text(); got != "" {
			t.Errorf("Text of %.20q = %.20q", s, got)
		}
		wantZeros(t, r, api.ErrTorn)
	}
}

// P3.2: Fixed, about the end, and below 0.
func TestFixed(t *testing.T) {
	for _, n := range []int{math.MinInt, math.MinInt + 1, -65536, -2, -1, 0} {
		r := New("abc")
		if got := r.Fixed(n); got != "" {
			t.Errorf("Fixed(%d) = %q", n, got)
		}
		wantReader(t, r, "abc", api.OK)
		r = New("")
		r.Fixed(n)
		wantReader(t, r, "", api.OK)
	}
	for n := range 4 {
		r := New("abc")
		if got := r.Fixed(n); got != "abc"[:n] {
			t.Errorf("Fixed(%d) = %q", n, got)
		}
		wantReader(t, r, "abc"[n:], api.OK)
	}
	for _, n := range []int{4, 5, 65536, math.MaxInt - 1, math.MaxInt} {
		r := New("abc")
		if got := r.Fixed(n); got != "" {
			t.Errorf("Fixed(%d) = %q", n, got)
		}
		wantZeros(t, r, api.ErrTorn)
	}
}

// P3.2: a Fixed of many bytes, more than a text could have.
func TestFixedIsNotBounded(t *testing.T) {
	s := strings.Repeat("f", 200000)
	r := New(s + "g")
	if got := r.Fixed(200000); got != s {
		t.Errorf("%d bytes", len(got))
	}
	wantReader(t, r, "g", api.OK)
}

// P3.3: behind an error there are zeros and no rest, though there were bytes enough for a smaller number.
func TestBehindError(t *testing.T) {
	tears := []func(r *Reader){
		func(r *Reader) { r.U32() },
		func(r *Reader) { r.U64() },
		func(r *Reader) { r.Fixed(4) },
		func(r *Reader) { r.Text() },
	}
	for _, tear := range tears {
		r := New("\x01\x02\x03")
		tear(r)
		wantZeros(t, r, api.ErrTorn)
		wantZeros(t, r, api.ErrTorn)
	}
	for _, tear := range tears {
		r := New("\x01\x01\x02\x03")
		if got := r.U8(); got != 1 {
			t.Errorf("U8 = %d", got)
		}
		tear(r)
		wantReader(t, r, "", api.ErrTorn)
		wantZeros(t, r, api.ErrTorn)
	}
}

// P3.3
func TestNilReader(t *testing.T) {
	var r *Reader
	wantReader(t, r, "", api.ErrNil)
	wantZeros(t, r, api.ErrNil)
}

// P3.2, P3.3: readers, and copies of them, each stand by themselves.
func TestTwoReaders(t *testing.T) {
	one, two := New("abcd"), New("abcd")
	one.U16()
	wantReader(t, two, "abcd", api.OK)
	other := *one
	other.U64()
	wantReader(t, one, "cd", api.OK)
	wantReader(t, &other, "", api.ErrTorn)
}

// P3.4: what is written is read as it was, and then there is neither a rest nor an error.
func TestWrittenIsRead(t *testing.T) {
	chosen := rand.New(rand.NewSource(2))
	for range 500 {
		items := mixed(chosen)
		s, _ := written(items)
		r := New(s)
		for _, it := range items {
			if got := read(r, it); got != it {
				t.Errorf("%v, not %v", got, it)
			}
		}
		wantReader(t, r, "", api.OK)
	}
}

// P3.4: each beginning of it is torn. Items that lie whole within it are read as they were, and those behind are zero.
func TestBeginningIsTorn(t *testing.T) {
	chosen := rand.New(rand.NewSource(3))
	for range 200 {
		items := mixed(chosen)
		s, _ := written(items)
		for n := range len(s) {
			wantTornBeginning(t, items, s[:n])
		}
	}
}

func wantTornBeginning(t *testing.T, items []item, s string) {
	t.Helper()
	r := New(s)
	end := 0
	for _, it := range items {
		end += len(standing(it))
		want := it
		if end > len(s) {
			want = item{kind: it.kind}
		}
		if got := read(r, it); got != want {
			t.Errorf("%v, not %v, of %q", got, want, s)
		}
	}
	wantReader(t, r, "", api.ErrTorn)
}

// P3.5: of any bytes, what was read without an error, written anew, is what was read.
func TestReadIsWritten(t *testing.T) {
	chosen := rand.New(rand.NewSource(4))
	whole := 0
	for range 3000 {
		b := make([]byte, chosen.Intn(60))
		for i := range b {
			b[i] = byte(chosen.Intn(4) * chosen.Intn(64) / 16)
		}
		r := New(string(b))
		var w Writer
		for _, it := range mixed(chosen) {
			before := *r
			got := read(r, it)
			if r.Err() != api.OK {
				r = &before
				break
			}
			write(&w, got)
		}
		if s, _ := w.Bytes(); s != "" {
			whole++
		}
		wantBytes(t, &w, string(b[:len(b)-len(r.Rest())]), api.OK)
	}
	if whole < 1000 {
		t.Errorf("only %d of the texts had something to read", whole)
	}
}

func TestExamples(t *testing.T) {
	var w Writer
	w.U8(1)
	w.U16(258)
	w.U32(3)
	w.Text("ab")
	w.Raw("c")
	wantBytes(t, &w, "\x01\x01\x02\x00\x00\x00\x03\x00\x02\x61\x62\x63", api.OK)

	r := New("\x01\x02\x03")
	if a, b, c := r.U16(), r.U16(), r.U8(); a != 258 || b != 0 || c != 0 || r.Err() != api.ErrTorn {
		t.Errorf("%d, %d, %d, %d", a, b, c, r.Err())
	}

	r = New("\x00\x02\x61")
	if s := r.Text(); s != "" || r.Err() != api.ErrTorn {
		t.Errorf("%q, %d", s, r.Err())
	}
	r = New("\x00\x02\x61\x62\x63")
	if s := r.Text(); s != "ab" || r.Rest() != "c" {
		t.Errorf("%q, %q", s, r.Rest())
	}

	r = New("abc")
	if s := r.Fixed(2); s != "ab" {
		t.Errorf("Fixed(2) = %q", s)
	}
	if s := r.Fixed(-1); s != "" || r.Err() != api.OK {
		t.Errorf("Fixed(-1) = %q, %d", s, r.Err())
	}
	if s := r.Fixed(9); s != "" || r.Err() != api.ErrTorn {
		t.Errorf("Fixed(9) = %q, %d", s, r.Err())
	}

	w = Writer{}
	w.Text(strings.Repeat("a", 65536))
	w.U8(1)
	wantBytes(t, &w, "", api.ErrLong)
}
