package frame

import (
	"math/rand"
	"slices"
	"strings"
	"sync"
	"testing"
	"unsafe"

	"escutcheon/api"
)

// longest is the most bytes that a frame holds.
const longest = 2200

// mixed is n bytes of all kinds, the same ones for the same n and seed.
func mixed(n int, seed int64) string {
	b := make([]byte, n)
	rand.New(rand.NewSource(seed)).Read(b)
	return string(b)
}

// head is the two bytes that tell a length.
func head(n int) string { return string([]byte{byte(n / 256), byte(n % 256)}) }

// mustPut is a frame that may not be refused.
func mustPut(t *testing.T, b string) string {
	t.Helper()
	f, is := Put(b)
	if !is {
		t.Fatalf("Put of %d bytes: false", len(b))
	}
	return f
}

// model reads a stream byte by byte, by the document's words: it keeps the whole stream and all that it
// has told, and looks at it from its beginning each time.
type model struct {
	stream string
	told   int
}

// read tells all whole frames of the stream, the number of bytes that belong to none, and whether the
// length after them can be one.
func (m *model) read() (frames []string, waits int, alive bool) {
	at := 0
	for {
		left := len(m.stream) - at
		if left < 2 {
			return frames, left, true
		}
		n := 256*int(m.stream[at]) + int(m.stream[at+1])
		if n == 0 || n > longest {
			return frames, 0, false
		}
		if left < 2+n {
			return frames, left, true
		}
		frames = append(frames, m.stream[at+2:at+2+n])
		at += 2 + n
	}
}

func (m *model) feed(b string) ([]string, bool) {
	m.stream += b
	frames, _, alive := m.read()
	news := frames[m.told:]
	m.told = len(frames)
	return news, alive
}

// feeds holds what a Reader tells of some bytes against the model.
func feeds(t *testing.T, what string, r *Reader, m *model, b string) {
	t.Helper()
	want, alive := m.feed(b)
	_, waits, _ := m.read()
	got, is := r.Feed(b)
	if !slices.Equal(got, want) || is != alive {
		t.Fatalf("%s: Feed of %d bytes: %d frames, %t, not %d, %t", what, len(b), len(got), is, len(want), alive)
	}
	for range 2 {
		if r.Dead() == alive || r.Waits() != waits {
			t.Fatalf("%s: after %d bytes: dead %t, %d wait, not %t, %d", what, len(m.stream), r.Dead(), r.Waits(), !alive, waits)
		}
	}
}

// wants holds what a Reader tells against frames that are written out.
func wants(t *testing.T, r *Reader, b string, frames []string, is bool, waits int, dead bool) {
	t.Helper()
	got, alive := r.Feed(b)
	if !slices.Equal(got, frames) || alive != is || r.Waits() != waits || r.Dead() != dead {
		t.Errorf("Feed of %.40q: %.60q, %t, %d wait, dead %t", b, got, alive, r.Waits(), r.Dead())
	}
}

// P901: frames that are written out, and bytes that are counted, not runes.
func TestPutKnown(t *testing.T) {
	for _, c := range []struct{ b, frame string }{
		{"a", "\x00\x01a"},
		{"abc", "\x00\x03abc"},
		{"\x00", "\x00\x01\x00"},
		{"\x00\x00\x00", "\x00\x03\x00\x00\x00"},
		{"\xff\xff", "\x00\x02\xff\xff"},
		{"\u00e9", "\x00\x02\xc3\xa9"},
		{strings.Repeat("t", 255), "\x00\xff" + strings.Repeat("t", 255)},
		{strings.Repeat("t", 256), "\x01\x00" + strings.Repeat("t", 256)},
		{strings.Repeat("t", 257), "\x01\x01" + strings.Repeat("t", 257)},
		{strings.Repeat("t", 2199), "\x08\x97" + strings.Repeat("t", 2199)},
		{strings.Repeat("t", 2200), "\x08\x98" + strings.Repeat("t", 2200)},
	} {
		if f := mustPut(t, c.b); f != c.frame {
			t.Errorf("Put of %d bytes: %d bytes %.40q", len(c.b), len(f), f)
		}
	}
	if api.MaxFrame != longest {
		t.Error(api.MaxFrame)
	}
}

// P901: each length has its frame, and a Reader tells what was put.
func TestPutEachLength(t *testing.T) {
	var r Reader
	for n := 1; n <= longest; n++ {
		for _, b := range []string{mixed(n, int64(n)), strings.Repeat("\x00", n), strings.Repeat("\xff", n)} {
			f := mustPut(t, b)
			if f != head(n)+b {
				t.Fatalf("Put of %d bytes: %d bytes %.40x", n, len(f), f)
			}
			wants(t, &r, f, []string{b}, true, 0, false)
		}
	}
}

// P901: what is empty or too long has no frame, also where two bytes would cut its length to one that fits.
func TestPutRefuses(t *testing.T) {
	for _, n := range []int{0, 2201, 2202, 2203, 2304, 4096, 32767, 32768, 65535, 65536, 65537, 65536 + 2200, 131073, 1<<24 + 1} {
		if f, is := Put(strings.Repeat("x", n)); f != "" || is {
			t.Errorf("Put of %d bytes: %d bytes, %t", n, len(f), is)
		}
	}
}

// P901: the document's example.
func TestExample(t *testing.T) {
	var r Reader
	wants(t, &r, "\x00", nil, true, 1, false)
	wants(t, &r, "\x03ab", nil, true, 4, false)
	wants(t, &r, "c", []string{"abc"}, true, 0, false)
}

// P901: a zero Reader waits for nothing, and nothing comes of nothing.
func TestZeroReader(t *testing.T) {
	r := new(Reader)
	if r.Dead() || r.Waits() != 0 {
		t.Error(r.Dead(), r.Waits())
	}
	wants(t, r, "", nil, true, 0, false)
	wants(t, r, "\x00\x01", nil, true, 2, false)
	wants(t, r, "", nil, true, 2, false)
	wants(t, r, "x", []string{"x"}, true, 0, false)
	wants(t, r, "", nil, true, 0, false)
}

// P901: a nil Reader.
func TestNilReader(t *testing.T) {
	var r *Reader
	for _, b := range []string{"", "\x00", "\x00\x01x", "\x00\x00"} {
		wants(t, r, b, nil, false, 0, true)
	}
}

// P901: a stream that is cut in two at each place, and in three.
func TestEachCut(t *testing.T) {
	stream := ""
	for _, b := range []string{"a", "\x00\x00", "\x00\x01x", "four", strings.Repeat("\x00", 7), "\xff"} {
		stream += mustPut(t, b)
	}
	for _, end := range []string{"", "\x00", "\x00\x05", "\x00\x05ab", "\x00\x00", "\x00\x00\x00\x01x", "\x08\x99", "\xff\xff", "\x00\x01x\x00\x00\x00\x01y"} {
		whole := stream + end
		for i := range len(whole) + 1 {
			for j := i; j <= len(whole); j++ {
				var r Reader
				var m model
				for _, b := range []string{whole[:i], whole[i:j], whole[j:]} {
					feeds(t, "cut", &r, &m, b)
				}
			}
		}
	}
}

// P901: byte by byte, the longest frame too: it is whole with its last byte, and not ahead of it.
func TestByteByByte(t *testing.T) {
	var r Reader
	for _, n := range []int{1, 2, 3, 255, 256, 257, 2199, 2200, 1} {
		b := mixed(n, int64(n))
		f := mustPut(t, b)
		for i := range len(f) - 1 {
			wants(t, &r, f[i:i+1], nil, true, i+1, false)
		}
		wants(t, &r, f[len(f)-1:], []string{b}, true, 0, false)
	}
}

// P901: many frames of one Feed, in order.
func TestManyAtOnce(t *testing.T) {
	var all []string
	var stream strings.Builder
	for i := range 5000 {
		b := mixed(1+i*7%longest, int64(i))
		all = append(all, b)
		stream.WriteString(mustPut(t, b))
	}
	var r Reader
	wants(t, &r, stream.String()+"\x00", all, true, 1, false)
	wants(t, &r, "\x02", nil, true, 2, false)
	wants(t, &r, "yz"+mustPut(t, "next"), []string{"yz", "next"}, true, 0, false)
}

// P901: each length that two bytes can tell. The first of them alone kills no Reader.
func TestEachLength(t *testing.T) {
	for n := range 1 << 16 {
		var r Reader
		h := head(n)
		wants(t, &r, h[:1], nil, true, 1, false)
		if n == 0 || n > longest {
			wants(t, &r, h[1:], nil, false, 0, true)
			wants(t, &r, strings.Repeat("x", 100), nil, false, 0, true)
		} else {
			wants(t, &r, h[1:], nil, true, 2, false)
		}
	}
}

// P901: the frames ahead of a wrong length are told in the Feed that has it, those after it never are.
func TestDies(t *testing.T) {
	for _, wrong := range []string{"\x00\x00", "\x08\x99", "\x09\x00", "\x80\x00", "\xff\xff"} {
		for _, after := range []string{"", "x", "\x00\x01x", strings.Repeat("x", 70000)} {
			var r Reader
			wants(t, &r, "\x00\x02v", nil, true, 3, false)
			wants(t, &r, "w\x00\x01u"+wrong+after, []string{"vw", "u"}, false, 0, true)
			for _, b := range []string{"", "\x00\x01x", "\x00", "\x01x", wrong} {
				wants(t, &r, b, nil, false, 0, true)
			}
		}
		var late Reader
		wants(t, &late, "\x00\x01a"+wrong[:1], []string{"a"}, true, 1, false)
		wants(t, &late, "", nil, true, 1, false)
		wants(t, &late, wrong[1:]+"\x00\x01x", nil, false, 0, true)
	}
}

// P901: a wrong length that stands within a frame is none, wherever the pieces end.
func TestContentsAreNoLengths(t *testing.T) {
	for _, b := range []string{"\x00\x00", "\xff\xff\xff", "\x00", "\x08\x99\x00\x00"} {
		f := mustPut(t, b)
		for i := 1; i < len(f); i++ {
			var r Reader
			wants(t, &r, f[:i], nil, true, i, false)
			wants(t, &r, f[i:], []string{b}, true, 0, false)
		}
	}
}

// P901: streams of all kinds in pieces of all kinds.
func TestMixed(t *testing.T) {
	random := rand.New(rand.NewSource(9))
	died, lived := 0, 0
	for i := range 600 {
		var stream strings.Builder
		for range random.Intn(12) {
			n := 1 + random.Intn(30)
			if random.Intn(4) == 0 {
				n = 1 + random.Intn(longest)
			}
			stream.WriteString(head(n) + mixed(n, int64(i)))
		}
		switch random.Intn(4) {
		case 0:
			stream.WriteString(head(0))
		case 1:
			stream.WriteString(head(longest + 1 + random.Intn(60000)))
		case 2:
			stream.WriteString(mixed(random.Intn(9), int64(i)))
		default:
			stream.WriteString(head(longest) + mixed(random.Intn(9), int64(i)))
		}
		var r Reader
		var m model
		for left := stream.String(); left != ""; {
			n := min(len(left), random.Intn(1+random.Intn(1+random.Intn(3000))))
			feeds(t, "mixed", &r, &m, left[:n])
			left = left[n:]
		}
		feeds(t, "mixed", &r, &m, "")
		if r.Dead() {
			died++
		} else {
			lived++
		}
	}
	if died < 100 || lived < 100 {
		t.Error("died, lived:", died, lived)
	}
}

// P901: Readers know nothing of each other.
func TestReadersApart(t *testing.T) {
	var a, b, c Reader
	wants(t, &a, "\x00\x02x", nil, true, 3, false)
	wants(t, &b, "\x00\x00", nil, false, 0, true)
	wants(t, &c, "", nil, true, 0, false)
	wants(t, &a, "y", []string{"xy"}, true, 0, false)
	wants(t, &c, "\x00\x01z", []string{"z"}, true, 0, false)
}

// within tells whether a string lies in the memory of another.
func within(part, whole string) bool {
	if part == "" || whole == "" {
		return false
	}
	p, w := uintptr(unsafe.Pointer(unsafe.StringData(part))), uintptr(unsafe.Pointer(unsafe.StringData(whole)))
	return p >= w && p < w+uintptr(len(whole))
}

// P901: what is told shares no memory with what was given, nor with what is told beside it or later. The
// texts are long: short ones that don't outlive the test might be copied whatever Feed does with them.
func TestOwnMemory(t *testing.T) {
	text := mixed(300, 1)
	f := mustPut(t, text)
	if within(text, f) || within(f, text) {
		t.Error("Put: shared")
	}
	first, second, third := mixed(300, 1), mixed(400, 2), mixed(500, 3)
	stream := mustPut(t, first) + mustPut(t, second) + mustPut(t, third)
	var r Reader
	frames, is := r.Feed(stream[:1000])
	if !slices.Equal(frames, []string{first, second}) || !is {
		t.Fatal(len(frames), is)
	}
	if within(frames[0], stream) || within(frames[1], stream) || within(r.rest, stream) {
		t.Error("a piece of what was fed")
	}
	// Pieces of one memory would lie as far from each other as they do in the stream.
	at := func(s string) uintptr { return uintptr(unsafe.Pointer(unsafe.StringData(s))) }
	if at(frames[1])-at(frames[0]) == 302 || at(r.rest)-at(frames[1]) == 400 {
		t.Error("pieces of one memory")
	}
	frames[0], frames[1] = "changed", "changed"
	_ = append(frames[:0], "changed")
	wants(t, &r, stream[1000:], []string{third}, true, 0, false)
}

// P901: a Reader holds no more than what waits.
func TestHoldsTheRest(t *testing.T) {
	var r Reader
	wants(t, &r, mustPut(t, "abc")+"\x00\x02x", []string{"abc"}, true, 3, false)
	if r.rest != "\x00\x02x" {
		t.Errorf("%q", r.rest)
	}
	r.Feed("y\x00\x00\x00\x01z")
	if r.rest != "" || !r.dead {
		t.Errorf("%q, %t", r.rest, r.dead)
	}
}

// P901: how many frames came, over all Feeds.
func TestCounts(t *testing.T) {
	var r Reader
	for i, c := range []struct {
		b    string
		came int64
	}{{"", 0}, {"\x00\x01", 0}, {"a", 1}, {"\x00\x01b\x00\x01c\x00", 3}, {"\x01", 3}, {"d\x00\x01e\x00\x00\x00\x01f", 5}, {"\x00\x01g", 5}} {
		r.Feed(c.b)
		if r.came.Load() != c.came {
			t.Errorf("%d: %d came, not %d", i, r.came.Load(), c.came)
		}
	}
}

// P901: Readers that are fed at the same time, each by its own, tell what they tell alone.
func TestAtTheSameTime(t *testing.T) {
	var all sync.WaitGroup
	for worker := range 8 {
		all.Go(func() {
			var r Reader
			for n := 1 + worker; n <= longest; n += 31 {
				b := mixed(n, int64(n))
				f, is := Put(b)
				got, alive := r.Feed(f)
				if !is || !alive || len(got) != 1 || got[0] != b {
					t.Errorf("%d bytes: %t, %t, %d frames", n, is, alive, len(got))
				}
			}
		})
	}
	all.Wait()
}
