package pad

import (
	"math"
	"math/rand"
	"slices"
	"strings"
	"sync"
	"testing"
	"unsafe"
)

// wantSizes are the four lengths of the document.
func wantSizes() []int { return []int{32, 128, 512, 2048} }

// longest is the most bytes that have a Pad.
const longest = 2046

// mixed is n bytes of all kinds, the same ones for the same n and seed.
func mixed(n int, seed int64) string {
	b := make([]byte, n)
	rand.New(rand.NewSource(seed)).Read(b)
	return string(b)
}

func zeros(n int) string { return strings.Repeat("\x00", n) }

// modelSize is the size by the document's words, in numbers that don't wrap round.
func modelSize(n int) (int, bool) {
	switch {
	case n < 0:
		return 0, false
	case n <= 30:
		return 32, true
	case n <= 126:
		return 128, true
	case n <= 510:
		return 512, true
	case n <= 2046:
		return 2048, true
	}
	return 0, false
}

// modelPad is the Pad by the document's words, byte by byte.
func modelPad(b string) (string, bool) {
	size, is := modelSize(len(b))
	if !is {
		return "", false
	}
	out := make([]byte, size)
	out[0], out[1] = byte(len(b)/256), byte(len(b)%256)
	for i := range len(b) {
		out[2+i] = b[i]
	}
	return string(out), true
}

// modelUnpad is the text whose Pad b is: only the first bytes after the length can be that text.
func modelUnpad(b string) (string, bool) {
	if len(b) < 2 {
		return "", false
	}
	n := 256*int(b[0]) + int(b[1])
	if n > len(b)-2 {
		return "", false
	}
	text := b[2 : 2+n]
	if again, is := modelPad(text); !is || again != b {
		return "", false
	}
	return text, true
}

// mustPad is a Pad that may not be refused.
func mustPad(t *testing.T, text string) string {
	t.Helper()
	b, is := Pad(text)
	if !is {
		t.Fatalf("Pad of %d bytes: false", len(text))
	}
	return b
}

// unpads holds what Unpad tells against the text.
func unpads(t *testing.T, what, b, text string) {
	t.Helper()
	if got, is := Unpad(b); got != text || !is {
		t.Errorf("%s: Unpad of %d bytes: %.60q, %t, not %.60q", what, len(b), got, is, text)
	}
}

// refuses wants Unpad to tell false, with no bytes beside it.
func refuses(t *testing.T, what, b string) {
	t.Helper()
	if got, is := Unpad(b); got != "" || is {
		t.Errorf("%s: Unpad of %d bytes: %.60q, %t", what, len(b), got, is)
	}
}

// asModel holds what Unpad tells against the model.
func asModel(t *testing.T, what, b string) {
	t.Helper()
	text, right := modelUnpad(b)
	if got, is := Unpad(b); got != text || is != right {
		t.Errorf("%s: Unpad of %d bytes: %.60q, %t, not %.60q, %t", what, len(b), got, is, text, right)
	}
}

// P801: the sizes, in their order, and in memory of their own each time.
func TestSizes(t *testing.T) {
	first, second := Sizes(), Sizes()
	if !slices.Equal(first, wantSizes()) || !slices.Equal(second, wantSizes()) {
		t.Fatal(first, second)
	}
	for i := range first {
		first[i] = -1
	}
	first = append(first[:0], 5, 6, 7)
	if !slices.Equal(second, wantSizes()) || !slices.Equal(Sizes(), wantSizes()) {
		t.Error(first, second, Sizes())
	}
	if size, is := Size(3); size != 32 || !is {
		t.Error("Size(3) after a list was changed:", size, is)
	}
	if b, is := Pad("abc"); len(b) != 32 || !is {
		t.Error("Pad after a list was changed:", len(b), is)
	}
}

// P801: each number around the sizes, and those at the ends of the ints.
func TestSize(t *testing.T) {
	numbers := []int{math.MaxInt, math.MaxInt - 1, math.MaxInt - 2, math.MaxInt - 3, math.MinInt, math.MinInt + 1,
		math.MinInt + 2, math.MaxInt32, math.MinInt32, 1 << 16, 1<<16 + 5, 1 << 32, 1<<32 + 5, -1 << 32, 1<<62 + 5}
	for n := -3000; n <= 70000; n++ {
		numbers = append(numbers, n)
	}
	for _, n := range numbers {
		want, right := modelSize(n)
		if size, is := Size(n); size != want || is != right {
			t.Errorf("Size(%d): %d, %t, not %d, %t", n, size, is, want, right)
		}
	}
}

// P801: a size that Size tells is one of Sizes, has room for two bytes more, and the one before it has not.
func TestSizeIsLeast(t *testing.T) {
	all := Sizes()
	for n := 0; n <= longest; n++ {
		size, is := Size(n)
		at := slices.Index(all, size)
		if !is || at < 0 || size < n+2 || at > 0 && all[at-1] >= n+2 {
			t.Errorf("Size(%d): %d, %t", n, size, is)
		}
	}
}

// P801: the document's example, and what the bytes ahead of a text tell.
func TestPadKnown(t *testing.T) {
	for _, c := range []struct{ text, head string }{
		{"", "\x00\x00"},
		{"ab", "\x00\x02ab"},
		{"\x00", "\x00\x01"},
		{"\x00\x02", "\x00\x02\x00\x02"},
		{"\xff\xff", "\x00\x02\xff\xff"},
		{"\u00e9", "\x00\x02\xc3\xa9"}, // bytes count, not runes
		{strings.Repeat("t", 30), "\x00\x1e" + strings.Repeat("t", 30)},
		{strings.Repeat("t", 31), "\x00\x1f" + strings.Repeat("t", 31)},
		{strings.Repeat("t", 255), "\x00\xfftt"},
		{strings.Repeat("t", 256), "\x01\x00tt"},
		{strings.Repeat("t", 257), "\x01\x01tt"},
		{strings.Repeat("t", longest), "\x07\xfett"},
	} {
		b := mustPad(t, c.text)
		if !strings.HasPrefix(b, c.head) || !slices.Contains(wantSizes(), len(b)) {
			t.Errorf("Pad of %d bytes: %d bytes %.40q", len(c.text), len(b), b)
		}
		unpads(t, "known", b, c.text)
	}
	if b := mustPad(t, "ab"); b != "\x00\x02ab"+zeros(28) {
		t.Errorf("example: %q", b)
	}
}

// P801: texts of each length, of all bytes, of zero bytes only (which look like those that fill) and of
// the greatest byte only.
func TestEachLength(t *testing.T) {
	for n := 0; n <= longest; n++ {
		for _, text := range []string{mixed(n, int64(n)), zeros(n), strings.Repeat("\xff", n)} {
			b := mustPad(t, text)
			if want, _ := modelPad(text); b != want {
				t.Fatalf("Pad of %d bytes: %d bytes %.40x", n, len(b), b)
			}
			unpads(t, "each length", b, text)
			if again := mustPad(t, text); again != b {
				t.Fatalf("Pad of %d bytes: %.40x, then %.40x", n, b, again)
			}
		}
	}
}

// P801: texts that are too long, those too whose length would fit again if two bytes cut it.
func TestPadTooLong(t *testing.T) {
	for _, n := range []int{longest + 1, longest + 2, longest + 3, 4096, 8190, 8192, 65535, 65536, 65537, 65566, 131072, 1 << 20} {
		if b, is := Pad(zeros(n)); b != "" || is {
			t.Errorf("Pad of %d bytes: %d bytes, %t", n, len(b), is)
		}
	}
}

// P801: what has none of the four lengths is no Pad, whatever it says.
func TestUnpadOtherLengths(t *testing.T) {
	for n := range 2200 {
		if slices.Contains(wantSizes(), n) {
			continue
		}
		refuses(t, "zeros", zeros(n))
		refuses(t, "ones", strings.Repeat("\xff", n))
		if n >= 2 {
			text := strings.Repeat("t", n-2)
			refuses(t, "no room left", string([]byte{byte(len(text) / 256), byte(len(text))})+text)
		}
	}
	for _, n := range []int{4096, 8192, 65535, 65536, 65568, 1 << 20} {
		refuses(t, "long", zeros(n))
		refuses(t, "long", "\x00\x02ab"+zeros(n-4))
	}
}

// P801: each length that two bytes can tell, in each of the sizes.
func TestUnpadEachClaim(t *testing.T) {
	for _, size := range wantSizes() {
		for claim := range 1 << 16 {
			b := string([]byte{byte(claim >> 8), byte(claim)}) + zeros(size-2)
			want, right := modelSize(claim)
			right = right && want == size
			got, is := Unpad(b)
			if is != right || is && got != zeros(claim) || !is && got != "" {
				t.Fatalf("%d bytes that claim %d: %d bytes, %t", size, claim, len(got), is)
			}
		}
	}
}

// changes are what a byte is changed by: all there are, or some where a Pad is long, since each of its
// bytes is changed by each.
func changes(size int) []byte {
	if size > 128 {
		return []byte{1, 32, 128, 255}
	}
	all := make([]byte, 255)
	for i := range all {
		all[i] = byte(i + 1)
	}
	return all
}

// P801: the bytes after the text are zero, each of them; of those in it none is refused.
func TestUnpadEachByte(t *testing.T) {
	for _, n := range []int{0, 1, 2, 15, 28, 29, 30, 31, 100, 125, 126, 127, 300, 509, 510, 511, 1000, 2045, 2046} {
		text := mixed(n, int64(n))
		b := []byte(mustPad(t, text))
		for i := 2; i < len(b); i++ {
			was := b[i]
			for _, by := range changes(len(b)) {
				b[i] = was ^ by
				if i >= 2+n {
					refuses(t, "filled with another byte", string(b))
				} else {
					unpads(t, "another byte of the text", string(b), string(b[2:2+n]))
				}
			}
			b[i] = was
		}
	}
}

// P801: each bit of a Pad, its length too.
func TestUnpadEachBit(t *testing.T) {
	for _, text := range []string{"", "a", "ab\x00", zeros(30), zeros(31), mixed(30, 1), mixed(100, 2), mixed(126, 3), mixed(510, 4), zeros(2046)} {
		b := []byte(mustPad(t, text))
		for bit := range 8 * len(b) {
			b[bit/8] ^= 1 << (bit % 8)
			asModel(t, "one bit", string(b))
			b[bit/8] ^= 1 << (bit % 8)
		}
	}
}

// P801: a text in another size than its own is no Pad of it.
func TestUnpadOtherSizes(t *testing.T) {
	for _, n := range []int{0, 1, 29, 30, 31, 125, 126, 127, 509, 510, 511, 2045, 2046} {
		text := strings.Repeat("t", n)
		own := mustPad(t, text)
		for _, size := range wantSizes() {
			switch {
			case size > len(own):
				refuses(t, "a greater size", own+zeros(size-len(own)))
			case size < len(own):
				refuses(t, "a lesser size", own[:size])
			}
		}
	}
}

// P801: cut and grown Pads.
func TestUnpadCutAndGrown(t *testing.T) {
	for _, n := range []int{0, 2, 30, 31, 126, 200, 600} {
		b := mustPad(t, mixed(n, int64(n)))
		for end := range len(b) {
			refuses(t, "cut at its end", b[:end])
		}
		for begin := 1; begin <= len(b); begin++ {
			asModel(t, "cut at its beginning", b[begin:])
		}
		for _, more := range []string{"\x00", "\x00\x00", "x", b} {
			refuses(t, "grown", b+more)
			asModel(t, "grown ahead", more+b)
		}
	}
}

// P801: bytes of all kinds, with lengths ahead of them that may fit.
func TestUnpadMixed(t *testing.T) {
	r := rand.New(rand.NewSource(8))
	taken := 0
	for i := range 20000 {
		size := wantSizes()[r.Intn(4)]
		n := r.Intn(size + 3)
		b := []byte(string([]byte{byte(n / 256), byte(n)}) + mixed(size-2, int64(i)))
		if r.Intn(2) == 0 {
			clear(b[min(2+n, size):])
		}
		asModel(t, "mixed", string(b))
		if _, is := Unpad(string(b)); is {
			taken++
		}
	}
	if taken < 1000 {
		t.Error("too few that are a Pad:", taken)
	}
}

// P801: two texts have two Pads, even where one goes on with zero bytes.
func TestPadsDiffer(t *testing.T) {
	of := map[string]int{}
	for n := 0; n <= longest; n++ {
		b := mustPad(t, zeros(n))
		if before, is := of[b]; is {
			t.Fatalf("%d and %d zero bytes have one Pad", before, n)
		}
		of[b] = n
	}
	if mustPad(t, "a") == mustPad(t, "b") || mustPad(t, "a") == mustPad(t, "a\x00") {
		t.Error("two texts have one Pad")
	}
}

// P801: the Pad of a Pad, and back again.
func TestPadOfPad(t *testing.T) {
	text := "twice"
	b := mustPad(t, mustPad(t, text))
	if len(b) != 128 {
		t.Fatal(len(b))
	}
	inner, is := Unpad(b)
	if !is {
		t.Fatal("outer")
	}
	unpads(t, "inner", inner, text)
}

// within tells whether a string lies in the memory of another.
func within(part, whole string) bool {
	if part == "" || whole == "" {
		return false
	}
	p, w := uintptr(unsafe.Pointer(unsafe.StringData(part))), uintptr(unsafe.Pointer(unsafe.StringData(whole)))
	return p >= w && p < w+uintptr(len(whole))
}

// P801: what is told shares no memory with what was given.
func TestOwnMemory(t *testing.T) {
	for _, n := range []int{1, 30, 31, 126, 510, 2046} {
		text := mixed(n, int64(n))
		b := mustPad(t, text)
		back, is := Unpad(b)
		again, _ := Unpad(b)
		if !is || within(text, b) || within(b, text) || within(back, b) || within(back, again) {
			t.Errorf("%d bytes: shared", n)
		}
	}
}

// P801: calls at the same time tell what they tell alone.
func TestAtTheSameTime(t *testing.T) {
	var all sync.WaitGroup
	for worker := range 8 {
		all.Go(func() {
			for n := worker; n <= longest; n += 7 {
				text := mixed(n, int64(n))
				want, _ := modelPad(text)
				if b, is := Pad(text); b != want || !is {
					t.Errorf("Pad of %d bytes: %d bytes, %t", n, len(b), is)
				}
				unpads(t, "at the same time", want, text)
				if !slices.Equal(Sizes(), wantSizes()) {
					t.Error(Sizes())
				}
			}
		})
	}
	all.Wait()
}
