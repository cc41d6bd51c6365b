package mac

import (
	"crypto/hmac"
	"crypto/sha256"
	"math/rand"
	"strings"
	"sync"
	"testing"

	"escutcheon/digest"
	"escutcheon/octet"
)

// model is the library's code of b under key.
func model(key, b string) string {
	h := hmac.New(sha256.New, []byte(key))
	h.Write([]byte(b))
	return string(h.Sum(nil))
}

// mixed is n bytes of all kinds, the same ones for the same n and seed.
func mixed(n int, seed int64) string {
	b := make([]byte, n)
	rand.New(rand.NewSource(seed)).Read(b)
	return string(b)
}

// turned is s with the bits of mask turned in its byte i.
func turned(s string, i int, mask byte) string {
	b := []byte(s)
	b[i] ^= mask
	return string(b)
}

// P301: the codes of RFC 4231, and that of the chapter.
func TestOfKnown(t *testing.T) {
	counted := ""
	for i := range 25 {
		counted += string([]byte{byte(i + 1)})
	}
	for _, c := range []struct{ key, b, want string }{
		{strings.Repeat("\x0b", 20), "Hi There", "b0344c61d8db38535ca8afceaf0bf12b881dc200c9833da726e9376c2e32cff7"},
		{"Jefe", "what do ya want for nothing?", "5bdcc146bf60754e6a042426089575c75a003f089d2739839dec58b964ec3843"},
		{strings.Repeat("\xaa", 20), strings.Repeat("\xdd", 50), "773ea91e36800e46854db8ebd09181a72959098b3ef8c122d9635514ced565fe"},
		{counted, strings.Repeat("\xcd", 50), "82558a389a443c0ea4cc819899f2083a85f0faa3e578f8077a2e3ff46729665b"},
		{strings.Repeat("\xaa", 131), "Test Using Larger Than Block-Size Key - Hash Key First", "60e431591ee0b67f0d8a26aacbf5b77f8e0bc6213728c5140546040f0ee37f54"},
		{strings.Repeat("\xaa", 131), "This is a test using a larger than block-size key and a larger than block-size data. The key needs to be hashed before being used by the HMAC algorithm.", "9b09ffa71b942fcb27635fbcd5b0e944bfdc63644f0713938a7f51535c3a35e2"},
		{"", "", "b613679a0814d9ec772f95d778c35fc5ff1697c493715653c6c712144292c5ad"},
	} {
		if got := octet.Hex(Of(c.key, c.b)); got != c.want {
			t.Errorf("Of(%.20q, %.20q): %s, not %s", c.key, c.b, got, c.want)
		}
	}
}

// P301: keys of every length around 64 bytes, texts of every length around the edges of blocks.
func TestOfLengths(t *testing.T) {
	for n := range 200 {
		for _, m := range []int{0, 1, 55, 56, 63, 64, 65, 200} {
			key, b := mixed(n, int64(n)), mixed(m, int64(m))
			got := Of(key, b)
			if len(got) != digest.Size {
				t.Fatalf("%d and %d bytes: a code of %d", n, m, len(got))
			}
			if want := model(key, b); got != want {
				t.Fatalf("%d and %d bytes: %x, not %x", n, m, got, want)
			}
		}
		if key, b := mixed(32, 5), mixed(n, int64(n)); Of(key, b) != model(key, b) {
			t.Fatalf("a text of %d bytes", n)
		}
	}
	for _, n := range []int{4096, 1<<16 + 1, 1 << 20} {
		if key := mixed(n, 1); Of(key, key) != model(key, key) {
			t.Errorf("a key and a text of %d bytes", n)
		}
	}
}

// P301: zero bytes fill up a key of at most 64 bytes; the digest stands for a longer one.
func TestOfFilled(t *testing.T) {
	for n := range 65 {
		key := strings.Repeat("k", n)
		if Of(key, "x") != Of(key+strings.Repeat("\x00", 64-n), "x") {
			t.Errorf("a key of %d bytes isn't filled with zeros", n)
		}
	}
	whole := mixed(64, 2)
	if Of(whole, "x") == Of(whole+"\x00", "x") || Of(whole, "x") == Of(digest.Sum(whole), "x") {
		t.Error("a key of 64 bytes isn't taken as it is")
	}
	for _, n := range []int{65, 66, 128, 1000} {
		key := mixed(n, 3)
		if Of(key, "x") != Of(digest.Sum(key), "x") {
			t.Errorf("a key of %d bytes", n)
		}
	}
}

// P301: where the key ends and the text begins counts, and the order of the two.
func TestOfParts(t *testing.T) {
	if Of("ab", "c") == Of("a", "bc") || Of("a", "b") == Of("b", "a") {
		t.Error("parts that flow together")
	}
}

// P301: strings of equal length, for each place of a difference and each bit of it.
func TestSamePlaces(t *testing.T) {
	for n := range 100 {
		s := mixed(n, int64(n))
		if !Same(s, string([]byte(s))) {
			t.Fatalf("%d bytes differ from themselves", n)
		}
		for i := range n {
			for bit := range 8 {
				other := turned(s, i, 1<<bit)
				if Same(s, other) || Same(other, s) {
					t.Fatalf("bit %d of byte %d of %d", bit, i, n)
				}
			}
		}
	}
}

// P301: lengths that differ, with the end missing or the start, with zero bytes at the end too.
func TestSameLengths(t *testing.T) {
	zeros := strings.Repeat("\x00", 300)
	for n := range 300 {
		s := mixed(300, 4)
		for _, c := range [][2]string{{s[:n], s}, {s[300-n:], s}, {zeros[:n], zeros}, {s + zeros[:n], s + zeros}} {
			if Same(c[0], c[1]) || Same(c[1], c[0]) {
				t.Fatalf("%d and %d bytes", len(c[0]), len(c[1]))
			}
		}
	}
	if !Same("", "") || Same("", "\x00") || Same("\x00", "") {
		t.Error("nothing and one byte")
	}
}

// P301: two differences don't cancel each other, however many and however alike they are.
func TestSameManyDifferences(t *testing.T) {
	for _, mask := range []byte{1, 2, 128, 255} {
		for n := 2; n <= 1024; n *= 2 {
			s := mixed(n, 6)
			other := []byte(s)
			for i := range other {
				other[i] ^= mask
			}
			if Same(s, string(other)) {
				t.Errorf("%d bytes, each with the bits %x turned", n, mask)
			}
		}
	}
	if Same("ab", "ba") || Same("aabb", "abab") {
		t.Error("the order of the bytes")
	}
}

// P301: all bytes are examined: the differences after the first one are found too.
func TestSameExaminesAll(t *testing.T) {
	for _, c := range []struct {
		a, b string
		want uint64
	}{
		{"", "", 0},
		{"abcd", "abcd", 0},
		{"\x01bcd", "\x00bcd", 1},
		{"\x01\x02\x04\x08", "\x00\x00\x00\x00", 15},
		{"\xff\xff\xff\xff", "\x00\x00\x00\x00", 4 * 255},
		{"", "\x00\x00\x00", 3 * 256},
		{"\x01\x05", "\x00", 1 + 256 + 5},
		{"\x00", "\x01\x05", 1 + 256 + 5},
	} {
		if got := difference(c.a, c.b); got != c.want {
			t.Errorf("%q and %q: %d, not %d", c.a, c.b, got, c.want)
		}
	}
}

// P301: Check of the right code, and of codes, keys and texts that are wrong in one bit or in length.
func TestCheck(t *testing.T) {
	for _, n := range []int{0, 1, 32, 64, 65, 100} {
		key, b := mixed(n, 7), mixed(n, 8)
		m := model(key, b)
		if !Check(key, b, m) {
			t.Fatalf("%d bytes: the right code", n)
		}
		for i := range 32 {
			for bit := range 8 {
				if Check(key, b, turned(m, i, 1<<bit)) {
					t.Fatalf("%d bytes: bit %d of byte %d of the code", n, bit, i)
				}
			}
			if Check(key, b, m[:i]) || Check(key, b, m[i+1:]) {
				t.Errorf("%d bytes: a piece of the code", n)
			}
		}
		for i := range n {
			if Check(turned(key, i, 1), b, m) || Check(key, turned(b, i, 1), m) {
				t.Fatalf("%d bytes: byte %d of the key or of the text", n, i)
			}
		}
		for _, wrong := range []string{"", m + "\x00", m + m, octet.Hex(m), model(key, b+"\x00"), model(key+"k", b)} {
			if Check(key, b, wrong) {
				t.Errorf("%d bytes: the code %x", n, wrong)
			}
		}
		if Check(key, b+"\x00", m) || Check(key+"k", b, m) {
			t.Errorf("%d bytes: more of the key or of the text", n)
		}
	}
	if Check("a", "b", model("b", "a")) {
		t.Error("key and text changed places")
	}
}

// P301: nothing is kept from call to call, so that many may call at a time.
func TestManyCall(t *testing.T) {
	var wait sync.WaitGroup
	right := make([]bool, 16)
	for i := range right {
		wait.Go(func() {
			key, b := mixed(8*i, int64(i)), mixed(100, int64(i))
			right[i] = Check(key, b, model(key, b)) && !Same(key+"a", key+"b")
		})
	}
	wait.Wait()
	for i, is := range right {
		if !is {
			t.Errorf("caller %d", i)
		}
	}
}

func BenchmarkOf(b *testing.B) {
	key, text := mixed(32, 1), mixed(64, 2)
	for b.Loop() {
		Of(key, text)
	}
}

func BenchmarkSame(b *testing.B) {
	text := mixed(32, 1)
	for b.Loop() {
		Same(text, text)
	}
}
