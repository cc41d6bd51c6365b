package derive

import (
	"crypto/hkdf"
	"crypto/sha256"
	"math"
	"math/rand"
	"strings"
	"sync"
	"testing"

	"escutcheon/mac"
	"escutcheon/octet"
)

// modelExtract is the library's Extract.
func modelExtract(t *testing.T, salt, secret string) string {
	t.Helper()
	key, err := hkdf.Extract(sha256.New, []byte(secret), []byte(salt))
	if err != nil {
		t.Fatal(err)
	}
	return string(key)
}

// modelExpand is the library's Expand.
func modelExpand(t *testing.T, key, info string, n int) string {
	t.Helper()
	out, err := hkdf.Expand(sha256.New, []byte(key), info, n)
	if err != nil {
		t.Fatal(err)
	}
	return string(out)
}

// mixed is n bytes of all kinds, the same ones for the same n and seed.
func mixed(n int, seed int64) string {
	b := make([]byte, n)
	rand.New(rand.NewSource(seed)).Read(b)
	return string(b)
}

// counted is the bytes from first to last, one after the other.
func counted(first, last int) string {
	var b []byte
	for i := first; i <= last; i++ {
		b = append(b, byte(i))
	}
	return string(b)
}

// P401: the cases of RFC 5869 with SHA-256.
func TestKnown(t *testing.T) {
	for _, c := range []struct {
		secret, salt, info string
		n                  int
		key, out           string
	}{
		{
			strings.Repeat("\x0b", 22), counted(0x00, 0x0c), counted(0xf0, 0xf9), 42,
			"077709362c2e32df0ddc3f0dc47bba6390b6c73bb50f9c3122ec844ad7c2b3e5",
			"3cb25f25faacd57a90434f64d0362f2a2d2d0a90cf1a5a4c5db02d56ecc4c5bf34007208d5b887185865",
		},
		{
			counted(0x00, 0x4f), counted(0x60, 0xaf), counted(0xb0, 0xff), 82,
			"06a6b88c5853361a06104c9ceb35b45cef760014904671014a193f40c15fc244",
			"b11e398dc80327a1c8e7f78c596a49344f012eda2d4efad8a050cc4c19afa97c" +
				"59045a99cac7827271cb41c65e590e09da3275600c2f09b8367793a9aca3db71" +
				"cc30c58179ec3e87c14c01d5c1f3434f1d87",
		},
		{
			strings.Repeat("\x0b", 22), "", "", 42,
			"19ef24a32c717b167f33a91d6f648bdf96596776afdb6377ac434c1c293ccb04",
			"8da4e775a563c18f715f802a063c5a31b8a11f5c5ee1879ec3454e5f3c738d2d9d201395faa4b61a96c8",
		},
	} {
		key := Extract(c.salt, c.secret)
		if got := octet.Hex(key); got != c.key {
			t.Errorf("Extract(%q, %q): %s, not %s", c.salt, c.secret, got, c.key)
		}
		out, is := Expand(key, c.info, c.n)
		if got := octet.Hex(out); got != c.out || !is {
			t.Errorf("Expand(%x, %q, %d): %s, %t, not %s", key, c.info, c.n, got, is, c.out)
		}
		if got := octet.Hex(Key(c.secret, c.salt, c.info)); got != c.out[:64] {
			t.Errorf("Key(%q, %q, %q): %s, not %s", c.secret, c.salt, c.info, got, c.out[:64])
		}
	}
}

// P401: salts and secrets of every length around the block of the digest.
func TestExtractLengths(t *testing.T) {
	for n := range 140 {
		for _, m := range []int{0, 1, 31, 32, 33, 63, 64, 65, 500} {
			salt, secret := mixed(n, int64(n)), mixed(m, int64(m))
			got := Extract(salt, secret)
			if len(got) != 32 {
				t.Fatalf("a salt of %d, a secret of %d: a key of %d", n, m, len(got))
			}
			if want := modelExtract(t, salt, secret); got != want || got != Extract(salt, secret) {
				t.Fatalf("a salt of %d, a secret of %d: %x, not %x", n, m, got, want)
			}
			if n > 0 && got != mac.Of(salt, secret) {
				t.Fatalf("a salt of %d, a secret of %d: not the mac", n, m)
			}
		}
	}
}

// P401: an empty salt stands for 32 zero bytes, and no other salt does; the salt is the key of the
// mac, not its text.
func TestExtractSalt(t *testing.T) {
	zeros := strings.Repeat("\x00", 32)
	for _, secret := range []string{"", "s", mixed(100, 1)} {
		if Extract("", secret) != mac.Of(zeros, secret) {
			t.Errorf("no salt, the secret %.10q", secret)
		}
		for _, salt := range []string{"0", "\x01", zeros + "\x01", strings.Repeat("0", 32)} {
			if Extract(salt, secret) == Extract("", secret) {
				t.Errorf("the salt %q is as good as none", salt)
			}
		}
	}
	if Extract("a", "b") == Extract("b", "a") || Extract("ab", "c") == Extract("a", "bc") {
		t.Error("salt and secret flow together or change places")
	}
}

// P401: Expand of all lengths up to some parts, then of those around the edges of each part.
func TestExpandLengths(t *testing.T) {
	key, info := mixed(32, 1), mixed(10, 2)
	lengths := map[int]bool{}
	for n := range 200 {
		lengths[n] = true
	}
	for part := 1; part <= 255; part++ {
		for _, n := range []int{32*part - 1, 32 * part, 32*part + 1} {
			lengths[n] = n <= Most
		}
	}
	all := modelExpand(t, key, info, Most)
	for n, may := range lengths {
		if !may {
			continue
		}
		out, is := Expand(key, info, n)
		if !is || out != all[:n] {
			t.Fatalf("%d bytes: %d bytes that begin with %.8x, %t", n, len(out), out, is)
		}
	}
}

// P401: nothing is expanded of a length below 0 or past Most, and one of 0 is no error.
func TestExpandEdges(t *testing.T) {
	if Most != 8160 {
		t.Errorf("Most is %d", Most)
	}
	for _, key := range []string{"", "k", mixed(100, 3)} {
		for _, n := range []int{-1, -32, -Most, math.MinInt, Most + 1, Most + 32, 1 << 31, math.MaxInt} {
			if out, is := Expand(key, "i", n); out != "" || is {
				t.Errorf("%d bytes: %d bytes, %t", n, len(out), is)
			}
		}
		if out, is := Expand(key, "i", 0); out != "" || !is {
			t.Errorf("0 bytes: %q, %t", out, is)
		}
		if out, is := Expand(key, "i", Most); len(out) != Most || !is {
			t.Errorf("Most: %d bytes, %t", len(out), is)
		}
	}
}

// P401: each part is the mac of the one before it, the info and its number, the last one too.
func TestExpandParts(t *testing.T) {
	for _, info := range []string{"", "i", mixed(70, 4)} {
		key := mixed(32, 5)
		out, _ := Expand(key, info, Most)
		last := ""
		for i := 1; i <= 255; i++ {
			part := out[32*(i-1) : 32*i]
			if part != mac.Of(key, last+info+string([]byte{byte(i)})) {
				t.Fatalf("an info of %d bytes: part %d", len(info), i)
			}
			last = part
		}
	}
}

// P401: keys and infos of many lengths, empty ones and ones longer than a block among them.
func TestExpandInputs(t *testing.T) {
	lengths := []int{0, 1, 31, 32, 33, 63, 64, 65, 200, 5000}
	for _, n := range lengths {
		for _, m := range lengths {
			key, info := mixed(n, int64(n)), mixed(m, int64(m))
			out, is := Expand(key, info, 100)
			if want := modelExpand(t, key, info, 100); !is || out != want {
				t.Errorf("a key of %d, an info of %d: %.8x, not %.8x", n, m, out, want)
			}
		}
	}
	one, _ := Expand("ab", "c", 32)
	other, _ := Expand("a", "bc", 32)
	if turned, _ := Expand("c", "ab", 32); one == other || one == turned {
		t.Error("key and info flow together or change places")
	}
}

// P401: Key is Extract and then Expand, with each of its arguments in its own place.
func TestKey(t *testing.T) {
	lengths := []int{0, 1, 32, 64, 65, 300}
	for _, n := range lengths {
		for _, m := range lengths {
			for _, o := range lengths {
				secret, salt, info := mixed(n, 6), mixed(m, 7), mixed(o, 8)
				want := modelExpand(t, modelExtract(t, salt, secret), info, 32)
				if got := Key(secret, salt, info); got != want {
					t.Fatalf("%d, %d and %d bytes: %x, not %x", n, m, o, got, want)
				}
			}
		}
	}
	seen := map[string]string{}
	for _, c := range [][3]string{
		{"a", "b", "c"}, {"a", "c", "b"}, {"b", "a", "c"}, {"b", "c", "a"}, {"c", "a", "b"}, {"c", "b", "a"},
		{"", "b", "c"}, {"a", "", "c"}, {"a", "b", ""}, {"ab", "", "c"}, {"a", "bc", ""}, {"a", "", "bc"},
	} {
		key := Key(c[0], c[1], c[2])
		if before, is := seen[key]; is {
			t.Errorf("%q has the key of %s", c, before)
		}
		seen[key] = strings.Join(c[:], ", ")
	}
}

// P401: nothing is kept from call to call, so that many may call at a time.
func TestManyCall(t *testing.T) {
	want := make([]string, 16)
	for i := range want {
		want[i] = modelExpand(t, modelExtract(t, mixed(i, 9), mixed(8*i, 10)), "info", 32)
	}
	got := make([]string, len(want))
	var wait sync.WaitGroup
	for i := range got {
		wait.Go(func() { got[i] = Key(mixed(8*i, 10), mixed(i, 9), "info") })
	}
	wait.Wait()
	for i := range got {
		if got[i] != want[i] {
			t.Errorf("caller %d", i)
		}
	}
}

func BenchmarkKey(b *testing.B) {
	secret, salt := mixed(32, 1), mixed(32, 2)
	for b.Loop() {
		Key(secret, salt, "info")
	}
}

func BenchmarkExpandMost(b *testing.B) {
	key := mixed(32, 1)
	for b.Loop() {
		Expand(key, "info", Most)
	}
}
