package box

import (
	"math/rand"
	"strings"
	"sync"
	"testing"

	"escutcheon/digest"
	"escutcheon/octet"
	"escutcheon/onetime"
	"escutcheon/stream"
)

// mixed is n bytes of all kinds, the same ones for the same n and seed.
func mixed(n int, seed int64) string {
	b := make([]byte, n)
	rand.New(rand.NewSource(seed)).Read(b)
	return string(b)
}

// counted is n bytes of which each is by 7 more than the one before it.
func counted(n int, first byte) string {
	b := make([]byte, n)
	for i := range b {
		b[i] = first + byte(7*i)
	}
	return string(b)
}

func zeros(n int) string { return strings.Repeat("\x00", n) }

func ones(n int) string { return strings.Repeat("\xff", n) }

func un(t *testing.T, s string) string {
	t.Helper()
	b, is := octet.Unhex(s)
	if !is {
		t.Fatal(s)
	}
	return b
}

// flipped is b with one bit changed.
func flipped(b string, bit int) string {
	out := []byte(b)
	out[bit/8] ^= 1 << (bit % 8)
	return string(out)
}

// modelTag is the tag of a ciphertext by the document's words, one part after the other.
func modelTag(key, nonce, hidden, more string) string {
	fill := func(n int) string { return zeros((16 - n%16) % 16) }
	block, _ := stream.Block(key, 0, nonce)
	tag, _ := onetime.Tag(block[:32], more+fill(len(more))+hidden+fill(len(hidden))+
		octet.PutLittle(uint64(len(more)), 8)+octet.PutLittle(uint64(len(hidden)), 8))
	return tag
}

// modelSeal is the seal by the document's words.
func modelSeal(key, nonce, plain, more string) string {
	hidden, _ := stream.Xor(key, 1, nonce, plain)
	return hidden + modelTag(key, nonce, hidden, more)
}

// mustSeal is a seal that may not be refused.
func mustSeal(t *testing.T, key, nonce, plain, more string) string {
	t.Helper()
	b, is := Seal(key, nonce, plain, more)
	if !is || len(b) != len(plain)+Over {
		t.Fatalf("Seal of %d bytes, %d more: %d bytes, %t", len(plain), len(more), len(b), is)
	}
	return b
}

// opens holds what Open tells against the plaintext.
func opens(t *testing.T, key, nonce, b, more, plain string) {
	t.Helper()
	if got, is := Open(key, nonce, b, more); got != plain || !is {
		t.Fatalf("Open of %d bytes, %d more: %.100x, %t, not %.100x", len(b), len(more), got, is, plain)
	}
}

// refuses wants Open to tell false, with no bytes beside it.
func refuses(t *testing.T, what string, key, nonce, b, more string) {
	t.Helper()
	if got, is := Open(key, nonce, b, more); got != "" || is {
		t.Errorf("%s: Open of %d bytes, %d more: %.100x, %t", what, len(b), len(more), got, is)
	}
}

// known is a seal that others have worked out.
type known struct{ key, nonce, plain, more, seal string }

// rfcSeals are those of RFC 8439 (2.8.2 and A.5).
func rfcSeals(t *testing.T) []known {
	return []known{
		{
			un(t, "808182838485868788898a8b8c8d8e8f909192939495969798999a9b9c9d9e9f"),
			un(t, "070000004041424344454647"),
			"Ladies and Gentlemen of the class of '99: If I could offer you only one tip for the future, sunscreen would be it.",
			un(t, "50515253c0c1c2c3c4c5c6c7"),
			"d31a8d34648e60db7b86afbc53ef7ec2a4aded51296e08fea9e2b5a736ee62d63dbea45e8ca9671282fafb69da92728b1a71de0a9e060b2905d6a5b67ecd3b3692ddbd7f2d778b8c9803aee328091b58fab324e4fad675945585808b4831d7bc3ff4def08e4b7a9de576d26586cec64b61161ae10b594f09e26a7e902ecbd0600691",
		},
		{
			un(t, "1c9240a5eb55d38af333888604f6b5f0473917c1402b80099dca5cbc207075c0"),
			un(t, "000000000102030405060708"),
			"Internet-Drafts are draft documents valid for a maximum of six months and may be updated, replaced, or obsoleted by other documents at any time. It is inappropriate to use Internet-Drafts as reference material or to cite them other than as /\u201cwork in progress./\u201d",
			un(t, "f33388860000000000004e91"),
			"64a0861575861af460f062c79be643bd5e805cfd345cf389f108670ac76c8cb24c6cfc18755d43eea09ee94e382d26b0bdb7b73c321b0100d4f03b7f355894cf332f830e710b97ce98c8a84abd0b948114ad176e008d33bd60f982b1ff37c8559797a06ef4f0ef61c186324e2b3506383606907b6a7c02b0f9f6157b53c867e4b9166c767b804d46a59b5216cde7a4e99040c5a40433225ee282a1b0a06c523eaf4534d7f83fa1155b0047718cbc546a0d072b04b3564eea1b422273f548271a0bb2316053fa76991955ebd63159434ecebb4e466dae5a1073a6727627097a1049e617d91d361094fa68f0ff77987130305beaba2eda04df997b714d6c6f2c29a6ad5cb4022b02709beead9d67890cbb22392336fea1851f38",
		},
	}
}

// shortSeals were worked out by another program: lengths of plaintext and additional data around the
// groups and the blocks.
func shortSeals() []known {
	key, nonce := counted(32, 1), counted(12, 2)
	of := func(n, more int, seal string) known {
		return known{key, nonce, counted(n, 3), counted(more, 4), seal}
	}
	return []known{
		of(0, 0, "ca311ec699ddf13359f35fd7cc3eeb22"),
		of(1, 0, "109236a2d50fd8cacd6ec774c655761243"),
		of(0, 1, "5017f09ad6f04acc26ee4e140022df7f"),
		of(15, 16, "10da30b9a3811551f0b731e5b9c51f7c184768fce2663e8eb0d6c5af7daae7"),
		of(16, 15, "10da30b9a3811551f0b731e5b9c51f70c750336e0b8bd5aac1375e39ba2aeadc"),
		of(16, 16, "10da30b9a3811551f0b731e5b9c51f70d18f932aad9b22c7aa91c9792c368463"),
		of(17, 17, "10da30b9a3811551f0b731e5b9c51f700678be258d46e2bcf3b1aeb34ef3fed8d9"),
		of(64, 32, "10da30b9a3811551f0b731e5b9c51f7006b757d8d9f43e43467553fc5945b1746b222670bc9d3f96180fc7333f0827ddba664373006502b42a96fa25c0b11f09dfd5abc95e7037a049b794414a318e04"),
		of(65, 1, "10da30b9a3811551f0b731e5b9c51f7006b757d8d9f43e43467553fc5945b1746b222670bc9d3f96180fc7333f0827ddba664373006502b42a96fa25c0b11f0953d1ee0d0bf3a54e2e62ed6d1b148fd01a"),
	}
}

// P701: seals that others have worked out, and what they open to.
func TestKnown(t *testing.T) {
	for i, c := range append(rfcSeals(t), shortSeals()...) {
		got, is := Seal(c.key, c.nonce, c.plain, c.more)
		if octet.Hex(got) != c.seal || !is {
			t.Errorf("seal %d: %x, %t, not %s", i, got, is, c.seal)
		}
		opens(t, c.key, c.nonce, un(t, c.seal), c.more, c.plain)
	}
}

// P701: all lengths around the groups and the blocks, and long ones: the digests of all seals, one
// after the other, were worked out by another program.
func TestKnownLengths(t *testing.T) {
	key, nonce := counted(32, 1), counted(12, 2)
	var all, long digest.Digest
	for n := range 150 {
		for more := range 50 {
			all.Add(mustSeal(t, key, nonce, counted(n, 3), counted(more, 4)))
		}
	}
	if got := octet.Hex(all.Sum()); got != "686baa40d1c9fd88a299794326cc2ef73958f1b346e378016cb26564cd6fd60c" {
		t.Error("all lengths:", got)
	}
	for _, n := range []int{1023, 1024, 2046, 2048, 65535, 65536, 100001} {
		long.Add(mustSeal(t, key, nonce, counted(n, 3), counted(n+1, 4)))
	}
	if got := octet.Hex(long.Sum()); got != "5f441c3a766e760581ccc7ce1aaa566e12f2b2b3b1313a3f1fc0a9b04e5c6142" {
		t.Error("long ones:", got)
	}
}

// P701, P702: seals are those of the document's words, open to what was sealed, and are the same ones
// each time, whatever was sealed and opened between.
func TestSealAndOpen(t *testing.T) {
	if Over != 16 {
		t.Error("Over:", Over)
	}
	for n := range 140 {
		for _, m := range []int{0, 1, 15, 16, 17, 31, 32, 33, 100, n} {
			seed := int64(1000*n + m)
			key, nonce, plain, more := mixed(32, seed), mixed(12, seed+1), mixed(n, seed+2), mixed(m, seed+3)
			b := mustSeal(t, key, nonce, plain, more)
			if b != modelSeal(key, nonce, plain, more) {
				t.Fatalf("%d bytes, %d more: %x", n, m, b)
			}
			opens(t, key, nonce, b, more, plain)
			opens(t, key, nonce, b, more, plain)
			if again := mustSeal(t, key, nonce, plain, more); again != b {
				t.Fatalf("%d bytes, %d more: %x, then %x", n, m, b, again)
			}
		}
	}
}

// P701, P702: keys, nonces and texts of one byte only.
func TestEdgeBytes(t *testing.T) {
	for _, key := range []string{zeros(32), ones(32)} {
		for _, nonce := range []string{zeros(12), ones(12)} {
			for _, n := range []int{0, 1, 16, 48, 64, 65, 200} {
				for _, x := range []string{zeros(n), ones(n)} {
					b := mustSeal(t, key, nonce, x, x)
					if b != modelSeal(key, nonce, x, x) {
						t.Errorf("%d bytes %.1x under %.1x, %.1x: %x", n, x, key, nonce, b)
					}
					opens(t, key, nonce, b, x, x)
				}
			}
		}
	}
}

// P701: one bit changed, in the seal, the key, the nonce or the additional data, and nothing opens.
func TestBits(t *testing.T) {
	for _, n := range []int{0, 1, 16, 40, 65} {
		key, nonce, plain, more := mixed(32, 1), mixed(12, 2), mixed(n, 3), mixed(20, 4)
		b := mustSeal(t, key, nonce, plain, more)
		for i := range 8 * len(b) {
			refuses(t, "a seal's bit", key, nonce, flipped(b, i), more)
		}
		for i := range 8 * len(key) {
			refuses(t, "a key's bit", flipped(key, i), nonce, b, more)
		}
		for i := range 8 * len(nonce) {
			refuses(t, "a nonce's bit", key, flipped(nonce, i), b, more)
		}
		for i := range 8 * len(more) {
			refuses(t, "a bit of more", key, nonce, b, flipped(more, i))
		}
	}
}

// P701: two differences of a tag don't undo each other, and no byte of it is passed over.
func TestTags(t *testing.T) {
	key, nonce, plain, more := mixed(32, 5), mixed(12, 6), mixed(30, 7), "more"
	b := mustSeal(t, key, nonce, plain, more)
	hidden, tag := b[:len(plain)], b[len(plain):]
	for i := range 8 * Over {
		for k := range i {
			refuses(t, "two bits of a tag", key, nonce, hidden+flipped(flipped(tag, i), k), more)
		}
	}
	for i := range Over {
		refuses(t, "a longer tag", key, nonce, hidden+tag+tag[:i+1], more)
		refuses(t, "a short tag", key, nonce, hidden+tag[:i], more)
		refuses(t, "a tag behind", key, nonce, hidden+tag[:i]+zeros(Over-i), more)
		refuses(t, "a tag ahead", key, nonce, hidden+zeros(i+1)+tag[i+1:], more)
	}
	for i := 1; i < Over; i++ {
		refuses(t, "a turned tag", key, nonce, hidden+tag[i:]+tag[:i], more)
	}
	refuses(t, "a tag of zeros", key, nonce, hidden+zeros(Over), more)
	refuses(t, "a tag ahead of the text", key, nonce, tag+hidden, more)
	refuses(t, "an upright plaintext", key, nonce, plain+tag, more)
}

// P701: a seal cut, grown or put together with another isn't one.
func TestOtherLengths(t *testing.T) {
	key, nonce, more := mixed(32, 8), mixed(12, 9), mixed(16, 10)
	b := mustSeal(t, key, nonce, mixed(100, 11), more)
	for n := range b {
		refuses(t, "cut behind", key, nonce, b[:n], more)
		refuses(t, "cut ahead", key, nonce, b[n+1:], more)
		refuses(t, "grown behind", key, nonce, b+zeros(n+1), more)
		refuses(t, "grown ahead", key, nonce, zeros(n+1)+b, more)
		refuses(t, "grown within", key, nonce, b[:n]+"\x00"+b[n:], more)
	}
	refuses(t, "twice", key, nonce, b+b, more)
	other := mustSeal(t, key, nonce, mixed(100, 12), more)
	refuses(t, "two halves", key, nonce, b[:100]+other[100:], more)
	for n := range Over {
		for _, x := range []string{zeros(n), ones(n), mixed(n, 13)} {
			refuses(t, "shorter than a tag", key, nonce, x, more)
			refuses(t, "shorter than a tag, nothing more", key, nonce, x, "")
		}
	}
}

// P701: the two lengths are of the tag: nothing passes between additional data, ciphertext and the
// zero bytes that fill, although the bytes ahead of the lengths are the same.
func TestBorders(t *testing.T) {
	key, nonce := mixed(32, 14), mixed(12, 15)
	for _, m := range []int{0, 1, 5, 15, 16, 20} {
		for _, n := range []int{0, 1, 5, 15, 16, 20} {
			plain, more := mixed(n, 16), mixed(m, 17)
			b := mustSeal(t, key, nonce, plain, more)
			hidden, tag := b[:n], b[n:]
			for k := 1; k < 20; k++ {
				refuses(t, "zeros behind more", key, nonce, b, more+zeros(k))
				refuses(t, "zeros behind the text", key, nonce, hidden+zeros(k)+tag, more)
			}
			for k := 1; k <= m; k++ {
				refuses(t, "from more to the text", key, nonce, more[m-k:]+b, more[:m-k])
			}
			for k := 1; k <= n; k++ {
				refuses(t, "from the text to more", key, nonce, b[k:], more+b[:k])
			}
		}
	}
	whole := mixed(16, 18)
	b := mustSeal(t, key, nonce, "", whole)
	refuses(t, "more as a text", key, nonce, whole+b, "")
	b = mustSeal(t, key, nonce, whole, "")
	refuses(t, "a text as more", key, nonce, b[16:], b[:16])
}

// P701: keys and nonces of every wrong length are refused, with no bytes beside the false.
func TestWrongLengths(t *testing.T) {
	key, nonce := mixed(32, 19), mixed(12, 20)
	b := mustSeal(t, key, nonce, "plain", "more")
	empty := mustSeal(t, key, nonce, "", "")
	wrong := func(key, nonce string) {
		t.Helper()
		for _, plain := range []string{"", "plain", zeros(100)} {
			if got, is := Seal(key, nonce, plain, "more"); got != "" || is {
				t.Errorf("Seal: a key of %d, a nonce of %d: %x, %t", len(key), len(nonce), got, is)
			}
		}
		refuses(t, "lengths", key, nonce, b, "more")
		refuses(t, "lengths", key, nonce, empty, "")
		refuses(t, "lengths", key, nonce, "", "")
		refuses(t, "lengths", key, nonce, zeros(Over), "")
	}
	for _, n := range []int{1<<8 + 12, 1<<8 + 32, 1<<16 + 12, 1<<16 + 32} {
		wrong(mixed(n, 21), nonce)
		wrong(key, mixed(n, 22))
	}
	for n := range 100 {
		if n != 32 {
			wrong(mixed(n, 19), nonce)
			wrong(mixed(n, 23), mixed(max(0, 44-n), 24)) // as long as the two together should be
		}
		if n != 12 {
			wrong(key, mixed(n, 20))
		}
	}
	wrong(key+"\x00", nonce)
	wrong(key, nonce+"\x00")
	wrong(nonce, key)
}

// P701: whatever the ciphertext is, it opens under its right tag: each is the seal of some plaintext.
func TestAnyCiphertext(t *testing.T) {
	for seed := range int64(200) {
		key, nonce, hidden, more := mixed(32, seed), mixed(12, seed+1), mixed(int(seed), seed+2), mixed(int(seed)%40, seed+3)
		plain, _ := stream.Xor(key, 1, nonce, hidden)
		b := hidden + modelTag(key, nonce, hidden, more)
		opens(t, key, nonce, b, more, plain)
		if again := mustSeal(t, key, nonce, plain, more); again != b {
			t.Errorf("seed %d: %x, not %x", seed, again, b)
		}
	}
}

// P701: the tags are compared before anything is decrypted: a forged seal costs no memory for the
// key stream's blocks.
func TestNothingDecrypted(t *testing.T) {
	key, nonce, plain := mixed(32, 25), mixed(12, 26), mixed(1<<16, 27)
	b := mustSeal(t, key, nonce, plain, "more")
	forged := flipped(b, 8*len(b)-1)
	tagging := testing.AllocsPerRun(5, func() { modelTag(key, nonce, forged[:len(plain)], "more") })
	refusing := testing.AllocsPerRun(5, func() { Open(key, nonce, forged, "more") })
	opening := testing.AllocsPerRun(5, func() { Open(key, nonce, b, "more") })
	blocks := float64(len(plain) / 64)
	if opening < tagging+blocks {
		t.Fatalf("allocations: %v of a tag, %v of a seal that opens: nothing can be told from them", tagging, opening)
	}
	if refusing > tagging+blocks/8 {
		t.Errorf("allocations: %v of a tag, %v of a seal that is refused", tagging, refusing)
	}
}

// P702: nothing is kept from call to call, so that many may call at a time.
func TestManyCall(t *testing.T) {
	key, nonce := mixed(32, 28), mixed(12, 29)
	seals, plains, forged := make([]string, 16), make([]string, 16), make([]bool, 16)
	var wait sync.WaitGroup
	for i := range seals {
		wait.Go(func() {
			seals[i], _ = Seal(key, nonce, mixed(500+i, 1), "more")
			plains[i], _ = Open(key, nonce, seals[i], "more")
			_, forged[i] = Open(key, nonce, flipped(seals[i], i), "more")
		})
	}
	wait.Wait()
	for i := range seals {
		plain := mixed(500+i, 1)
		if seals[i] != modelSeal(key, nonce, plain, "more") || plains[i] != plain || forged[i] {
			t.Errorf("caller %d", i)
		}
	}
}

func BenchmarkSeal(b *testing.B) {
	key, nonce, plain := mixed(32, 1), mixed(12, 2), mixed(2048, 3)
	b.SetBytes(int64(len(plain)))
	for b.Loop() {
		Seal(key, nonce, plain, "more")
	}
}

func BenchmarkOpen(b *testing.B) {
	key, nonce := mixed(32, 1), mixed(12, 2)
	sealed, _ := Seal(key, nonce, mixed(2048, 3), "more")
	b.SetBytes(2048)
	for b.Loop() {
		Open(key, nonce, sealed, "more")
	}
}
