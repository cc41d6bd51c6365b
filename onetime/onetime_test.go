package onetime

import (
	"math/big"
	"math/rand"
	"strings"
	"sync"
	"testing"

	"escutcheon/octet"
)

// power is 2^n.
func power(n uint) *big.Int { return new(big.Int).Lsh(big.NewInt(1), n) }

// prime is 2^130 - 5.
func prime() *big.Int { return new(big.Int).Sub(power(130), big.NewInt(5)) }

// bigOf is the number of bytes, the lowest first.
func bigOf(b string) *big.Int {
	turned := make([]byte, len(b))
	for i := range turned {
		turned[i] = b[len(b)-1-i]
	}
	return new(big.Int).SetBytes(turned)
}

// bytesOf is the lowest 128 bits of a number in 16 bytes, the lowest first.
func bytesOf(x *big.Int) string {
	turned := make([]byte, 16)
	new(big.Int).Mod(x, power(128)).FillBytes(turned)
	b := make([]byte, 16)
	for i := range b {
		b[i] = turned[15-i]
	}
	return string(b)
}

// modelClamp is r as RFC 8439 gives it: the key's low half and a mask.
func modelClamp(key string) *big.Int {
	mask, _ := new(big.Int).SetString("0ffffffc0ffffffc0ffffffc0fffffff", 16)
	return mask.And(mask, bigOf(key[:16]))
}

// modelSum is the accumulator after all groups, from 0 to the modulus less 1.
func modelSum(r *big.Int, b string) *big.Int {
	sum := new(big.Int)
	for from := 0; from < len(b); from += 16 {
		sum.Add(sum, bigOf(b[from:min(from+16, len(b))]+"\x01"))
		sum.Mul(sum, r)
		sum.Mod(sum, prime())
	}
	return sum
}

// modelTag is the tag by numbers of any size.
func modelTag(key, b string) string {
	sum := modelSum(modelClamp(key), b)
	return bytesOf(sum.Add(sum, bigOf(key[16:])))
}

// mixed is n bytes of all kinds, the same ones for the same n and seed.
func mixed(n int, seed int64) string {
	b := make([]byte, n)
	rand.New(rand.NewSource(seed)).Read(b)
	return string(b)
}

func zeros(n int) string { return strings.Repeat("\x00", n) }

func ones(n int) string { return strings.Repeat("\xff", n) }

// low is a half of a key: one byte, and 15 zero bytes above it.
func low(b byte) string { return string([]byte{b}) + zeros(15) }

func un(t *testing.T, s string) string {
	t.Helper()
	b, is := octet.Unhex(s)
	if !is {
		t.Fatal(s)
	}
	return b
}

// isModel holds a tag against the model's.
func isModel(t *testing.T, key, b string) {
	t.Helper()
	if got, is := Tag(key, b); !is || got != modelTag(key, b) {
		t.Fatalf("key %x, %d bytes %.200x: %x, %t, not %x", key, len(b), b, got, is, modelTag(key, b))
	}
}

// P601: the tags of RFC 8439 (2.5.2 and A.3).
func TestTagKnown(t *testing.T) {
	ietf := "Any submission to the IETF intended by the Contributor for publication as all or part of an IETF Internet-Draft or RFC and any statement made within the context of an IETF activity is considered an \"IETF Contribution\". Such statements include oral statements in IETF sessions, as well as written and electronic communications made at any time or place, which are addressed to"
	twas := "'Twas brillig, and the slithy toves\nDid gyre and gimble in the wabe:\nAll mimsy were the borogoves,\nAnd the mome raths outgrabe."
	half := un(t, "36e5f6b5c5e06070f0efca96227a863e")
	two := un(t, "01000000000000000400000000000000") + zeros(16)
	carried := un(t, "e33594d7505e43b900000000000000003394d7505e4379cd0100000000000000") + zeros(16)
	for i, c := range []struct{ key, b, want string }{
		{un(t, "85d6be7857556d337f4452fe42d506a80103808afb0db2fd4abff6af4149f51b"), "Cryptographic Forum Research Group", "a8061dc1305136c6c22b8baf0c0127a9"},
		{zeros(32), zeros(64), "00000000000000000000000000000000"},
		{zeros(16) + half, ietf, "36e5f6b5c5e06070f0efca96227a863e"},
		{half + zeros(16), ietf, "f3477e7cd95417af89a6b8794c310cf0"},
		{un(t, "1c9240a5eb55d38af333888604f6b5f0473917c1402b80099dca5cbc207075c0"), twas, "4541669a7eaaee61e708dc7cbcc5eb62"},
		{low(2) + zeros(16), ones(16), "03000000000000000000000000000000"},
		{low(2) + ones(16), low(2), "03000000000000000000000000000000"},
		{low(1) + zeros(16), ones(16) + "\xf0" + ones(15) + low(0x11), "05000000000000000000000000000000"},
		{low(1) + zeros(16), ones(16) + "\xfb" + strings.Repeat("\xfe", 15) + strings.Repeat("\x01", 16), "00000000000000000000000000000000"},
		{low(2) + zeros(16), "\xfd" + ones(15), "faffffffffffffffffffffffffffffff"},
		{two, carried + low(1), "14000000000000005500000000000000"},
		{two, carried, "13000000000000000000000000000000"},
	} {
		got, is := Tag(c.key, c.b)
		if octet.Hex(got) != c.want || !is {
			t.Errorf("text %d: %x, %t, not %s", i, got, is, c.want)
		}
	}
}

// P601: short texts, worked out by hand.
func TestTagShort(t *testing.T) {
	for _, c := range []struct{ key, b, want string }{
		{zeros(32), "", "00000000000000000000000000000000"},
		{ones(16) + mixed(16, 1), "", octet.Hex(mixed(16, 1))},
		{zeros(16) + ones(16), "text", "ffffffffffffffffffffffffffffffff"},
		{low(1) + zeros(16), "\x05", "05010000000000000000000000000000"},
		{low(1) + zeros(16), "\x05\x00", "05000100000000000000000000000000"},
		{low(1) + zeros(16), "\x00", "00010000000000000000000000000000"},
		{low(1) + zeros(16), zeros(15), "00000000000000000000000000000001"},
		{low(1) + zeros(16), zeros(16), "00000000000000000000000000000000"},
		{low(1) + zeros(16), zeros(17), "00010000000000000000000000000000"},
		{low(2) + zeros(16), "\x01\x02\x03", "02040602000000000000000000000000"},
		{low(1) + ones(16), "\x05", "04010000000000000000000000000000"},
	} {
		got, is := Tag(c.key, c.b)
		if octet.Hex(got) != c.want || !is {
			t.Errorf("Tag(%x, %x): %x, %t, not %s", c.key, c.b, got, is, c.want)
		}
	}
}

// P601: texts of every length around the edges of the groups.
func TestTagLengths(t *testing.T) {
	for n := range 300 {
		for seed := range int64(5) {
			isModel(t, mixed(32, seed), mixed(n, 100+seed))
		}
		for _, key := range []string{zeros(32), ones(32), ones(16) + zeros(16), zeros(16) + ones(16), low(1) + ones(16)} {
			for _, b := range []string{zeros(n), ones(n), strings.Repeat("\x80", n)} {
				isModel(t, key, b)
			}
		}
	}
	for _, n := range []int{1023, 2047, 2200, 65535, 65536, 100001} {
		isModel(t, mixed(32, int64(n)), mixed(n, 1))
		isModel(t, ones(32), ones(n))
	}
}

// P601: keys and texts made of bytes at the edges, which fill the limbs and carry far.
func TestTagEdges(t *testing.T) {
	r := rand.New(rand.NewSource(1))
	edges := []byte{0, 0, 1, 0x7f, 0x80, 0xfc, 0xff, 0xff, 0xff}
	drawn := func(n int) string {
		b := make([]byte, n)
		for i := range b {
			b[i] = edges[r.Intn(len(edges))]
		}
		return string(b)
	}
	for range 20000 {
		isModel(t, drawn(32), drawn(r.Intn(80)))
	}
}

// nearNumbers are numbers around which a sum may go wrong: each is told with its neighbours.
func nearNumbers() []*big.Int {
	var out []*big.Int
	for _, x := range []*big.Int{new(big.Int), power(26), power(52), power(64), power(78), power(104), power(127), power(128), power(129), prime()} {
		for d := int64(-8); d <= 8; d++ {
			near := new(big.Int).Add(x, big.NewInt(d))
			out = append(out, near.Mod(near, prime()))
		}
	}
	return out
}

// lastGroup is 16 bytes after which the sum is wanted, if there are such ones.
func lastGroup(r, before, wanted *big.Int) (string, bool) {
	group := new(big.Int).ModInverse(r, prime())
	group.Mul(group, wanted)
	group.Sub(group, before)
	group.Mod(group, prime())
	return bytesOf(group), new(big.Int).Rsh(group, 128).Cmp(big.NewInt(1)) == 0
}

// P601: sums that end at, just below and just above the numbers where one must carry or reduce,
// under second halves that carry too.
func TestTagSums(t *testing.T) {
	for i, wanted := range nearNumbers() {
		found := 0
		for seed := int64(0); found < 5 && seed < 200; seed++ {
			half, start := mixed(16, seed), mixed(32, 1000*int64(i)+seed)
			r := modelClamp(half + zeros(16))
			group, is := lastGroup(r, modelSum(r, start), wanted)
			if !is {
				continue
			}
			found++
			if modelSum(r, start+group).Cmp(wanted) != 0 {
				t.Fatalf("the model misses %x", wanted)
			}
			for _, s := range []string{zeros(16), ones(16), low(1), low(5), zeros(8) + ones(8), ones(8) + zeros(8), zeros(15) + "\x80", mixed(16, seed)} {
				isModel(t, half+s, start+group)
			}
		}
		if found == 0 {
			t.Errorf("no text found whose sum is %x", wanted)
		}
	}
}

// P601: without a multiplication, the sum of the groups passes the modulus by one after the other.
func TestTagPassesModulus(t *testing.T) {
	for d := int64(-20); d <= 20; d++ {
		// Three groups bring 3 * 2^128 of their own.
		left := new(big.Int).Sub(prime(), new(big.Int).Mul(power(128), big.NewInt(3)))
		left.Add(left, big.NewInt(d))
		half := new(big.Int).Rsh(left, 1)
		b := bytesOf(half) + bytesOf(new(big.Int).Sub(left, half)) + zeros(16)
		want := bytesOf(new(big.Int).Mod(new(big.Int).Add(prime(), big.NewInt(d)), prime()))
		if got, is := Tag(low(1)+zeros(16), b); got != want || !is {
			t.Errorf("the modulus and %d: %x, %t, not %x", d, got, is, want)
		}
		isModel(t, low(1)+mixed(16, d), b)
	}
}

// P601: each bit of a text counts, and so does its length: zero bytes behind it change the tag.
func TestTagBits(t *testing.T) {
	key, b := mixed(32, 2), mixed(40, 3)
	seen := map[string]int{}
	for i := -1; i < 8*len(b); i++ {
		changed := []byte(b)
		if i >= 0 {
			changed[i/8] ^= 1 << (i % 8)
		}
		got, is := Tag(key, string(changed))
		if before, there := seen[got]; there || !is {
			t.Errorf("bit %d: as bit %d, %t", i, before, is)
		}
		seen[got] = i
	}
	for n := range 40 {
		got, is := Tag(key, zeros(n))
		if before, there := seen[got]; there || !is {
			t.Errorf("%d zero bytes: as %d, %t", n, before, is)
		}
		seen[got] = 1000 + n
	}
}

// cleared tells whether a bit of a key's first half doesn't count.
func cleared(bit int) bool {
	at, in := bit/8, bit%8
	return (at == 3 || at == 7 || at == 11 || at == 15) && in >= 4 || (at == 4 || at == 8 || at == 12) && in < 2
}

// P601: the bits that Clamp clears don't count for the tag, and all others do.
func TestTagKeyBits(t *testing.T) {
	key, b := mixed(32, 4), mixed(50, 5)
	plain, _ := Tag(key, b)
	for i := range 256 {
		changed := []byte(key)
		changed[i/8] ^= 1 << (i % 8)
		got, is := Tag(string(changed), b)
		if !is || (got == plain) != (i < 128 && cleared(i)) {
			t.Errorf("bit %d: %x, %t; before: %x", i, got, is, plain)
		}
	}
}

// P601: the second half of a key is added, modulo 2^128.
func TestTagSecondHalf(t *testing.T) {
	for seed := range int64(200) {
		first, b := mixed(16, seed), mixed(int(seed), seed+1)
		sum, _ := Tag(first+zeros(16), b)
		for _, s := range []string{ones(16), low(1), mixed(16, seed+2)} {
			want := bytesOf(new(big.Int).Add(bigOf(sum), bigOf(s)))
			if got, is := Tag(first+s, b); got != want || !is {
				t.Errorf("%x added to %x: %x, %t", s, sum, got, is)
			}
		}
	}
}

// P601: Clamp, bit by bit: 22 bits are cleared, wherever they stand, and nothing else is changed.
func TestClamp(t *testing.T) {
	for _, c := range [][2]string{
		{ones(32), "ffffff0ffcffff0ffcffff0ffcffff0f"},
		{zeros(16) + ones(16), "00000000000000000000000000000000"},
		{un(t, "85d6be7857556d337f4452fe42d506a8") + zeros(16), "85d6be0854556d037c44520e40d50608"},
		{strings.Repeat("\xf3", 32), "f3f3f303f0f3f303f0f3f303f0f3f303"},
		{strings.Repeat("\x0c", 32), "0c0c0c0c0c0c0c0c0c0c0c0c0c0c0c0c"},
	} {
		if got, is := Clamp(c[0]); octet.Hex(got) != c[1] || !is {
			t.Errorf("Clamp(%x): %x, %t, not %s", c[0], got, is, c[1])
		}
	}
	for i := range 128 {
		key := make([]byte, 32)
		key[i/8] = 1 << (i % 8)
		want := string(key[:16])
		if cleared(i) {
			want = zeros(16)
		}
		if got, is := Clamp(string(key)); got != want || !is {
			t.Errorf("bit %d: %x, %t", i, got, is)
		}
	}
	for seed := range int64(500) {
		key := mixed(32, seed)
		got, is := Clamp(key)
		if got != bytesOf(modelClamp(key)) || !is {
			t.Errorf("Clamp(%x): %x, %t", key, got, is)
		}
		if other, _ := Clamp(key[:16] + mixed(16, seed+1000)); other != got {
			t.Errorf("Clamp(%x): the second half counts", key)
		}
		if again, _ := Clamp(got + key[16:]); again != got {
			t.Errorf("Clamp(%x) twice: %x, %x", key, got, again)
		}
	}
}

// P601: keys of every wrong length are refused, with no bytes beside the false, whatever the text is.
func TestWrongLengths(t *testing.T) {
	for _, n := range []int{1 << 16, 1<<8 + 32, 1<<16 + 32} {
		refused(t, mixed(n, 1))
	}
	for n := range 200 {
		if n != 32 {
			refused(t, mixed(n, 2))
		}
	}
	for _, b := range []string{"", "x", zeros(16), zeros(100)} {
		if got, is := Tag(mixed(32, 1), b); !is || len(got) != 16 {
			t.Errorf("Tag of %d bytes: %x, %t", len(b), got, is)
		}
	}
}

func refused(t *testing.T, key string) {
	t.Helper()
	if got, is := Clamp(key); is || got != "" {
		t.Errorf("Clamp: a key of %d: %x, %t", len(key), got, is)
	}
	for _, b := range []string{"", "x", zeros(16), zeros(100)} {
		if got, is := Tag(key, b); is || got != "" {
			t.Errorf("Tag: a key of %d, %d bytes: %x, %t", len(key), len(b), got, is)
		}
	}
}

// P601: nothing is kept from call to call, so that many may call at a time.
func TestManyCall(t *testing.T) {
	got := make([]string, 16)
	var wait sync.WaitGroup
	for i := range got {
		wait.Go(func() { got[i], _ = Tag(mixed(32, int64(i)), mixed(1000+i, 1)) })
	}
	wait.Wait()
	for i, tag := range got {
		if tag != modelTag(mixed(32, int64(i)), mixed(1000+i, 1)) {
			t.Errorf("caller %d", i)
		}
	}
}

func BenchmarkTag(b *testing.B) {
	key, text := mixed(32, 1), mixed(2048, 2)
	b.SetBytes(int64(len(text)))
	for b.Loop() {
		Tag(key, text)
	}
}
