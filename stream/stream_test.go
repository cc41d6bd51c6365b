package stream

import (
	"crypto/sha256"
	"encoding/binary"
	"math"
	"math/bits"
	"math/rand"
	"strings"
	"sync"
	"testing"

	"escutcheon/octet"
)

// modelBlock is a block worked out by RFC 8439's own words: rounds in place, by the indices.
func modelBlock(key string, counter uint32, nonce string) string {
	first := make([]byte, 0, 64)
	first = append(first, "expand 32-byte k"+key...)
	first = binary.LittleEndian.AppendUint32(first, counter)
	first = append(first, nonce...)
	var s [16]uint32
	for i := range s {
		s[i] = binary.LittleEndian.Uint32(first[4*i:])
	}
	add := func(to, from, turn, by int, rotate int) {
		s[to] += s[from]
		s[turn] = bits.RotateLeft32(s[turn]^s[by], rotate)
	}
	for range 10 {
		for _, q := range [8][4]int{
			{0, 4, 8, 12}, {1, 5, 9, 13}, {2, 6, 10, 14}, {3, 7, 11, 15},
			{0, 5, 10, 15}, {1, 6, 11, 12}, {2, 7, 8, 13}, {3, 4, 9, 14},
		} {
			a, b, c, d := q[0], q[1], q[2], q[3]
			add(a, b, d, a, 16)
			add(c, d, b, c, 12)
			add(a, b, d, a, 8)
			add(c, d, b, c, 7)
		}
	}
	var out []byte
	for i, w := range s {
		out = binary.LittleEndian.AppendUint32(out, w+binary.LittleEndian.Uint32(first[4*i:]))
	}
	return string(out)
}

// modelXor is b xor the model's blocks.
func modelXor(key string, counter uint32, nonce, b string) string {
	out := []byte(b)
	for i := range out {
		if i%64 == 0 {
			block := modelBlock(key, counter+uint32(i/64), nonce)
			for k := i; k < len(out) && k < i+64; k++ {
				out[k] ^= block[k-i]
			}
		}
	}
	return string(out)
}

// mixed is n bytes of all kinds, the same ones for the same n and seed.
func mixed(n int, seed int64) string {
	b := make([]byte, n)
	rand.New(rand.NewSource(seed)).Read(b)
	return string(b)
}

// counted is n bytes from first on, each by step more than the one before it.
func counted(n int, first, step byte) string {
	b := make([]byte, n)
	for i := range b {
		b[i] = first + byte(i)*step
	}
	return string(b)
}

// zeros is n zero bytes.
func zeros(n int) string { return strings.Repeat("\x00", n) }

// counters are the edges of a counter and some between.
var counters = []uint32{0, 1, 2, 255, 256, 1 << 16, 0x01020304, math.MaxInt32, 1 << 31, math.MaxUint32 - 1, math.MaxUint32}

// P501: the quarter rounds that the chapter and RFC 8439 tell, and those of the edges.
func TestQuarterKnown(t *testing.T) {
	for _, c := range []struct{ in, want [4]uint32 }{
		{[4]uint32{0x11111111, 0x01020304, 0x9b8d6f43, 0x01234567}, [4]uint32{0xea2a92f4, 0xcb1cf8ce, 0x4581472e, 0x5881c4bb}},
		{[4]uint32{0x516461b1, 0x2a5f714c, 0x53372767, 0x3d631689}, [4]uint32{0xbdb886dc, 0xcfacafd2, 0xe46bea80, 0xccc07c79}},
		{[4]uint32{0, 0, 0, 0}, [4]uint32{0, 0, 0, 0}},
		{[4]uint32{1, 0, 0, 0}, [4]uint32{0x10000001, 0x80808808, 0x01010110, 0x01000110}},
	} {
		a, b, cc, d := Quarter(c.in[0], c.in[1], c.in[2], c.in[3])
		if got := [4]uint32{a, b, cc, d}; got != c.want {
			t.Errorf("Quarter(%08x): %08x, not %08x", c.in, got, c.want)
		}
	}
}

// P501: the eight steps taken back one by one, the last first, tell the four words again; so each
// step is there, in its place and by its number of bits.
func TestQuarterBack(t *testing.T) {
	r := rand.New(rand.NewSource(1))
	edges := []uint32{0, 1, 1 << 31, math.MaxUint32, 0x0000ffff, 0xffff0000}
	for i := range 5000 {
		in := [4]uint32{r.Uint32(), r.Uint32(), r.Uint32(), r.Uint32()}
		for k := range in {
			if i < 1296 { // each of the edges in each of the places
				in[k] = edges[i/[4]int{1, 6, 36, 216}[k]%6]
			}
		}
		a, b, c, d := Quarter(in[0], in[1], in[2], in[3])
		b = bits.RotateLeft32(b, -7) ^ c
		c -= d
		d = bits.RotateLeft32(d, -8) ^ a
		a -= b
		b = bits.RotateLeft32(b, -12) ^ c
		c -= d
		d = bits.RotateLeft32(d, -16) ^ a
		a -= b
		if got := [4]uint32{a, b, c, d}; got != in {
			t.Fatalf("%08x: back to %08x", in, got)
		}
	}
}

// P501: the blocks of RFC 8439 (2.3.2, 2.4.2 and A.1), and blocks of OpenSSL with great counters.
func TestBlockKnown(t *testing.T) {
	key, nonce := counted(32, 0x80, 3), counted(12, 0xf0, 1)
	for _, c := range []struct {
		key     string
		counter uint32
		nonce   string
		want    string
	}{
		{counted(32, 0, 1), 1, "\x00\x00\x00\x09\x00\x00\x00\x4a\x00\x00\x00\x00", "10f1e7e4d13b5915500fdd1fa32071c4c7d1f4c733c068030422aa9ac3d46c4ed2826446079faa0914c2d705d98b02a2b5129cd1de164eb9cbd083e8a2503c4e"},
		{counted(32, 0, 1), 1, "\x00\x00\x00\x00\x00\x00\x00\x4a\x00\x00\x00\x00", "224f51f3401bd9e12fde276fb8631ded8c131f823d2c06e27e4fcaec9ef3cf788a3b0aa372600a92b57974cded2b9334794cba40c63e34cdea212c4cf07d41b7"},
		{zeros(32), 0, zeros(12), "76b8e0ada0f13d90405d6ae55386bd28bdd219b8a08ded1aa836efcc8b770dc7da41597c5157488d7724e03fb8d84a376a43b8f41518a11cc387b669b2ee6586"},
		{zeros(32), 1, zeros(12), "9f07e7be5551387a98ba977c732d080dcb0f29a048e3656912c6533e32ee7aed29b721769ce64e43d57133b074d839d531ed1f28510afb45ace10a1f4b794d6f"},
		{zeros(31) + "\x01", 1, zeros(12), "3aeb5224ecf849929b9d828db1ced4dd832025e8018b8160b82284f3c949aa5a8eca00bbb4a73bdad192b5c42f73f2fd4e273644c8b36125a64addeb006c13a0"},
		{"\x00\xff" + zeros(30), 2, zeros(12), "72d54dfbf12ec44b362692df94137f328fea8da73990265ec1bbbea1ae9af0ca13b25aa26cb4a648cb9b9d1be65b2c0924a66c54d545ec1b7374f4872e99f096"},
		{zeros(32), 0, zeros(11) + "\x02", "c2c64d378cd536374ae204b9ef933fcd1a8b2288b3dfa49672ab765b54ee27c78a970e0e955c14f3a88e741b97c286f75f8fc299e8148362fa198a39531bed6d"},
		{key, 0, nonce, "a5b215db1a13d2a9b4a56383c5f8f8c9b642c707f7b24e1fb4a54d2775fdff5e3904f4f8ae1a976d23514203003b31cb3cda553a64895086e29d02c931ac2f84"},
		{key, 1 << 31, nonce, "054a6de9d18ebfa7c9e12053bc9080b01c6f62ef18c74b47809be560696a17b4212ef1725dc904089c23cb94488ab2530c8f82ca87242d95a923b965b4637cec"},
		{key, math.MaxUint32, nonce, "09eae0e2c066dc018e2709f84bfe71aeba35a279bdfa126afd0d9f4b21ac10a851b2f548a3cc335a916a8f3767adaa6daa4265c073b3825d1632d10dcdb4bfe3"},
	} {
		got, is := Block(c.key, c.counter, c.nonce)
		if octet.Hex(got) != c.want || !is {
			t.Errorf("Block(%x, %d, %x): %x, %t, not %s", c.key, c.counter, c.nonce, got, is, c.want)
		}
	}
}

// P501: blocks of keys and nonces of all kinds, with each of the counters.
func TestBlockModel(t *testing.T) {
	for i := range int64(200) {
		for _, counter := range counters {
			key, nonce := mixed(32, i), mixed(12, 1000+i)
			got, is := Block(key, counter, nonce)
			if !is || len(got) != 64 || got != modelBlock(key, counter, nonce) {
				t.Fatalf("Block(%x, %d, %x): %x, %t", key, counter, nonce, got, is)
			}
			if again, _ := Block(key, counter, nonce); again != got {
				t.Fatalf("Block(%x, %d, %x) twice: %x, %x", key, counter, nonce, got, again)
			}
		}
	}
	for _, b := range []string{"\x00", "\x7f", "\x80", "\xff"} {
		key, nonce := strings.Repeat(b, 32), strings.Repeat(b, 12)
		for _, counter := range counters {
			if got, is := Block(key, counter, nonce); !is || got != modelBlock(key, counter, nonce) {
				t.Errorf("all bytes %x, counter %d: %x, %t", b, counter, got, is)
			}
		}
	}
}

// P501: each bit of the key, of the counter and of the nonce counts, in a way of its own.
func TestBlockBits(t *testing.T) {
	input := mixed(48, 3)
	seen := map[string]int{}
	for i := -1; i < 8*48; i++ {
		b := []byte(input)
		if i >= 0 {
			b[i/8] ^= 1 << (i % 8)
		}
		got, is := Block(string(b[:32]), binary.LittleEndian.Uint32(b[32:]), string(b[36:]))
		if before, there := seen[got]; there || !is {
			t.Errorf("bit %d: as bit %d, %t", i, before, is)
		}
		seen[got] = i
	}
}

// P501, P502: keys and nonces of every wrong length, one or both, are refused, with no bytes beside
// the false, whether there is something to hide or not.
func TestWrongLengths(t *testing.T) {
	for k := range 100 {
		for n := range 100 {
			key, nonce := mixed(k, 1), mixed(n, 2)
			want := k == 32 && n == 12
			if got, is := Block(key, 1, nonce); is != want || !is && got != "" {
				t.Fatalf("Block: a key of %d, a nonce of %d: %x, %t", k, n, got, is)
			}
			for _, b := range []string{"", "x", zeros(200)} {
				if got, is := Xor(key, 1, nonce, b); is != want || !is && got != "" {
					t.Fatalf("Xor: a key of %d, a nonce of %d, %d bytes: %x, %t", k, n, len(b), got, is)
				}
			}
		}
	}
	long := mixed(1<<16, 1)
	for _, c := range [][2]string{{long, long[:12]}, {long[:32], long}, {long[:12], long[:32]}, {long[:44], ""}, {"", long[:44]}, {"", ""}} {
		for _, counter := range counters {
			if got, is := Block(c[0], counter, c[1]); is || got != "" {
				t.Errorf("Block: a key of %d, a nonce of %d: %x, %t", len(c[0]), len(c[1]), got, is)
			}
			if got, is := Xor(c[0], counter, c[1], "text"); is || got != "" {
				t.Errorf("Xor: a key of %d, a nonce of %d: %x, %t", len(c[0]), len(c[1]), got, is)
			}
		}
	}
}

// P502: the texts of RFC 8439 (2.4.2, and the third of A.2).
func TestXorKnown(t *testing.T) {
	key, _ := octet.Unhex("1c9240a5eb55d38af333888604f6b5f0473917c1402b80099dca5cbc207075c0")
	for _, c := range []struct {
		key     string
		counter uint32
		nonce   string
		b, want string
	}{
		{
			counted(32, 0, 1), 1, "\x00\x00\x00\x00\x00\x00\x00\x4a\x00\x00\x00\x00",
			"Ladies and Gentlemen of the class of '99: If I could offer you only one tip for the future, sunscreen would be it.",
			"6e2e359a2568f98041ba0728dd0d6981e97e7aec1d4360c20a27afccfd9fae0bf91b65c5524733ab8f593dabcd62b3571639d624e65152ab8f530c359f0861d807ca0dbf500d6a6156a38e088a22b65e52bc514d16ccf806818ce91ab77937365af90bbf74a35be6b40b8eedf2785e42874d",
		},
		{
			key, 42, zeros(11) + "\x02",
			"'Twas brillig, and the slithy toves\nDid gyre and gimble in the wabe:\nAll mimsy were the borogoves,\nAnd the mome raths outgrabe.",
			"62e6347f95ed87a45ffae7426f27a1df5fb69110044c0d73118effa95b01e5cf166d3df2d721caf9b21e5fb14c616871fd84c54f9d65b283196c7fe4f60553ebf39c6402c42234e32a356b3e764312a61a5532055716ead6962568f87d3f3f7704c6a8d1bcd1bf4d50d6154b6da731b187b58dfd728afa36757a797ac188d1",
		},
	} {
		got, is := Xor(c.key, c.counter, c.nonce, c.b)
		if octet.Hex(got) != c.want || !is {
			t.Errorf("Xor of %.20q: %x, %t, not %s", c.b, got, is, c.want)
		}
		if back, is := Xor(c.key, c.counter, c.nonce, got); back != c.b || !is {
			t.Errorf("Xor twice of %.20q: %q, %t", c.b, back, is)
		}
	}
}

// P502: many blocks: the digest of 100001 bytes of OpenSSL's key stream.
func TestXorLong(t *testing.T) {
	got, is := Xor(counted(32, 0x80, 3), 7, counted(12, 0xf0, 1), zeros(100001))
	sum := sha256.Sum256([]byte(got))
	if want := "349a110b530bd39260a763a4eef49d8f86dc497d70a1af5ca8cd282859943c78"; octet.Hex(string(sum[:])) != want || !is {
		t.Errorf("%x, %t, not %s", sum, is, want)
	}
}

// P502: texts of every length around the edges of the blocks, and back.
func TestXorLengths(t *testing.T) {
	for n := range 400 {
		key, nonce, b := mixed(32, int64(n)), mixed(12, int64(n)), mixed(n, 5)
		for _, counter := range []uint32{0, 1, math.MaxUint32 - 1} {
			got, is := Xor(key, counter, nonce, b)
			if !is || got != modelXor(key, counter, nonce, b) {
				t.Fatalf("%d bytes, counter %d: %x, %t", n, counter, got, is)
			}
			if back, is := Xor(key, counter, nonce, got); !is || back != b {
				t.Fatalf("%d bytes, counter %d, twice: %x, %t", n, counter, back, is)
			}
		}
	}
}

// P502: nothing to hide is no error, with each of the counters.
func TestXorNothing(t *testing.T) {
	for _, counter := range counters {
		if got, is := Xor(mixed(32, 1), counter, mixed(12, 2), ""); got != "" || !is {
			t.Errorf("counter %d: %x, %t", counter, got, is)
		}
	}
}

// P502: zero bytes show the key stream, which is the Blocks one after the other; 0 follows the last
// counter, and the nonce stays as it is.
func TestXorBlocks(t *testing.T) {
	key, nonce := mixed(32, 6), mixed(12, 7)
	for _, counter := range append(counters, math.MaxUint32-3, math.MaxUint32-2) {
		got, _ := Xor(key, counter, nonce, zeros(6*64+10))
		for i := range 7 {
			block, _ := Block(key, counter+uint32(i), nonce)
			piece := got[64*i : min(64*(i+1), len(got))]
			if piece != block[:len(piece)] {
				t.Errorf("block %d from the counter %d", i, counter)
			}
		}
	}
	last, _ := Block(key, math.MaxUint32, nonce)
	first, _ := Block(key, 0, nonce)
	if got, _ := Xor(key, math.MaxUint32, nonce, zeros(128)); got != last+first {
		t.Error("block 0 doesn't follow the last one")
	}
}

// P502: the end of a text doesn't change what its start becomes; a later start is a later counter.
func TestXorPieces(t *testing.T) {
	key, nonce, b := mixed(32, 8), mixed(12, 9), mixed(300, 10)
	whole, _ := Xor(key, 5, nonce, b)
	for n := range len(b) {
		if got, _ := Xor(key, 5, nonce, b[:n]); got != whole[:n] {
			t.Errorf("the first %d bytes", n)
		}
	}
	for i := range 5 {
		if got, _ := Xor(key, 5+uint32(i), nonce, b[64*i:]); got != whole[64*i:] {
			t.Errorf("from block %d on", i)
		}
	}
}

// P501, P502: nothing is kept from call to call, so that many may call at a time.
func TestManyCall(t *testing.T) {
	got := make([]string, 16)
	var wait sync.WaitGroup
	for i := range got {
		wait.Go(func() { got[i], _ = Xor(mixed(32, int64(i)), uint32(i), mixed(12, 11), mixed(1000, 12)) })
	}
	wait.Wait()
	for i, s := range got {
		if s != modelXor(mixed(32, int64(i)), uint32(i), mixed(12, 11), mixed(1000, 12)) {
			t.Errorf("caller %d", i)
		}
	}
}

func BenchmarkBlock(b *testing.B) {
	key, nonce := mixed(32, 1), mixed(12, 2)
	b.SetBytes(64)
	for b.Loop() {
		Block(key, 1, nonce)
	}
}

func BenchmarkXor(b *testing.B) {
	key, nonce, text := mixed(32, 1), mixed(12, 2), mixed(2048, 3)
	b.SetBytes(int64(len(text)))
	for b.Loop() {
		Xor(key, 1, nonce, text)
	}
}
