package digest

import (
	"crypto/sha256"
	"math/big"
	"math/rand"
	"strings"
	"sync"
	"testing"

	"escutcheon/octet"
)

// model is the library's digest of b.
func model(b string) string {
	s := sha256.Sum256([]byte(b))
	return string(s[:])
}

// mixed is n bytes of all kinds, the same ones for the same n and seed.
func mixed(n int, seed int64) string {
	b := make([]byte, n)
	rand.New(rand.NewSource(seed)).Read(b)
	return string(b)
}

// P201: the digests that FIPS 180-4 and its examples give.
func TestSumKnown(t *testing.T) {
	for _, c := range []struct{ b, want string }{
		{"", "e3b0c44298fc1c149afbf4c8996fb92427ae41e4649b934ca495991b7852b855"},
		{"abc", "ba7816bf8f01cfea414140de5dae2223b00361a396177a9cb410ff61f20015ad"},
		{"abcdbcdecdefdefgefghfghighijhijkijkljklmklmnlmnomnopnopq", "248d6a61d20638b8e5c026930c3e6039a33ce45964ff2167f6ecedd419db06c1"},
		{"abcdefghbcdefghicdefghijdefghijkefghijklfghijklmghijklmnhijklmnoijklmnopjklmnopqklmnopqrlmnopqrsmnopqrstnopqrstu", "cf5b16a778af8380036ce59e7b0492370b249b11e8f07a51afac45037afee9d1"},
		{strings.Repeat("a", 1000000), "cdc76e5c9914fb9281a1c7e284d73e67f1809a48a497200e046d39ccc7112cd0"},
	} {
		if got := octet.Hex(Sum(c.b)); got != c.want {
			t.Errorf("Sum(%.20q): %s, not %s", c.b, got, c.want)
		}
	}
}

// P201: every length around the edges of the padding and of the blocks, for bytes of all kinds.
func TestSumLengths(t *testing.T) {
	for n := range 400 {
		for _, b := range []string{mixed(n, int64(n)), strings.Repeat("\x00", n), strings.Repeat("\xff", n)} {
			got := Sum(b)
			if len(got) != Size {
				t.Fatalf("%d bytes: a digest of %d", n, len(got))
			}
			if want := model(b); got != want {
				t.Fatalf("%d bytes: %x, not %x", n, got, want)
			}
		}
	}
	for _, n := range []int{4095, 4096, 1<<16 + 55, 1 << 20} {
		if b := mixed(n, 1); Sum(b) != model(b) {
			t.Errorf("%d bytes", n)
		}
	}
}

// P201: Size is that of a digest.
func TestSize(t *testing.T) {
	if Size != 32 {
		t.Error(Size)
	}
}

// P201: the length stands in eight bytes, so one of more than 2^29 bytes doesn't lose its upper bits.
func TestPadding(t *testing.T) {
	for _, n := range []int{0, 1, 54, 55, 56, 63, 64, 119, 120, 1 << 29, 1<<31 - 1} {
		p := padding(n)
		zeros := len(p) - 9
		if (n+len(p))%64 != 0 || zeros < 0 || zeros > 63 {
			t.Errorf("%d bytes: a padding of %d", n, len(p))
			continue
		}
		if p[:1+zeros] != "\x80"+strings.Repeat("\x00", zeros) || octet.Big(p[1+zeros:]) != 8*uint64(n) {
			t.Errorf("%d bytes: %x", n, p)
		}
	}
}

// P201: the constants are the roots that the chapter says.
func TestConstants(t *testing.T) {
	words := roundWords()
	first := firstState()
	for i, p := range primes(rounds) {
		if got, want := words[i], cubeRootBits(p); got != want {
			t.Errorf("k(%d): %x, not %x", i, got, want)
		}
		if i < stateWords {
			if got, want := first[i], squareRootBits(p); got != want {
				t.Errorf("first state %d: %x, not %x", i, got, want)
			}
		}
	}
}

// primes are the first n ones.
func primes(n int) []int64 {
	var out []int64
	for v := int64(2); len(out) < n; v++ {
		if big.NewInt(v).ProbablyPrime(0) {
			out = append(out, v)
		}
	}
	return out
}

// squareRootBits are the first 32 bits of the fractional part of the square root of p.
func squareRootBits(p int64) uint32 {
	v := new(big.Int).Lsh(big.NewInt(p), 64)
	return uint32(v.Sqrt(v).Uint64())
}

// cubeRootBits are those of the cube root of p.
func cubeRootBits(p int64) uint32 {
	v := new(big.Int).Lsh(big.NewInt(p), 96)
	low, high := big.NewInt(0), new(big.Int).Lsh(big.NewInt(p), 32)
	for low.Cmp(high) < 0 { // the greatest number whose cube isn't above v
		mid := new(big.Int).Add(low, high)
		mid.Add(mid, big.NewInt(1)).Rsh(mid, 1)
		if cube := new(big.Int).Exp(mid, big.NewInt(3), nil); cube.Cmp(v) <= 0 {
			low = mid
		} else {
			high = mid.Sub(mid, big.NewInt(1))
		}
	}
	return uint32(low.Uint64())
}

// P202: two pieces, for each place of the cut; Sum and Len after each.
func TestTwoPieces(t *testing.T) {
	text := mixed(200, 7)
	for n := range 201 {
		var d Digest
		d.Add(text[:n])
		if d.Len() != n || d.Sum() != model(text[:n]) {
			t.Errorf("the first %d bytes", n)
		}
		d.Add(text[n:])
		if d.Len() != 200 || d.Sum() != model(text) {
			t.Errorf("all, cut at %d", n)
		}
	}
}

// P202: pieces of any sizes, empty ones too, are as the whole; Sum changes nothing.
func TestManyPieces(t *testing.T) {
	r := rand.New(rand.NewSource(3))
	for range 200 {
		var d Digest
		added := ""
		for range 1 + r.Intn(12) {
			piece := mixed(r.Intn(150), r.Int63())
			if r.Intn(4) == 0 {
				piece = ""
			}
			d.Add(piece)
			added += piece
			if r.Intn(2) == 0 && (d.Sum() != model(added) || d.Sum() != model(added)) {
				t.Fatalf("after %d bytes", len(added))
			}
		}
		if d.Sum() != model(added) || d.Len() != len(added) {
			t.Fatalf("%d bytes: Len %d", len(added), d.Len())
		}
	}
}

// P202: one byte after another.
func TestByteByByte(t *testing.T) {
	text := mixed(300, 9)
	d := &Digest{}
	for i := range len(text) {
		d.Add(text[i : i+1])
		if d.Sum() != model(text[:i+1]) || d.Len() != i+1 {
			t.Fatalf("after byte %d", i)
		}
	}
}

// P202: nothing was added to the zero Digest.
func TestZero(t *testing.T) {
	var asked, counted, copied, added Digest
	if asked.Sum() != model("") || asked.Sum() != model("") {
		t.Error("Sum")
	}
	if counted.Len() != 0 {
		t.Error("Len")
	}
	if c := copied.Copy(); c == nil || c.Len() != 0 || c.Sum() != model("") {
		t.Error("Copy")
	}
	added.Add("")
	if added.Len() != 0 || added.Sum() != model("") {
		t.Error("Add of nothing")
	}
	for _, d := range []*Digest{&asked, &counted, &copied, &added} {
		d.Add("abc")
		if d.Sum() != model("abc") || d.Len() != 3 {
			t.Error("Add afterwards")
		}
	}
}

// P202: a copy and what it was made of don't touch each other.
func TestCopy(t *testing.T) {
	text := mixed(300, 11)
	for n := range 140 {
		d := &Digest{}
		d.Add(text[:n])
		c := d.Copy()
		if c == d {
			t.Fatal("the Digest itself")
		}
		if c.Len() != n || c.Sum() != model(text[:n]) {
			t.Errorf("the copy of %d bytes", n)
		}
		d.Add("left")
		if c.Len() != n || c.Sum() != model(text[:n]) {
			t.Errorf("the copy of %d bytes changed with its source", n)
		}
		c.Add(text[n:])
		if d.Len() != n+4 || d.Sum() != model(text[:n]+"left") {
			t.Errorf("the source of %d bytes changed with its copy", n)
		}
		if c.Len() != 300 || c.Sum() != model(text) {
			t.Errorf("more bytes than %d in the copy", n)
		}
		if cc := c.Copy(); cc.Sum() != model(text) {
			t.Errorf("a copy of a copy")
		}
	}
}

// P202: a nil Digest.
func TestNil(t *testing.T) {
	var d *Digest
	d.Add("abc")
	if d.Sum() != "" || d.Len() != 0 || d.Copy() != nil {
		t.Error(d.Sum(), d.Len(), d.Copy())
	}
}

// P202: Sum and Copy don't change a Digest, so many may ask one at a time when it isn't ready yet.
func TestManyAsk(t *testing.T) {
	for range 20 {
		var d Digest
		var wait sync.WaitGroup
		sums := make([]string, 16)
		for i := range sums {
			wait.Go(func() {
				if i%2 == 0 {
					sums[i] = d.Sum()
				} else {
					sums[i] = d.Copy().Sum()
				}
			})
		}
		wait.Wait()
		for i, s := range sums {
			if s != model("") {
				t.Fatalf("asker %d: %x", i, s)
			}
		}
	}
}

// P202: the table stands in each Digest, made when it is first needed.
func TestTableMade(t *testing.T) {
	var d Digest
	if d.table != [rounds]uint32{} {
		t.Error("there before it was needed")
	}
	d.Add("")
	if d.table != roundWords() || d.Copy().table != roundWords() {
		t.Error("not made")
	}
}

func BenchmarkSum(b *testing.B) {
	text := mixed(1<<16, 1)
	b.SetBytes(int64(len(text)))
	for b.Loop() {
		Sum(text)
	}
}

func BenchmarkSumShort(b *testing.B) {
	for b.Loop() {
		Sum("abc")
	}
}
