package ratchet

import (
	"crypto/hkdf"
	"crypto/sha256"
	"math"
	"math/rand"
	"strings"
	"sync"
	"testing"
	"unsafe"

	"escutcheon/api"
	"escutcheon/octet"
)

// last is the greatest epoch that has a key.
const last = 100

// lengths are those of keys, secrets and salts, on both sides of the digest's and its block's.
var lengths = []int{0, 1, 31, 32, 33, 63, 64, 65, 500}

// modelNext is Next by the library.
func modelNext(t *testing.T, key string) string {
	t.Helper()
	next, err := hkdf.Expand(sha256.New, []byte(key), "ratchet", 32)
	if err != nil {
		t.Fatal(err)
	}
	return string(next)
}

// modelKeys is the keys of all epochs, by the library.
func modelKeys(t *testing.T, key string) []string {
	t.Helper()
	keys := []string{key}
	for epoch := range last {
		keys = append(keys, modelNext(t, keys[epoch]))
	}
	return keys
}

// modelSession is Session by the library.
func modelSession(t *testing.T, secret, salt string) api.Keys {
	t.Helper()
	var keys [2]string
	for i, info := range []string{"up", "down"} {
		key, err := hkdf.Key(sha256.New, []byte(secret), []byte(salt), info, 32)
		if err != nil {
			t.Fatal(err)
		}
		keys[i] = string(key)
	}
	return api.Keys{Up: keys[0], Down: keys[1]}
}

// mixed is n bytes of all kinds, the same ones for the same n and seed.
func mixed(n int, seed int64) string {
	b := make([]byte, n)
	rand.New(rand.NewSource(seed)).Read(b)
	return string(b)
}

// counted is the bytes from first to last, one after the other.
func counted(first, last int) string {
	var b []byte
	for i := first; i <= last; i++ {
		b = append(b, byte(i))
	}
	return string(b)
}

// P1201: keys of epochs that another program worked out.
func TestKnownKeys(t *testing.T) {
	for _, c := range []struct {
		key  string
		want map[int]string
	}{
		{strings.Repeat("k", 32), map[int]string{
			1:   "3def57701ebbab307c3d424d7a50fc44aed81ea34820afe7663af801a4f193ed",
			2:   "4248b9421ccf7e24e2e30a1818e508ff9e1f16f4b9cb6ca7df76dbe6ad5e857e",
			49:  "26743829cdea6ff86d5768c42dad22b567f3b18592b8a8888c1518a0b2d47e0c",
			100: "b4b3324d4f67e7826881a159e66a7d98fcaeaae556d618975b426fd8e0ef5476",
		}},
		{counted(0, 31), map[int]string{
			1:   "a476aac6688172893e3ef60f999b54396d25f389156e79f9bf7007d321762d6d",
			2:   "e2e5aafcce478c39272c054d53765110a7b50f2bb2a12a559b0d4e2b13d5e02f",
			49:  "091c2e40b02fe78979a72b0d0bdba77374878d3166252b02d66a22063fe7dec2",
			100: "72a8b0c8eaa23ca1ab2b616f64b55dceceb521cc1918f3bc97faaca1480b0e87",
		}},
		{"", map[int]string{
			1:   "b134550cd56e7efc37b448205b1d0549c41c7bc4bb07e92cbb44407abccf7f2b",
			2:   "6e0ac9769941f8dd4f9be0d65030e9e5aea8337d9f59bd5f434abddb21dcc413",
			49:  "858773a26f2efdfd0cca50ca119bba9ae6d5680a8c3c8c013e4b55aa11a2ed88",
			100: "1df984892650fd8a31aa73ab36e21d821e01635d7a4448a73eb0e5dd58583ba9",
		}},
	} {
		for epoch, want := range c.want {
			if got, is := At(c.key, epoch); octet.Hex(got) != want || !is {
				t.Errorf("At(%q, %d): %x, %t, not %s", c.key, epoch, got, is, want)
			}
		}
		if got := octet.Hex(Next(c.key)); got != c.want[1] {
			t.Errorf("Next(%q): %s, not %s", c.key, got, c.want[1])
		}
	}
}

// P1201: Next of keys of many lengths, the same whenever it is asked.
func TestNext(t *testing.T) {
	for _, n := range lengths {
		key := mixed(n, int64(n))
		got := Next(key)
		if len(got) != 32 || got != modelNext(t, key) || got != Next(key) {
			t.Errorf("a key of %d: %x, not %x", n, got, modelNext(t, key))
		}
		if got == key {
			t.Errorf("a key of %d stays as it is", n)
		}
	}
}

// P1201: At is Next as many times as the epoch says, for every epoch and keys of many lengths.
func TestAt(t *testing.T) {
	for _, n := range lengths {
		key := mixed(n, int64(n))
		for epoch, want := range modelKeys(t, key) {
			if got, is := At(key, epoch); got != want || !is {
				t.Fatalf("a key of %d, epoch %d: %x, %t, not %x", n, epoch, got, is, want)
			}
		}
	}
}

// P1201: an epoch that is not from 0 to 100 has no key, whatever the first key is; those at both ends have one.
func TestAtEdges(t *testing.T) {
	for _, key := range []string{"", "k", mixed(32, 1), mixed(100, 2)} {
		for _, epoch := range []int{
			-1, -2, -100, -101, math.MinInt, math.MinInt + 1, math.MinInt32, math.MinInt32 - 1, last + 1, last + 2,
			128, 255, 256, 1000, 1 << 32, 1<<32 + 1, math.MaxInt32, math.MaxUint32, math.MaxInt, math.MaxInt - 1,
		} {
			if got, is := At(key, epoch); got != "" || is {
				t.Errorf("At(%q, %d): %x, %t", key, epoch, got, is)
			}
		}
		if got, is := At(key, 0); got != key || !is {
			t.Errorf("At(%q, 0): %x, %t", key, got, is)
		}
		if got, is := At(key, last); len(got) != 32 || !is {
			t.Errorf("At(%q, %d): %x, %t", key, last, got, is)
		}
	}
}

// P1201: the key of an epoch is a key from which later ones can be reached.
func TestAtOfAt(t *testing.T) {
	key := mixed(32, 3)
	for _, epoch := range []int{0, 1, 2, 17, 50, 99, 100} {
		for first := 0; first <= epoch; first++ {
			middle, _ := At(key, first)
			got, is := At(middle, epoch-first)
			if want, _ := At(key, epoch); got != want || !is {
				t.Fatalf("epoch %d by %d: %x, %t, not %x", epoch, first, got, is, want)
			}
		}
	}
}

// P1201: no two epochs have the same key, and every record of a direction has an epoch that has one.
func TestEachEpochHasItsKey(t *testing.T) {
	seen := map[string]int{}
	for epoch, key := range modelKeys(t, mixed(32, 4)) {
		got, _ := At(mixed(32, 4), epoch)
		if before, is := seen[got]; is || got != key {
			t.Errorf("epoch %d has the key of %d, or %x in place of %x", epoch, before, got, key)
		}
		seen[got] = epoch
	}
	for seq := range api.MaxSeq {
		if _, is := At("k", Epoch(seq)); !is {
			t.Errorf("record %d", seq)
		}
	}
}

// P1201: what At tells for epoch 0 is not the memory of the key that was given.
func TestNewMemory(t *testing.T) {
	key := mixed(32, 5)
	first, _ := At(key, 0)
	second, _ := At(key, 0)
	if unsafe.StringData(first) == unsafe.StringData(key) || unsafe.StringData(first) == unsafe.StringData(second) {
		t.Error("one memory")
	}
}

// P1201: the records are counted through: each epoch has eight.
func TestEpochs(t *testing.T) {
	seq := 0
	for epoch := range 200 {
		for range 8 {
			if got := Epoch(seq); got != epoch {
				t.Errorf("Epoch(%d): %d, not %d", seq, got, epoch)
			}
			seq++
		}
	}
}

// P1201: the epochs of the document's example, of great numbers and of negative ones.
func TestEpochEdges(t *testing.T) {
	for seq, want := range map[int]int{
		17: 2, 0: 0, 7: 0, 8: 1, 15: 1, 16: 2, 399: 49, 400: 50, 799: 99, 800: 100, 807: 100, 808: 101,
		math.MaxInt32: 1<<28 - 1, math.MaxInt: 1<<60 - 1, math.MaxInt - 7: 1<<60 - 1, math.MaxInt - 8: 1<<60 - 2,
		-1: 0, -7: 0, -8: 0, -9: 0, -17: 0, -400: 0, math.MinInt: 0, math.MinInt + 1: 0, math.MinInt32: 0,
	} {
		if got := Epoch(seq); got != want {
			t.Errorf("Epoch(%d): %d, not %d", seq, got, want)
		}
	}
}

// P1201: the nonce of the document's example, and those whose number is of one byte up to eight.
func TestNonceKnown(t *testing.T) {
	for seq, want := range map[int]string{
		258:                "000000000000000000000102",
		0:                  "000000000000000000000000",
		1:                  "000000000000000000000001",
		255:                "0000000000000000000000ff",
		256:                "000000000000000000000100",
		399:                "00000000000000000000018f",
		65535:              "00000000000000000000ffff",
		0x010203:           "000000000000000000010203",
		math.MaxUint32:     "0000000000000000ffffffff",
		math.MaxUint32 + 1: "000000000000000100000000",
		0x0102030405060708: "000000000102030405060708",
		math.MaxInt:        "000000007fffffffffffffff",
	} {
		if got := octet.Hex(Nonce(seq)); got != want {
			t.Errorf("Nonce(%d): %s, not %s", seq, got, want)
		}
	}
}

// P1201: a negative number has no nonce.
func TestNonceNegative(t *testing.T) {
	for _, seq := range []int{-1, -2, -8, -255, -256, -400, math.MinInt32, -math.MaxInt, math.MinInt} {
		if got := Nonce(seq); got != "" {
			t.Errorf("Nonce(%d): %x", seq, got)
		}
	}
}

// P1201: each number has a nonce of its own, out of which it can be read.
func TestNonceOfEach(t *testing.T) {
	seqs := []int{math.MaxInt, math.MaxInt - 1, 1 << 40, 1 << 56}
	for seq := range 3 * api.MaxSeq {
		seqs = append(seqs, seq)
	}
	seen := map[string]int{}
	for _, seq := range seqs {
		got := Nonce(seq)
		if before, is := seen[got]; is {
			t.Errorf("%d has the nonce of %d", seq, before)
		}
		seen[got] = seq
		if len(got) != 12 || got[:4] != "\x00\x00\x00\x00" || octet.Big(got[4:]) != uint64(seq) {
			t.Errorf("Nonce(%d): %x", seq, got)
		}
	}
}

// P1201: keys of sessions that another program worked out.
func TestKnownSessions(t *testing.T) {
	for _, c := range []struct{ secret, salt, up, down string }{
		{
			"secret", "salt",
			"424218372a4717791056aec67e203a31102903f9114550b3048c9d800702ecff",
			"3cfd1726fe234f0356d8e5ab6b93d2c329384d628ba319257ef2e0d29782eb01",
		},
		{
			"", "",
			"e5615eeb57477e3a763751553dead18ca1dbdced1e86aa5ee1daeaaaf4e13a2a",
			"b7d634809c48e3306dcfa6938b01c5ae7de9e2ab000708d0cdbd94a3d7ab171c",
		},
		{
			counted(0, 79), counted(100, 199),
			"74d15cc06195f7a09c57829c03ad71b32e3b11e654d6eb22edebf015978385bb",
			"5b58f59eaa0c55030daf4ab9b35ce4a59b284db125a81e6689ba901387db7a23",
		},
	} {
		got := Session(c.secret, c.salt)
		if octet.Hex(got.Up) != c.up || octet.Hex(got.Down) != c.down {
			t.Errorf("Session(%q, %q): %x, %x, not %s, %s", c.secret, c.salt, got.Up, got.Down, c.up, c.down)
		}
	}
}

// P1201: secrets and salts of many lengths; both keys are whole, and differ.
func TestSession(t *testing.T) {
	for _, n := range lengths {
		for _, m := range lengths {
			secret, salt := mixed(n, 6), mixed(m, 7)
			got := Session(secret, salt)
			if want := modelSession(t, secret, salt); got != want {
				t.Errorf("a secret of %d, a salt of %d: %x, not %x", n, m, got, want)
			}
			if len(got.Up) != 32 || len(got.Down) != 32 || got.Up == got.Down {
				t.Errorf("a secret of %d, a salt of %d: %x", n, m, got)
			}
		}
	}
}

// P1201: another secret or another salt gives other keys, and neither stands for the other.
func TestSessionsDiffer(t *testing.T) {
	seen := map[string][2]string{}
	for _, c := range [][2]string{{"a", "b"}, {"b", "a"}, {"ab", ""}, {"", "ab"}, {"a", ""}, {"", "a"}, {"a", "c"}, {"c", "b"}} {
		keys := Session(c[0], c[1])
		for _, key := range []string{keys.Up, keys.Down} {
			if before, is := seen[key]; is {
				t.Errorf("%q has a key of %q", c, before)
			}
			seen[key] = c
		}
	}
}

// P1201: nothing is kept from call to call, so that many may call at a time.
func TestManyCall(t *testing.T) {
	var all sync.WaitGroup
	for worker := range 8 {
		key := mixed(32, int64(worker))
		want := modelKeys(t, key)
		all.Go(func() {
			for epoch := last; epoch >= 0; epoch-- {
				if got, is := At(key, epoch); got != want[epoch] || !is {
					t.Errorf("worker %d, epoch %d", worker, epoch)
				}
			}
		})
	}
	all.Wait()
}

func BenchmarkAtLast(b *testing.B) {
	key := mixed(32, 1)
	for b.Loop() {
		At(key, last)
	}
}
