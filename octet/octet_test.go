package octet

import (
	"encoding/binary"
	"encoding/hex"
	"math"
	"math/bits"
	"math/rand"
	"strings"
	"testing"
)

// words are numbers whose bytes all differ, and the edges.
var words = []uint64{0, 1, 255, 256, 258, 0x0102030405060708, 0xf1e2d3c4b5a69788, 1 << 32, 1 << 56, 1 << 63, math.MaxUint32, math.MaxUint64}

// allBytes is each byte once, in order.
func allBytes() string {
	b := make([]byte, 256)
	for i := range b {
		b[i] = byte(i)
	}
	return string(b)
}

// P101: Left.
func TestLeftTable(t *testing.T) {
	for _, c := range []struct {
		x    uint32
		n    int
		want uint32
	}{
		{1, 0, 1},
		{1, 1, 2},
		{1, 31, 1 << 31},
		{1, 32, 1},
		{1, 33, 2},
		{1 << 31, 1, 1},
		{1, -1, 1 << 31},
		{1, -31, 2},
		{1, -32, 1},
		{1, -33, 1 << 31},
		{0x12345678, 8, 0x34567812},
		{0x12345678, -8, 0x78123456},
		{0x12345678, 16, 0x56781234},
		{0, 5, 0},
		{math.MaxUint32, 7, math.MaxUint32},
		{1, math.MaxInt, 1 << 31},
		{1, math.MinInt, 1},
		{1, math.MinInt + 1, 2},
		{3, 1 << 32, 3},
		{3, 1<<32 + 4, 48},
	} {
		if got := Left(c.x, c.n); got != c.want {
			t.Errorf("Left(%#x, %d): %#x, not %#x", c.x, c.n, got, c.want)
		}
	}
}

// P101: Left is the rotation for every n, and -n turns it back.
func TestLeftRotates(t *testing.T) {
	for _, w := range words {
		for n := -100; n <= 100; n++ {
			x := uint32(w) ^ uint32(w>>32)
			got := Left(x, n)
			if want := bits.RotateLeft32(x, ((n%32)+32)%32); got != want {
				t.Errorf("Left(%#x, %d): %#x, not %#x", x, n, got, want)
			}
			if back := Left(got, -n); back != x {
				t.Errorf("Left(Left(%#x, %d), %d): %#x", x, n, -n, back)
			}
		}
	}
}

// P101: the bytes of PutBig and PutLittle, against the library's.
func TestPut(t *testing.T) {
	for _, v := range words {
		var big, little [8]byte
		binary.BigEndian.PutUint64(big[:], v)
		binary.LittleEndian.PutUint64(little[:], v)
		for n := 1; n <= 8; n++ {
			if got, want := PutBig(v, n), string(big[8-n:]); got != want {
				t.Errorf("PutBig(%#x, %d): %x, not %x", v, n, got, want)
			}
			if got, want := PutLittle(v, n), string(little[:n]); got != want {
				t.Errorf("PutLittle(%#x, %d): %x, not %x", v, n, got, want)
			}
		}
	}
	if got := PutBig(258, 4); got != "\x00\x00\x01\x02" {
		t.Errorf("PutBig(258, 4): %x", got)
	}
	if got := PutLittle(258, 4); got != "\x02\x01\x00\x00" {
		t.Errorf("PutLittle(258, 4): %x", got)
	}
}

// P101: a width outside 1 to 8 gives nothing.
func TestPutWrongWidth(t *testing.T) {
	for _, n := range []int{0, -1, 9, 16, 1 << 20, 1 << 32, 1<<32 + 1, math.MaxInt, math.MinInt} {
		if got := PutBig(math.MaxUint64, n); got != "" {
			t.Errorf("PutBig(.., %d): %x", n, got)
		}
		if got := PutLittle(math.MaxUint64, n); got != "" {
			t.Errorf("PutLittle(.., %d): %x", n, got)
		}
	}
}

// P101: Big and Little.
func TestNumbers(t *testing.T) {
	for _, c := range []struct {
		b           string
		big, little uint64
	}{
		{"", 0, 0},
		{"\x00", 0, 0},
		{"\xff", 255, 255},
		{"\x01\x02", 258, 513},
		{"\x00\x01\x02", 258, 0x020100},
		{"\x01\x02\x03\x04\x05\x06\x07\x08", 0x0102030405060708, 0x0807060504030201},
		{"\x80\x00\x00\x00\x00\x00\x00\x00", 1 << 63, 128},
		{"\xff\xff\xff\xff\xff\xff\xff\xff", math.MaxUint64, math.MaxUint64},
		{"\x01\x02\x03\x04\x05\x06\x07\x08\x09", 0x0203040506070809, 0x0807060504030201},
		{"\x09\x00\x00\x00\x00\x00\x00\x00\x01", 1, 9},
		{"\xff\xff\x01\x02\x03\x04\x05\x06\x07\x08", 0x0102030405060708, 0x060504030201ffff},
		{strings.Repeat("\xff", 50) + "\x00\x00\x00\x00\x00\x00\x00\x07", 7, math.MaxUint64},
		{"\x07\x00\x00\x00\x00\x00\x00\x00" + strings.Repeat("\xff", 50), math.MaxUint64, 7},
	} {
		if got := Big(c.b); got != c.big {
			t.Errorf("Big(%x): %#x, not %#x", c.b, got, c.big)
		}
		if got := Little(c.b); got != c.little {
			t.Errorf("Little(%x): %#x, not %#x", c.b, got, c.little)
		}
	}
}

// P101: numbers come back from their bytes, less the bytes that were dropped.
func TestNumbersComeBack(t *testing.T) {
	for _, v := range words {
		for n := 1; n <= 8; n++ {
			want := v
			if n < 8 {
				want = v % (1 << (8 * n))
			}
			if got := Big(PutBig(v, n)); got != want {
				t.Errorf("Big(PutBig(%#x, %d)): %#x, not %#x", v, n, got, want)
			}
			if got := Little(PutLittle(v, n)); got != want {
				t.Errorf("Little(PutLittle(%#x, %d)): %#x, not %#x", v, n, got, want)
			}
		}
	}
}

// P102: Xor.
func TestXor(t *testing.T) {
	for _, c := range []struct{ a, b, want string }{
		{"", "", ""},
		{"", "x", ""},
		{"x", "", ""},
		{"abc", "ab", "\x00\x00"},
		{"ab", "abc", "\x00\x00"},
		{"\x0f\xf0", "\xff\xff\xff", "\xf0\x0f"},
		{"\xff\xff\xff", "\x0f\xf0", "\xf0\x0f"},
		{"\x00\x01\x80", "\x00\x02\x7f", "\x00\x03\xff"},
		{"\xc3\xa9", "\x00\x00", "\xc3\xa9"},
	} {
		if got := Xor(c.a, c.b); got != c.want {
			t.Errorf("Xor(%x, %x): %x, not %x", c.a, c.b, got, c.want)
		}
	}
}

// P102: Xor twice with the same text gives the first one back, cut to the shorter length.
func TestXorTwice(t *testing.T) {
	draw := rand.New(rand.NewSource(1))
	for i := 0; i < 200; i++ {
		a, b := drawBytes(draw, draw.Intn(70)), drawBytes(draw, draw.Intn(70))
		n := min(len(a), len(b))
		once := Xor(a, b)
		for k := 0; k < len(once) && k < n; k++ {
			if once[k] != a[k]^b[k] {
				t.Errorf("Xor(%x, %x) at %d: %x", a, b, k, once[k])
			}
		}
		if len(once) != n || Xor(once, b) != a[:n] || Xor(b, a) != once {
			t.Errorf("Xor(%x, %x): %x", a, b, once)
		}
	}
}

func drawBytes(draw *rand.Rand, n int) string {
	b := make([]byte, n)
	draw.Read(b)
	return string(b)
}

// P102: Hex of every byte, and back.
func TestHexEveryByte(t *testing.T) {
	all := allBytes()
	want := hex.EncodeToString([]byte(all))
	if got := Hex(all); got != want {
		t.Errorf("Hex of all bytes: %s, not %s", got, want)
	}
	if got, is := Unhex(want); !is || got != all {
		t.Errorf("Unhex of all bytes: %x, %t", got, is)
	}
	for i := range all {
		got, is := Unhex(Hex(all[i : i+1]))
		if !is || got != all[i:i+1] {
			t.Errorf("Unhex(Hex(%x)): %x, %t", all[i], got, is)
		}
	}
}

// P102: Hex and Unhex at the edges.
func TestHexTable(t *testing.T) {
	for _, c := range []struct{ b, s string }{
		{"", ""},
		{"\x00", "00"},
		{"\x09\x0a\x0f\x10", "090a0f10"},
		{"\x00\xffaZ", "00ff615a"},
		{"\xc3\xa9", "c3a9"},
	} {
		if got := Hex(c.b); got != c.s {
			t.Errorf("Hex(%x): %q, not %q", c.b, got, c.s)
		}
		if got, is := Unhex(c.s); !is || got != c.b {
			t.Errorf("Unhex(%q): %x, %t", c.s, got, is)
		}
	}
}

// P102: Unhex refuses all that Hex doesn't tell, and gives no bytes beside a false.
func TestUnhexRefuses(t *testing.T) {
	for _, s := range []string{"0", "000", "00ff6", "g0", "0g", "AB", "aB", "Ab", "0F", "ab ", " ab", "a b ", "ab c", "0x", "-1", "+1", "é", "\x00\x00", "\xff\xff", "00\n0", "00ff0G", "1_00"} {
		if got, is := Unhex(s); is || got != "" {
			t.Errorf("Unhex(%q): %x, %t", s, got, is)
		}
	}
}

// P102: of all bytes only the sixteen digits are taken, in either place.
func TestUnhexDigits(t *testing.T) {
	for i := 0; i < 256; i++ {
		c := string([]byte{byte(i)})
		want := strings.Contains("0123456789abcdef", c)
		for _, s := range []string{c + "0", "0" + c, "00" + c + "0", "000" + c} {
			got, is := Unhex(s)
			if is != want {
				t.Errorf("Unhex(%q): %t, not %t", s, is, want)
			}
			if is && Hex(got) != s || !is && got != "" {
				t.Errorf("Unhex(%q): %x", s, got)
			}
		}
	}
}
