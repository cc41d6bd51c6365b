package hello

import (
	"math/rand"
	"strings"
	"testing"
	"unsafe"

	"escutcheon/api"
)

const (
	names   = 20   // the most bytes of a name
	nonces  = 16   // bytes of a nonce
	macs    = 32   // bytes of a mac
	records = 2199 // the most bytes of a record
)

// bytesOf is n bytes, the same for the same n and first byte.
func bytesOf(n int, first byte) string {
	b := make([]byte, n)
	for i := range b {
		b[i] = first + byte(7*i)
	}
	return string(b)
}

// form is a letter, or the record, of which only a body follows the kind.
type form struct {
	name        string
	kind        int
	least, most int // bytes of the body
	put, get    func(string) (string, bool)
}

// forms are all of them.
func forms() []form {
	return []form{
		{"challenge", 2, nonces, nonces, putNonce, getNonce},
		{"proof", 3, macs, macs, putProof, getProof},
		{"finish", 4, macs, macs, putFinish, getFinish},
		{"record", 5, 24, records, PutRecord, GetRecord},
	}
}

func putNonce(s string) (string, bool)  { return PutChallenge(api.Challenge{Nonce: s}) }
func putProof(s string) (string, bool)  { return PutProof(api.Proof{Mac: s}) }
func putFinish(s string) (string, bool) { return PutFinish(api.Finish{Mac: s}) }

func getNonce(b string) (string, bool) {
	c, ok := GetChallenge(b)
	return c.Nonce, ok
}

func getProof(b string) (string, bool) {
	p, ok := GetProof(b)
	return p.Mac, ok
}

func getFinish(b string) (string, bool) {
	f, ok := GetFinish(b)
	return f.Mac, ok
}

// lengths are those at which something could change, and some between them.
func lengths() []int {
	var l []int
	for n := range 70 {
		l = append(l, n)
	}
	for n := 240; n < 290; n++ {
		l = append(l, n)
	}
	for n := 2190; n < 2210; n++ {
		l = append(l, n)
	}
	return append(l, 1000, 4096, 65535, 65536+nonces, 65536+macs)
}

// helloOf is what a hello has to be by the document's words, and whether it may be.
func helloOf(h api.Hello) (string, bool) {
	if len(h.Nonce) != 16 || len(h.User) < 1 || len(h.User) > 20 {
		return "", false
	}
	b := []byte{1, byte(len(h.User))}
	b = append(b, h.User...)
	return string(append(b, h.Nonce...)), true
}

// shown is the hello whose bytes b are, found by going through all that could be.
func shown(b string) (api.Hello, bool) {
	for i := 2; i <= len(b); i++ {
		h := api.Hello{User: b[2:i], Nonce: b[i:]}
		if put, ok := helloOf(h); ok && put == b {
			return h, true
		}
	}
	return api.Hello{}, false
}

// holdPutHello holds PutHello against the words.
func holdPutHello(t *testing.T, h api.Hello) {
	t.Helper()
	want, may := helloOf(h)
	if got, ok := PutHello(h); got != want || ok != may {
		t.Fatalf("PutHello(%q): %q, %v, not %q, %v", h, got, ok, want, may)
	}
}

// holdGetHello holds GetHello against the words.
func holdGetHello(t *testing.T, b string) {
	t.Helper()
	want, may := shown(b)
	if got, ok := GetHello(b); got != want || ok != may {
		t.Fatalf("GetHello(%q): %q, %v, not %q, %v", b, got, ok, want, may)
	}
}

// P1501: the kinds are the numbers that the document gives.
func TestKinds(t *testing.T) {
	got := [5]int{HelloKind, ChallengeKind, ProofKind, FinishKind, RecordKind}
	if got != [5]int{1, 2, 3, 4, 5} {
		t.Errorf("kinds: %v", got)
	}
}

// P1501: Kind tells the first byte if it is from 1 to 5, whatever follows it, and 0 otherwise.
func TestKind(t *testing.T) {
	if Kind("") != 0 {
		t.Errorf("Kind of nothing: %d", Kind(""))
	}
	for first := range 256 {
		want := 0
		if first >= 1 && first <= 5 {
			want = first
		}
		for _, rest := range []string{"", "\x00", "\x01", "\x05", "\xff", bytesOf(16, 3), bytesOf(5000, 9)} {
			b := string([]byte{byte(first)}) + rest
			if Kind(b) != want {
				t.Errorf("Kind of %d and %d bytes: %d, not %d", first, len(rest), Kind(b), want)
			}
		}
	}
}

// P1501: the document's example.
func TestExample(t *testing.T) {
	h := api.Hello{User: "bob", Nonce: bytesOf(nonces, 65)}
	b, ok := PutHello(h)
	if b != "\x01\x03\x62\x6f\x62"+h.Nonce || !ok {
		t.Errorf("PutHello: %q, %v", b, ok)
	}
	if got, ok := GetHello(b); got != h || !ok {
		t.Errorf("GetHello: %q, %v", got, ok)
	}
}

// P1501: a hello may be exactly if its name has 1 to 20 bytes and its nonce 16, and then it comes back.
func TestHelloLengths(t *testing.T) {
	for _, n := range lengths() {
		for _, m := range []int{0, 1, 8, 15, 16, 17, 24, 32, 272} {
			h := api.Hello{User: bytesOf(n, 200), Nonce: bytesOf(m, 3)}
			holdPutHello(t, h)
			b, ok := PutHello(h)
			if got, is := GetHello(b); ok && (got != h || !is) {
				t.Fatalf("a hello with a name of %d bytes doesn't come back: %q, %v", n, got, is)
			}
		}
	}
}

// P1501: a name and a nonce may have any bytes, those among them that users may not have in a name.
func TestHelloBytes(t *testing.T) {
	for c := range 256 {
		for n := 1; n <= names; n++ {
			one := string([]byte{byte(c)})
			h := api.Hello{User: strings.Repeat(one, n), Nonce: strings.Repeat(one, nonces)}
			holdPutHello(t, h)
			b, _ := PutHello(h)
			if got, ok := GetHello(b); got != h || !ok {
				t.Fatalf("the byte %d, %d times: %q, %v", c, n, got, ok)
			}
		}
	}
}

// P1501: the length ahead of a name may be no other than the name's, at every length of the bytes.
func TestGetHelloLengths(t *testing.T) {
	for said := range 256 {
		for n := range 300 {
			holdGetHello(t, string([]byte{1, byte(said)})+bytesOf(n, 7))
		}
	}
}

// P1501: GetHello refuses every other first byte, and bytes that are cut off or go on.
func TestGetHelloRefuses(t *testing.T) {
	b, _ := PutHello(api.Hello{User: "some name", Nonce: bytesOf(nonces, 99)})
	for first := range 256 {
		holdGetHello(t, string([]byte{byte(first)})+b[1:])
		holdGetHello(t, string([]byte{byte(first)}))
		holdGetHello(t, string([]byte{byte(first), 1}))
	}
	for n := range len(b) {
		holdGetHello(t, b[:n])
		holdGetHello(t, b[n:])
	}
	for _, more := range []string{"\x00", "x", b, strings.Repeat("\x00", 256)} {
		holdGetHello(t, b+more)
		holdGetHello(t, more+b)
	}
	for _, f := range forms() {
		other, _ := f.put(bytesOf(f.least, 1))
		holdGetHello(t, other)
		holdGetHello(t, string([]byte{byte(f.kind)})+b)
	}
}

// P1501: GetHello against the words, on drawn bytes of which most are near to a hello.
func TestGetHelloDrawn(t *testing.T) {
	draw := rand.New(rand.NewSource(1501))
	taken := 0
	for range 100_000 {
		b := make([]byte, draw.Intn(45))
		for i := range b {
			b[i] = byte(draw.Intn(256))
		}
		if len(b) > 0 && draw.Intn(10) > 0 {
			b[0] = 1
		}
		if len(b) > 1 && draw.Intn(10) > 0 {
			b[1] = byte(len(b) - 18 + draw.Intn(3) - 1)
		}
		holdGetHello(t, string(b))
		if _, ok := GetHello(string(b)); ok {
			taken++
		}
	}
	if taken < 1000 {
		t.Errorf("only %d of them are hellos", taken)
	}
}

// P1501: each other Put tells its kind and what it was given, exactly at the lengths that may be.
func TestPut(t *testing.T) {
	for _, f := range forms() {
		for _, n := range lengths() {
			for _, first := range []byte{0, 1, 5, 200, 255} {
				body := bytesOf(n, first)
				want, may := "", n >= f.least && n <= f.most
				if may {
					want = string([]byte{byte(f.kind)}) + body
				}
				if got, ok := f.put(body); got != want || ok != may {
					t.Errorf("%s of %d bytes: %d bytes, %v", f.name, n, len(got), ok)
				}
			}
		}
	}
}

// P1501: each other Get tells what the Put of its name was given, and takes no other bytes: neither another
// kind nor another length.
func TestGet(t *testing.T) {
	for _, f := range forms() {
		for first := range 256 {
			for _, n := range lengths() {
				body := bytesOf(n, byte(first))
				want, may := "", first == f.kind && n >= f.least && n <= f.most
				if may {
					want = body
				}
				if got, ok := f.get(string([]byte{byte(first)}) + body); got != want || ok != may {
					t.Fatalf("%s of the kind %d and %d bytes: %d bytes, %v", f.name, first, n, len(got), ok)
				}
			}
		}
		if got, ok := f.get(""); got != "" || ok {
			t.Errorf("%s of nothing: %q, %v", f.name, got, ok)
		}
	}
}

// P1501: a body may have any bytes.
func TestBodies(t *testing.T) {
	for _, f := range forms() {
		for c := range 256 {
			for _, n := range []int{f.least, f.most} {
				body := strings.Repeat(string([]byte{byte(c)}), n)
				b, ok := f.put(body)
				if got, is := f.get(b); got != body || !ok || !is {
					t.Errorf("%s of %d bytes %d doesn't come back", f.name, n, c)
				}
			}
		}
	}
}

// P1501: a hello is told by no other Get.
func TestHelloIsNoOther(t *testing.T) {
	for n := 1; n <= names; n++ {
		b, _ := PutHello(api.Hello{User: bytesOf(n, 40), Nonce: bytesOf(nonces, 50)})
		for _, f := range forms() {
			if got, ok := f.get(b); got != "" || ok {
				t.Errorf("a hello with a name of %d bytes as a %s: %q, %v", n, f.name, got, ok)
			}
		}
	}
}

// P1501: the bytes of a letter tell its kind.
func TestKindOfLetters(t *testing.T) {
	b, _ := PutHello(api.Hello{User: "u", Nonce: bytesOf(nonces, 0)})
	if Kind(b) != 1 {
		t.Errorf("Kind of a hello: %d", Kind(b))
	}
	for _, f := range forms() {
		if b, _ := f.put(bytesOf(f.least, 0)); Kind(b) != f.kind {
			t.Errorf("Kind of a %s: %d", f.name, Kind(b))
		}
	}
}

// shares tells whether two texts have memory in common.
func shares(a, b string) bool {
	if a == "" || b == "" {
		return false
	}
	x, y := uintptr(unsafe.Pointer(unsafe.StringData(a))), uintptr(unsafe.Pointer(unsafe.StringData(b)))
	return x < y+uintptr(len(b)) && y < x+uintptr(len(a))
}

// P1501: answers share no memory with what was given, nor with each other.
func TestNewMemory(t *testing.T) {
	h := api.Hello{User: bytesOf(5, 1), Nonce: bytesOf(nonces, 2)}
	b, _ := PutHello(h)
	if shares(b, h.User) || shares(b, h.Nonce) {
		t.Error("PutHello shares")
	}
	one, _ := GetHello(b)
	two, _ := GetHello(b)
	texts := []string{b, one.User, one.Nonce, two.User, two.Nonce}
	for _, f := range forms() {
		body := bytesOf(f.least, 3)
		b, _ := f.put(body)
		again, _ := f.put(body)
		one, _ := f.get(b)
		two, _ := f.get(b)
		texts = append(texts, body, b, again, one, two)
	}
	for i, a := range texts {
		for _, b := range texts[:i] {
			if shares(a, b) {
				t.Errorf("%q and %q share memory", a, b)
			}
		}
	}
}
