package record

import (
	"math"
	"math/rand"
	"slices"
	"strconv"
	"strings"
	"sync"
	"testing"
	"unsafe"

	"escutcheon/api"
	"escutcheon/box"
	"escutcheon/digest"
	"escutcheon/octet"
	"escutcheon/pad"
	"escutcheon/ratchet"
)

const (
	last    = 399  // the number of a direction's last record
	many    = 400  // records of a direction
	width   = 64   // numbers that may come at a time
	over    = 24   // bytes of a record beside the padded text
	longest = 2046 // bytes of a text
)

// counted is n bytes from the first on, each seven greater than the one before.
func counted(n int, first byte) string {
	b := make([]byte, n)
	for i := range b {
		b[i] = first + byte(7*i)
	}
	return string(b)
}

// mixed is n bytes of all kinds, the same ones for the same n and seed.
func mixed(n int, seed int64) string {
	b := make([]byte, n)
	rand.New(rand.NewSource(seed)).Read(b)
	return string(b)
}

func zeros(n int) string { return strings.Repeat("\x00", n) }

// flipped is b with one bit changed.
func flipped(b string, bit int) string {
	out := []byte(b)
	out[bit/8] ^= 1 << (bit % 8)
	return string(out)
}

// aKey is the key of most directions here.
func aKey() string { return mixed(32, 1) }

// text is what the record of a number holds in most directions here.
func text(seq int) string { return "text " + strconv.Itoa(seq) }

// modelSeal is a record by the document's words, out of a text that is padded already.
func modelSeal(key string, seq int, padded string) string {
	head := octet.PutBig(uint64(seq), 8)
	turned, _ := ratchet.At(key, seq/8)
	sealed, _ := box.Seal(turned, zeros(4)+head, padded, head)
	return head + sealed
}

// modelRecord is a record by the document's words.
func modelRecord(key string, seq int, plain string) string {
	padded, _ := pad.Pad(plain)
	return modelSeal(key, seq, padded)
}

// sealed is the records of a direction, up to the last one.
func sealed(t *testing.T, key string) []string {
	t.Helper()
	o := NewOut(key)
	var all []string
	for seq := range many {
		all = append(all, seals(t, o, text(seq)))
	}
	return all
}

// seals is a record that may not be refused.
func seals(t *testing.T, o *Out, plain string) string {
	t.Helper()
	b, e := o.Seal(plain)
	if e != api.OK {
		t.Fatalf("Seal of %d bytes, Next %d: %d", len(plain), o.Next(), e)
	}
	return b
}

// noSeal wants Seal to tell an error with no bytes, and Next to stay.
func noSeal(t *testing.T, o *Out, plain string, want api.Errno) {
	t.Helper()
	next := o.Next()
	if b, e := o.Seal(plain); b != "" || e != want || o.Next() != next {
		t.Errorf("Seal of %d bytes: %d bytes, %d, not %d; Next %d, then %d", len(plain), len(b), e, want, next, o.Next())
	}
}

// tells holds Next and Waits of an In against what is wanted.
func tells(t *testing.T, what string, i *In, next, waits int) {
	t.Helper()
	if i.Next() != next || i.Waits() != waits {
		t.Fatalf("%s: Next %d, Waits %d, not %d, %d", what, i.Next(), i.Waits(), next, waits)
	}
}

// opens wants Open to tell these texts.
func opens(t *testing.T, what string, i *In, b string, want ...string) {
	t.Helper()
	if got, e := i.Open(b); e != api.OK || !slices.Equal(got, want) {
		t.Fatalf("%s: %.60q, %d, not %.60q", what, got, e, want)
	}
}

// refuses wants Open to tell an error with no texts, and nothing to change.
func refuses(t *testing.T, what string, i *In, b string, want api.Errno) {
	t.Helper()
	next, waits := i.Next(), i.Waits()
	if got, e := i.Open(b); len(got) != 0 || e != want {
		t.Fatalf("%s: %.60q, %d, not %d", what, got, e, want)
	}
	tells(t, what, i, next, waits)
}

// opened is an In that has opened these records of a direction.
func opened(t *testing.T, all []string, seqs ...int) *In {
	t.Helper()
	i := NewIn(aKey())
	for _, seq := range seqs {
		if _, e := i.Open(all[seq]); e != api.OK {
			t.Fatalf("number %d of %d: %d", seq, seqs, e)
		}
	}
	return i
}

// upTo is the numbers from the first one up to the one before the end.
func upTo(first, end int) []int {
	var all []int
	for seq := first; seq < end; seq++ {
		all = append(all, seq)
	}
	return all
}

// texts is what the records of these numbers hold.
func texts(seqs []int) []string {
	var all []string
	for _, seq := range seqs {
		all = append(all, text(seq))
	}
	return all
}

// P1301: records that another program worked out.
func TestKnownRecords(t *testing.T) {
	key := ""
	for i := range 32 {
		key += string([]byte{byte(i)})
	}
	for _, c := range []struct {
		seq         int
		plain, want string
	}{
		{0, "", "000000000000000018b84231ade6a6d113615c61af434e27f8b1f3f5e1ad5b5cecf8fc122a35755c85e93255ba819f7903675afdc0a16ff2"},
		{1, "a", "0000000000000001695d1dd9310ab87a2d717e2fb314171210f13f40ceb1fc75453ab52829ee9f0abd8d50a1da565b3c56d7641011e75355"},
		{7, zeros(30), "0000000000000007285815434e832a5e6c6dbbf0d78fd32c34b230367ee33d83406a1bdf805303548aa1613d43f6d78c1eef54e0e742a4f9"},
		{8, "seven and one", "0000000000000008104369e18d2835a8d54c37b2af81f7aaee84e160d6cb093ff76ebe4be93c4865afcc18f888dc09bfdcb503b081740475"},
		{255, strings.Repeat("\xff", 30), "00000000000000ff1658901781f382f9e885836a6dc2952655b029c191e3b37c124cfee948677089f3b57c1c9efd52663a88fc08c22c2337"},
		{256, "ab", "0000000000000100f5c1621ec045ffc8a974b923620b72386f4804004b60b15ea351c777ff80f3722632a22f349652b5c5e5c3e44ae9144e"},
		{last, "the last", "000000000000018fdc73ffa3e6630d687e056667086d63fcc5dfa7984ef056ed4814e45fd12c3b41272b23bc92abd4868ebf1336106b44e9"},
	} {
		o, i := NewOut(key), NewIn(key)
		for range c.seq {
			opens(t, "ahead of "+strconv.Itoa(c.seq), i, seals(t, o, ""), "")
		}
		b := seals(t, o, c.plain)
		if octet.Hex(b) != c.want {
			t.Errorf("number %d: %x, not %s", c.seq, b, c.want)
		}
		opens(t, "number "+strconv.Itoa(c.seq), i, b, c.plain)
	}
}

// P1301: a whole direction, and texts at the edges of the lengths: the digests of all records, one after
// the other, were worked out by another program.
func TestKnownDirections(t *testing.T) {
	var all, edges digest.Digest
	key := ""
	for i := range 32 {
		key += string([]byte{byte(i)})
	}
	o := NewOut(key)
	for seq := range many {
		all.Add(seals(t, o, counted(37*seq%2047, byte(seq))))
	}
	if got := octet.Hex(all.Sum()); got != "be9fa9374a3018bbc74b33542843b1e619dbdfd9b231b590182a5aac04c875a7" {
		t.Error("all:", got)
	}
	o = NewOut(strings.Repeat("k", 32))
	for _, n := range []int{0, 30, 31, 126, 127, 510, 511, longest} {
		edges.Add(seals(t, o, counted(n, 5)))
	}
	if got := octet.Hex(edges.Sum()); got != "f5910a1372c8ec3921c0acc9d89100348a552ff0c53a1b8e1cbd607038af91ae" {
		t.Error("edges:", got)
	}
}

// P1301: only a key of 32 bytes makes an Out or an In.
func TestKeyLengths(t *testing.T) {
	for _, n := range append(upTo(0, 130), 256, 256+32, 1<<16+32) {
		o, i := NewOut(mixed(n, 2)), NewIn(mixed(n, 2))
		if (o != nil) != (n == 32) || (i != nil) != (n == 32) {
			t.Errorf("a key of %d bytes: %t, %t", n, o != nil, i != nil)
		}
	}
	for _, key := range []string{zeros(32), strings.Repeat("\xff", 32)} {
		opens(t, "a key of one byte", NewIn(key), seals(t, NewOut(key), "x"), "x")
	}
}

// P1301: each record has the next number, and is the one of the document's words.
func TestEachNumber(t *testing.T) {
	for _, key := range []string{aKey(), zeros(32)} {
		o := NewOut(key)
		for seq := range many {
			if o.Next() != seq {
				t.Fatalf("Next %d, not %d", o.Next(), seq)
			}
			if b := seals(t, o, text(seq)); b != modelRecord(key, seq, text(seq)) {
				t.Fatalf("number %d: %x", seq, b)
			}
		}
		if o.Next() != many {
			t.Errorf("Next %d", o.Next())
		}
	}
}

// P1301: texts of each length, as the document's words have them; a record's length tells no more than
// the size class.
func TestEachLength(t *testing.T) {
	var o *Out
	for n := 0; n <= longest; n++ {
		if n%many == 0 {
			o = NewOut(aKey())
		}
		plain := mixed(n, int64(n))
		b := seals(t, o, plain)
		size, _ := pad.Size(n)
		if b != modelRecord(aKey(), n%many, plain) || len(b) != size+over {
			t.Fatalf("%d bytes: a record of %d", n, len(b))
		}
	}
}

// P1301: a text that is too long is refused, and takes no number.
func TestTooLong(t *testing.T) {
	o := NewOut(aKey())
	for seq := range 20 {
		for _, n := range []int{longest + 1, longest + 2, 2048, 65536, 65537, 1 << 20} {
			noSeal(t, o, zeros(n), api.ErrLarge)
		}
		if b := seals(t, o, zeros(longest)); b != modelRecord(aKey(), seq, zeros(longest)) {
			t.Fatalf("number %d after one that is too long: %.20x", seq, b)
		}
	}
}

// P1301: after the last number there is no record any more; a text that is too long is told first.
func TestEnd(t *testing.T) {
	o := NewOut(aKey())
	for range last {
		seals(t, o, "")
	}
	noSeal(t, o, zeros(longest+1), api.ErrLarge)
	if b := seals(t, o, "the last"); b != modelRecord(aKey(), last, "the last") {
		t.Errorf("the last: %x", b)
	}
	for range 500 {
		noSeal(t, o, "", api.ErrEnd)
		noSeal(t, o, zeros(longest), api.ErrEnd)
		noSeal(t, o, zeros(longest+1), api.ErrLarge)
	}
	if o.Next() != many {
		t.Errorf("Next %d", o.Next())
	}
}

// P1302: a nil Out or In, and a zero one, are of no use.
func TestNilAndZero(t *testing.T) {
	b := modelRecord(aKey(), 0, "x")
	for _, o := range []*Out{nil, {}, NewOut("short")} {
		for range 3 {
			noSeal(t, o, "", api.ErrState)
			noSeal(t, o, "x", api.ErrState)
			noSeal(t, o, zeros(longest+1), api.ErrState)
		}
		if o.Next() != 0 {
			t.Error(o.Next())
		}
	}
	far := octet.PutBig(math.MaxUint64, 8) + zeros(100)
	for _, i := range []*In{nil, {}, NewIn("short")} {
		for _, x := range []string{b, b, "", zeros(23), far, modelRecord("", 0, "x"), modelRecord(zeros(32), 0, "x")} {
			refuses(t, "nil or zero", i, x, api.ErrState)
		}
		tells(t, "nil or zero", i, 0, 0)
	}
}

// P1302: the document's example.
func TestExample(t *testing.T) {
	all, i := sealed(t, aKey()), NewIn(aKey())
	opens(t, "number 1", i, all[1])
	tells(t, "number 1", i, 0, 1)
	opens(t, "number 0", i, all[0], text(0), text(1))
	tells(t, "number 0", i, 2, 0)
	refuses(t, "number 0 again", i, all[0], api.ErrOld)
}

// P1302: what is too short for a record, or has a number that none has, is of another form: that is told
// ahead of all else, whatever was taken.
func TestForm(t *testing.T) {
	all := sealed(t, aKey())
	for _, i := range []*In{NewIn(aKey()), opened(t, all, upTo(0, 10)...), opened(t, all, 5, 63), opened(t, all, upTo(0, many)...)} {
		for n := range over {
			for _, seq := range []int{0, 9, 10, 63, 100, last} {
				refuses(t, "short", i, all[seq][:n], api.ErrForm)
			}
			refuses(t, "short", i, strings.Repeat("\xff", n), api.ErrForm)
		}
		for _, number := range []uint64{
			many, many + 1, 511, 512, 1 << 16, 1<<31 - 1, 1 << 31, 1 << 32, 1<<32 + 1, 1<<56 + 5, 1<<63 - 1, 1 << 63, 1<<63 + 5,
			math.MaxUint64, math.MaxUint64 - 1, math.MaxUint64 - last,
		} {
			head := octet.PutBig(number, 8)
			refuses(t, "number "+octet.Hex(head), i, head+zeros(16), api.ErrForm)
			refuses(t, "number "+octet.Hex(head), i, head+all[0][8:], api.ErrForm)
			refuses(t, "number "+octet.Hex(head), i, head+zeros(3000), api.ErrForm)
		}
		refuses(t, "well sealed", i, modelRecord(aKey(), many, "x"), api.ErrForm)
		refuses(t, "well sealed", i, modelRecord(aKey(), many+1, "x"), api.ErrForm)
	}
}

// P1302: as many bytes as a record has at least are no other form; but a seal of nothing holds no Pad.
func TestLeastForm(t *testing.T) {
	all, i := sealed(t, aKey()), NewIn(aKey())
	for _, b := range []string{all[0][:over], zeros(over), modelSeal(aKey(), 0, ""), octet.PutBig(63, 8) + zeros(16)} {
		refuses(t, "least", i, b, api.ErrSeal)
	}
	refuses(t, "too far", i, octet.PutBig(64, 8)+zeros(16), api.ErrOld)
	refuses(t, "too far", i, octet.PutBig(last, 8)+zeros(16), api.ErrOld)
}

// P1302: the numbers that may come are the first that is missing and the 63 after it.
func TestWindow(t *testing.T) {
	all := sealed(t, aKey())
	for _, first := range []int{0, 1, 7, 8, 63, 64, 65, 200, 334, 335, 336, 337, 398, last} {
		i := opened(t, all, upTo(0, first)...)
		for seq := range first {
			refuses(t, "told", i, all[seq], api.ErrOld)
		}
		for seq := first + width; seq < many; seq++ {
			refuses(t, "too far", i, all[seq], api.ErrOld)
		}
		end := min(first+width, many)
		waits := 0
		if end-1 > first {
			waits = 1
			opens(t, "the last that may come", i, all[end-1])
		}
		tells(t, "the last that may come", i, first, waits)
		for seq := first + 1; seq < end-1; seq++ {
			opens(t, "ahead", i, all[seq])
			waits++
			tells(t, "ahead", i, first, waits)
		}
		opens(t, "the first", i, all[first], texts(upTo(first, end))...)
		tells(t, "the first", i, end, 0)
	}
}

// P1302: a number that was taken is refused, while its text waits and after it was told; that is told
// ahead of a wrong seal.
func TestOld(t *testing.T) {
	all := sealed(t, aKey())
	i := opened(t, all, 0, 2, 5)
	for _, seq := range []int{0, 2, 5, 65, 66, last} {
		b := all[seq]
		refuses(t, "again", i, b, api.ErrOld)
		refuses(t, "another text", i, modelRecord(aKey(), seq, "another text"), api.ErrOld)
		refuses(t, "a changed bit", i, flipped(b, 8*len(b)-1), api.ErrOld)
		refuses(t, "cut", i, b[:over], api.ErrOld)
		refuses(t, "another key", i, modelRecord(zeros(32), seq, "x"), api.ErrOld)
	}
	opens(t, "1", i, all[1], text(1), text(2))
	for seq := range 3 {
		refuses(t, "told", i, all[seq], api.ErrOld)
	}
	tells(t, "old", i, 3, 1)
}

// P1302: whatever one bit of a record is changed, nothing opens; the number's bits make it another number,
// which is old, or too great, or has another seal. Afterwards the record itself opens.
func TestEachBit(t *testing.T) {
	all := sealed(t, aKey())
	for _, first := range []int{0, 8, 15, 300, last} {
		i := opened(t, all, upTo(0, first)...)
		for bit := range 8 * len(all[first]) {
			b := flipped(all[first], bit)
			want := api.ErrSeal
			if number := octet.Big(b[:8]); number >= many {
				want = api.ErrForm
			} else if int(number) < first || int(number) >= first+width {
				want = api.ErrOld
			}
			refuses(t, "bit "+strconv.Itoa(bit), i, b, want)
		}
		opens(t, "itself", i, all[first], text(first))
	}
}

// P1302: records of other lengths, and parts of two records, don't open.
func TestOtherLengths(t *testing.T) {
	all := sealed(t, aKey())
	i := NewIn(aKey())
	b := all[0]
	for n := over; n < len(b); n++ {
		refuses(t, "cut", i, b[:n], api.ErrSeal)
		refuses(t, "grown", i, b+zeros(n), api.ErrSeal)
		refuses(t, "cut within", i, b[:8]+b[8+len(b)-n:], api.ErrSeal)
		refuses(t, "two parts", i, b[:n]+all[1][n:], api.ErrSeal)
	}
	refuses(t, "twice", i, b+b, api.ErrSeal)
	refuses(t, "another's head", i, all[1][:8]+b[8:], api.ErrSeal)
	refuses(t, "another's rest", i, b[:8]+all[1][8:], api.ErrSeal)
	opens(t, "itself", i, b, text(0))
}

// P1302: each part of what is sealed counts: the key, that of the epoch, the nonce and the number beside.
func TestOtherSeals(t *testing.T) {
	head := func(seq int) string { return octet.PutBig(uint64(seq), 8) }
	padded, _ := pad.Pad("x")
	all := sealed(t, aKey())
	for _, seq := range []int{0, 7, 8, 63, 100, last} {
		right, _ := ratchet.At(aKey(), seq/8)
		after, before := ratchet.Next(right), aKey()
		if seq/8 == 0 {
			before = zeros(32)
		}
		nonce := ratchet.Nonce(seq)
		i := opened(t, all, upTo(0, seq)...)
		for what, c := range map[string][3]string{
			"another key":         {flipped(right, 0), nonce, head(seq)},
			"the next key":        {after, nonce, head(seq)},
			"the first key":       {before, nonce, head(seq)},
			"the nonce after":     {right, ratchet.Nonce(seq + 1), head(seq)},
			"a turned nonce":      {right, head(seq) + zeros(4), head(seq)},
			"the number after":    {right, nonce, head(seq + 1)},
			"no number":           {right, nonce, ""},
			"a number of 4 bytes": {right, nonce, head(seq)[4:]},
		} {
			if what == "a turned nonce" && seq == 0 {
				continue // it is the right one
			}
			b, _ := box.Seal(c[0], c[1], padded, c[2])
			refuses(t, what, i, head(seq)+b, api.ErrSeal)
		}
		b, _ := box.Seal(right, nonce, padded, head(seq))
		opens(t, "the right one", i, head(seq)+b, "x")
	}
}

// P1302: what is sealed rightly, but is no Pad, is refused as a wrong seal.
func TestNoPad(t *testing.T) {
	i := NewIn(aKey())
	good, _ := pad.Pad("ab")
	for seq := range width {
		for what, padded := range map[string]string{
			"not padded":       "not padded",
			"nothing":          "",
			"33 bytes":         good + "\x00",
			"31 bytes":         good[:31],
			"another byte":     good[:31] + "\x01",
			"a greater size":   good + zeros(128-32),
			"too great a text": "\xff\xff" + zeros(30),
			"no room":          "\x00\x1f" + zeros(30),
		} {
			refuses(t, what, i, modelSeal(aKey(), seq, padded), api.ErrSeal)
		}
	}
	opens(t, "a Pad", i, modelSeal(aKey(), 0, good), "ab")
}

// P1302: texts of each length come out as they went in.
func TestEachLengthBack(t *testing.T) {
	var o *Out
	var i *In
	for n := 0; n <= longest; n++ {
		if n%many == 0 {
			o, i = NewOut(aKey()), NewIn(aKey())
		}
		plain := mixed(n, int64(n))
		opens(t, "each length", i, seals(t, o, plain), plain)
		tells(t, "each length", i, n%many+1, 0)
	}
}

// P1302: a whole direction in order, and each 64 records from the last to the first.
func TestOrders(t *testing.T) {
	all := sealed(t, aKey())
	i := NewIn(aKey())
	for seq := range many {
		opens(t, "in order", i, all[seq], text(seq))
		tells(t, "in order", i, seq+1, 0)
	}
	refuses(t, "the last again", i, all[last], api.ErrOld)
	i = NewIn(aKey())
	for first := 0; first < many; first += width {
		end := min(first+width, many)
		for seq := end - 1; seq > first; seq-- {
			opens(t, "backwards", i, all[seq])
			tells(t, "backwards", i, first, end-seq)
		}
		opens(t, "backwards", i, all[first], texts(upTo(first, end))...)
		tells(t, "backwards", i, end, 0)
	}
}

// P1302: texts are told up to the first that is missing; those behind it wait on.
func TestGaps(t *testing.T) {
	all := sealed(t, aKey())
	for gap := 1; gap < width; gap++ {
		i := opened(t, all, slices.Concat(upTo(1, gap), upTo(gap+1, width))...)
		tells(t, "before", i, 0, width-2)
		opens(t, "0", i, all[0], texts(upTo(0, gap))...)
		tells(t, "0", i, gap, width-1-gap)
		opens(t, "the gap", i, all[gap], texts(upTo(gap, width))...)
		tells(t, "all", i, width, 0)
	}
}

// P1302: a text that is empty waits and is told like any other.
func TestEmptyTexts(t *testing.T) {
	o, i := NewOut(aKey()), NewIn(aKey())
	var all []string
	for range 4 {
		all = append(all, seals(t, o, ""))
	}
	opens(t, "3", i, all[3])
	opens(t, "1", i, all[1])
	tells(t, "1", i, 0, 2)
	opens(t, "0", i, all[0], "", "")
	tells(t, "0", i, 2, 1)
	opens(t, "2", i, all[2], "", "")
	tells(t, "2", i, 4, 0)
}

// model remembers every number that was taken, by the document's words.
type model struct {
	taken map[int]bool
	told  int
}

// open is what Open tells of a record whose seal is right or wrong.
func (m *model) open(seq int, isRight bool) ([]string, api.Errno) {
	switch {
	case seq >= many:
		return nil, api.ErrForm
	case seq < m.told || seq >= m.told+width || m.taken[seq]:
		return nil, api.ErrOld
	case !isRight:
		return nil, api.ErrSeal
	}
	m.taken[seq] = true
	first := m.told
	for m.taken[m.told] {
		m.told++
	}
	return texts(upTo(first, m.told)), api.OK
}

func (m *model) waits() int { return len(m.taken) - m.told }

// P1302: the model's answers, for records in mixed orders with repetitions, losses, changes and numbers
// that are wrong; what is told in the end is each text once, in order.
func TestMixed(t *testing.T) {
	all := sealed(t, aKey())
	all = append(all, modelRecord(aKey(), many, text(many)))
	for run := range int64(40) {
		r := rand.New(rand.NewSource(run))
		i, m := NewIn(aKey()), &model{taken: map[int]bool{}}
		spread := []int{1, 4, 40, 64, 65, 70, 150}[run%7]
		var told []string
		for m.told < many {
			seq := min(max(m.told-2+r.Intn(spread+3), 0), many)
			if r.Intn(3) == 0 {
				seq = m.told
			}
			b, isRight := all[seq], r.Intn(8) != 0
			if !isRight {
				b = flipped(b, 64+r.Intn(8*len(b)-64))
			}
			want, e := m.open(seq, isRight)
			got, f := i.Open(b)
			if e != f || !slices.Equal(got, want) {
				t.Fatalf("run %d, Next %d, number %d: %q, %d, not %q, %d", run, i.Next(), seq, got, f, want, e)
			}
			tells(t, "mixed", i, m.told, m.waits())
			told = append(told, got...)
		}
		if !slices.Equal(told, texts(upTo(0, many))) {
			t.Errorf("run %d: %d texts", run, len(told))
		}
	}
}

// P1303: no two records of a direction have the same key and nonce, and none opens under those of another.
func TestNoneTwice(t *testing.T) {
	seen := map[[2]string]int{}
	keys := map[string]int{}
	for seq, b := range sealed(t, aKey()) {
		key, _ := ratchet.At(aKey(), seq/8)
		nonce := zeros(4) + b[:8]
		if _, is := box.Open(key, nonce, b[8:], b[:8]); !is {
			t.Errorf("number %d is not under its key and nonce", seq)
		}
		if before, is := seen[[2]string{key, nonce}]; is {
			t.Errorf("number %d has the key and nonce of %d", seq, before)
		}
		if epoch, is := keys[key]; is && epoch != seq/8 {
			t.Errorf("epoch %d has the key of %d", seq/8, epoch)
		}
		seen[[2]string{key, nonce}], keys[key] = seq, seq/8
	}
	if len(seen) != many || len(keys) != many/8 {
		t.Errorf("%d records, %d keys", len(seen), len(keys))
	}
}

// P1303: one text sealed again and again is other bytes each time, refusals between or not.
func TestSameText(t *testing.T) {
	seen := map[string]int{}
	o := NewOut(aKey())
	for seq := range many {
		if seq%3 == 0 {
			noSeal(t, o, zeros(longest+1), api.ErrLarge)
		}
		b := seals(t, o, "the same")
		if before, is := seen[b[8:]]; is {
			t.Errorf("number %d is sealed as %d", seq, before)
		}
		seen[b[8:]] = seq
	}
}

// P1303: when many seal at the same time, each number is used once, and no more records come than there
// are numbers.
func TestSealAtTheSameTime(t *testing.T) {
	o := NewOut(aKey())
	var got [8][]string
	var ended [8]int
	var all sync.WaitGroup
	for worker := range got {
		all.Go(func() {
			for range 60 {
				b, e := o.Seal("x")
				switch {
				case e == api.OK:
					got[worker] = append(got[worker], b)
				case e == api.ErrEnd && b == "":
					ended[worker]++
				default:
					t.Errorf("%d bytes, %d", len(b), e)
				}
				if next := o.Next(); next < 1 || next > many {
					t.Errorf("Next %d", next)
				}
			}
		})
	}
	all.Wait()
	records := slices.Sorted(slices.Values(slices.Concat(got[:]...)))
	for seq, b := range records {
		if b != modelRecord(aKey(), seq, "x") {
			t.Errorf("number %d: %x", seq, b)
		}
	}
	refused := 0
	for _, n := range ended {
		refused += n
	}
	if len(records) != many || refused != 80 || o.Next() != many {
		t.Errorf("%d records, %d refused, Next %d", len(records), refused, o.Next())
	}
}

// P1302: Next may be asked while records are opened, and never goes back.
func TestNextMeanwhile(t *testing.T) {
	all, i := sealed(t, aKey()), NewIn(aKey())
	var asking sync.WaitGroup
	for range 4 {
		asking.Go(func() {
			before := 0
			for range 2000 {
				next := i.Next()
				if next < before || next > many || next%2 != 0 {
					t.Errorf("%d after %d", next, before)
				}
				before = next
			}
		})
	}
	for seq := 0; seq < many; seq += 2 {
		opens(t, "meanwhile", i, all[seq+1])
		opens(t, "meanwhile", i, all[seq], text(seq), text(seq+1))
	}
	asking.Wait()
}

// P1301, P1302: a key is derived once an epoch: the first record of an epoch costs the memory of the
// derivations, those after it don't.
func TestDerivedOnce(t *testing.T) {
	const first = 392 // of the last epoch
	all := sealed(t, aKey())
	deriving := testing.AllocsPerRun(1, func() { ratchet.At(aKey(), first/8) })
	o := NewOut(aKey())
	for range first {
		seals(t, o, "x")
	}
	sealing := testing.AllocsPerRun(6, func() { o.Seal("x") }) // it runs once more ahead of these
	if sealing > deriving/2 {
		t.Errorf("allocations: %v of a key, %v of a record that is sealed", deriving, sealing)
	}
	i := opened(t, all, upTo(0, first)...)
	next := first
	opening := testing.AllocsPerRun(6, func() {
		i.Open(all[next])
		next++
	})
	if opening > deriving/2 {
		t.Errorf("allocations: %v of a key, %v of a record that is opened", deriving, opening)
	}
	if o.Next() != last || i.Next() != last {
		t.Errorf("Next %d, %d", o.Next(), i.Next())
	}
}

// P1301, P1302: no Out and no In knows what another has done.
func TestOwn(t *testing.T) {
	a, b := NewOut(aKey()), NewOut(aKey())
	first := seals(t, a, "x")
	seals(t, a, "y")
	if got := seals(t, b, "x"); got != first || a.Next() != 2 || b.Next() != 1 {
		t.Errorf("%x, not %x; Next %d, %d", got, first, a.Next(), b.Next())
	}
	all := sealed(t, aKey())
	i, j := opened(t, all, 0, 2), opened(t, all, 1)
	tells(t, "one", i, 1, 1)
	tells(t, "the other", j, 0, 1)
	opens(t, "the other", j, all[0], text(0), text(1))
	tells(t, "one", i, 1, 1)
	keys := ratchet.Session("secret", "salt")
	up := seals(t, NewOut(keys.Up), "x")
	refuses(t, "the other direction", NewIn(keys.Down), up, api.ErrSeal)
	opens(t, "this direction", NewIn(keys.Up), up, "x")
}

// within tells whether a string lies in the memory of another.
func within(part, whole string) bool {
	if part == "" || whole == "" {
		return false
	}
	p, w := uintptr(unsafe.Pointer(unsafe.StringData(part))), uintptr(unsafe.Pointer(unsafe.StringData(whole)))
	return p >= w && p < w+uintptr(len(whole))
}

// P1301, P1302: what is told is new memory, and what was given isn't held.
func TestNewMemory(t *testing.T) {
	memory := []byte(aKey())
	lent := unsafe.String(&memory[0], len(memory))
	o, i := NewOut(lent), NewIn(lent)
	clear(memory)
	plain := mixed(20, 3)
	b := seals(t, o, plain)
	if b != modelRecord(aKey(), 0, plain) || within(b, plain) || within(plain, b) {
		t.Errorf("sealed: %x", b)
	}
	seals(t, o, "")
	later := []byte(modelRecord(aKey(), 1, "waits"))
	opens(t, "ahead", i, unsafe.String(&later[0], len(later)))
	clear(later)
	got, e := i.Open(b)
	if e != api.OK || !slices.Equal(got, []string{plain, "waits"}) || within(got[0], b) || within(b, got[0]) {
		t.Fatalf("%q, %d", got, e)
	}
	got[0], got[1] = "other", "texts"
	_ = append(got[:0], "more")
	opens(t, "after a list was changed", i, modelRecord(aKey(), 2, "x"), "x")
	tells(t, "after a list was changed", i, 3, 0)
}

func BenchmarkDirection(b *testing.B) {
	for b.Loop() {
		o, i := NewOut(aKey()), NewIn(aKey())
		for range many {
			r, _ := o.Seal("x")
			i.Open(r)
		}
	}
}
