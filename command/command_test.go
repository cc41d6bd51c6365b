package command

import (
	"encoding/binary"
	"fmt"
	"math"
	"math/rand"
	"slices"
	"strings"
	"sync"
	"testing"
	"unsafe"

	"escutcheon/api"
)

// greatest is the greatest number of a command or a reply.
const greatest = 1_000_000_000_000

// The most bytes of a key and of a value, and the most keys.
const (
	longKey   = 60
	longValue = 500
	manyKeys  = 40
)

// wantNames are the names of the operations from 1 on.
func wantNames() []string {
	return []string{"get", "set", "add", "replace", "del", "cas", "incr", "append", "touch", "ttl", "scan", "flush", "stats"}
}

// noOps are numbers that are no operation, also those of which the low bytes are one.
func noOps() []int {
	return []int{0, 14, 15, 100, 255, 256, 257, 258, 269, 1<<16 + 1, 1<<32 + 1, 1<<56 + 2, math.MaxInt, -1, -2, -255, -256 + 3, -13, math.MinInt, math.MinInt + 1}
}

// mixed is n bytes of all kinds, the same ones for the same n and seed.
func mixed(n int, seed int64) string {
	b := make([]byte, n)
	rand.New(rand.NewSource(seed)).Read(b)
	return string(b)
}

// modelRight tells whether a command may be, by the document's words.
func modelRight(c api.Command) bool {
	least, most := 1, longKey
	switch c.Op {
	case 11:
		least = 0
	case 12, 13:
		least, most = 0, 0
	}
	return c.Op >= 1 && c.Op <= 13 && len(c.Key) >= least && len(c.Key) <= most && len(c.Value) <= longValue && modelNumbers(c.Num, c.Ver)
}

func modelNumbers(num, ver int) bool {
	return num >= -greatest && num <= greatest && ver >= 0 && ver <= greatest
}

// modelPut is the bytes of a command by the document's words.
func modelPut(c api.Command) (string, bool) {
	if !modelRight(c) {
		return "", false
	}
	b := []byte{byte(c.Op)}
	b = binary.BigEndian.AppendUint64(b, uint64(c.Num+greatest))
	b = binary.BigEndian.AppendUint64(b, uint64(c.Ver))
	b = append(b, byte(len(c.Key)))
	b = append(b, c.Key...)
	return string(append(b, c.Value...)), true
}

// modelGet is the command whose Put b is: only what stands at its places can be that command.
func modelGet(b string) (api.Command, bool) {
	if len(b) < 18 || len(b) < 18+int(b[17]) {
		return api.Command{}, false
	}
	end := 18 + int(b[17])
	c := api.Command{Op: int(b[0]), Num: modelNumber(b[1:9]) - greatest, Ver: modelNumber(b[9:17]), Key: b[18:end], Value: b[end:]}
	if again, is := modelPut(c); !is || again != b {
		return api.Command{}, false
	}
	return c, true
}

// modelNumber is the number of eight bytes, or one that neither Num nor Ver comes to.
func modelNumber(b string) int {
	return int(min(binary.BigEndian.Uint64([]byte(b)), 4*greatest))
}

// modelReplyRight tells whether a reply has bytes, by the document's words.
func modelReplyRight(r api.Reply) bool {
	long := func(key string) bool { return len(key) > longKey }
	return r.Errno >= 0 && r.Errno <= 15 && modelNumbers(r.Num, r.Ver) && len(r.Value) <= longValue && len(r.Keys) <= manyKeys && !slices.ContainsFunc(r.Keys, long)
}

// modelPutReply is the bytes of a reply by the document's words.
func modelPutReply(r api.Reply) (string, bool) {
	if !modelReplyRight(r) {
		return "", false
	}
	b := []byte{byte(r.Errno)}
	b = binary.BigEndian.AppendUint64(b, uint64(r.Num+greatest))
	b = binary.BigEndian.AppendUint64(b, uint64(r.Ver))
	b = binary.BigEndian.AppendUint16(b, uint16(len(r.Value)))
	b = append(b, r.Value...)
	b = append(b, byte(len(r.Keys)))
	for _, key := range r.Keys {
		b = append(b, byte(len(key)))
		b = append(b, key...)
	}
	return string(b), true
}

// modelGetReply is the reply whose PutReply b is.
func modelGetReply(b string) (api.Reply, bool) {
	if len(b) < 19 {
		return api.Reply{}, false
	}
	at := 19 + 256*int(b[17]) + int(b[18])
	if len(b) <= at {
		return api.Reply{}, false
	}
	r := api.Reply{Errno: api.Errno(b[0]), Num: modelNumber(b[1:9]) - greatest, Ver: modelNumber(b[9:17]), Value: b[19:at]}
	n := int(b[at])
	at++
	for range n {
		if at >= len(b) || at+1+int(b[at]) > len(b) {
			return api.Reply{}, false
		}
		end := at + 1 + int(b[at])
		r.Keys = append(r.Keys, b[at+1:end])
		at = end
	}
	if again, is := modelPutReply(r); !is || again != b {
		return api.Reply{}, false
	}
	return r, true
}

// said tells a command in a line that can be read.
func said(c api.Command) string {
	return fmt.Sprintf("%d, %d bytes %.60q, %d bytes %.60q, %d, %d", c.Op, len(c.Key), c.Key, len(c.Value), c.Value, c.Num, c.Ver)
}

// saidReply tells a reply in a line that can be read.
func saidReply(r api.Reply) string {
	return fmt.Sprintf("%d, %d bytes %.60q, %d, %d, %d keys %.60q", r.Errno, len(r.Value), r.Value, r.Num, r.Ver, len(r.Keys), r.Keys)
}

// sameReply tells whether two replies are one; a list that is nil and one that is empty are.
func sameReply(a, b api.Reply) bool {
	return a.Errno == b.Errno && a.Value == b.Value && a.Num == b.Num && a.Ver == b.Ver && slices.Equal(a.Keys, b.Keys)
}

// puts holds Right, Put and Get of a command against the model.
func puts(t *testing.T, c api.Command) {
	t.Helper()
	want, right := modelPut(c)
	b, is := Put(c)
	if Right(c) != right || is != right || b != want {
		t.Errorf("%s: right %t, Put %.60q, %t, not %.60q, %t", said(c), Right(c), b, is, want, right)
	}
	if !right {
		return
	}
	if got, is := Get(b); got != c || !is {
		t.Errorf("Get of Put: %s, %t, not %s", said(got), is, said(c))
	}
}

// gets holds Get of bytes against the model, and tells whether they are a command.
func gets(t *testing.T, what, b string) bool {
	t.Helper()
	want, right := modelGet(b)
	got, is := Get(b)
	if got != want || is != right {
		t.Errorf("%s: Get of %.60x: %s, %t, not %s, %t", what, b, said(got), is, said(want), right)
	}
	return is
}

// putsReply holds PutReply and GetReply of a reply against the model.
func putsReply(t *testing.T, r api.Reply) {
	t.Helper()
	want, right := modelPutReply(r)
	b, is := PutReply(r)
	if is != right || b != want {
		t.Errorf("PutReply of %s: %.60q, %t, not %.60q, %t", saidReply(r), b, is, want, right)
	}
	if !right {
		return
	}
	if got, is := GetReply(b); !sameReply(got, r) || !is {
		t.Errorf("GetReply of PutReply: %s, %t, not %s", saidReply(got), is, saidReply(r))
	}
}

// getsReply holds GetReply of bytes against the model, and tells whether they are a reply.
func getsReply(t *testing.T, what, b string) bool {
	t.Helper()
	want, right := modelGetReply(b)
	got, is := GetReply(b)
	if !sameReply(got, want) || is != right {
		t.Errorf("%s: GetReply of %.60x: %s, %t, not %s, %t", what, b, saidReply(got), is, saidReply(want), right)
	}
	if !is && got.Keys != nil {
		t.Errorf("%s: GetReply of %.60x: false, and keys beside it", what, b)
	}
	return is
}

// edges are numbers around the bounds of Num and Ver, at the ends of the ints, and those that a sum or a
// cut would bring within the bounds.
func edges() []int {
	list := []int{math.MaxInt, math.MaxInt - 1, math.MaxInt - greatest, math.MaxInt - greatest + 1, math.MinInt, math.MinInt + 1,
		math.MinInt + greatest, math.MinInt + greatest - 1, math.MinInt + 2*greatest, 1 << 32, 1 << 40, -1 << 40, 1 << 62, 2 * greatest, -2 * greatest}
	for _, middle := range []int{0, greatest, -greatest} {
		for d := -3; d <= 3; d++ {
			list = append(list, middle+d)
		}
	}
	return list
}

// P1001: the names, in their order, and none for any other number.
func TestName(t *testing.T) {
	for i, want := range wantNames() {
		for range 2 {
			if got := Name(i + 1); got != want {
				t.Errorf("Name(%d): %q, not %q", i+1, got, want)
			}
		}
	}
	for _, op := range noOps() {
		if got := Name(op); got != "" {
			t.Errorf("Name(%d): %q", op, got)
		}
	}
	for _, c := range []struct {
		op   int
		name string
	}{{api.Get, "get"}, {api.Cas, "cas"}, {api.Scan, "scan"}, {api.Stats, "stats"}} {
		if got := Name(c.op); got != c.name {
			t.Errorf("Name(%d): %q, not %q", c.op, got, c.name)
		}
	}
}

// P1001: the class of each operation, and 0 for any other number.
func TestClass(t *testing.T) {
	for op, want := range []int{0, 1, 2, 2, 2, 2, 2, 2, 2, 2, 1, 1, 3, 3, 0, 0} {
		if got := Class(op); got != want {
			t.Errorf("Class(%d): %d, not %d", op, got, want)
		}
	}
	for _, op := range noOps() {
		if got := Class(op); got != 0 {
			t.Errorf("Class(%d): %d", op, got)
		}
	}
	if Class(api.Cas) != api.Write || Class(api.Ttl) != api.Read || Class(api.Flush) != api.Admin {
		t.Error(Class(api.Cas), Class(api.Ttl), Class(api.Flush))
	}
}

// P1001: what a key may be, written out for each kind of operation.
func TestRightKeys(t *testing.T) {
	long := strings.Repeat("k", longKey)
	for op := 1; op <= 13; op++ {
		none, some, full := false, true, true
		switch op {
		case api.Scan:
			none = true
		case api.Flush, api.Stats:
			none, some, full = true, false, false
		}
		for _, c := range []struct {
			key  string
			want bool
		}{{"", none}, {"k", some}, {"\x00", some}, {"\n ", some}, {"\xff\xfe", some}, {long, full}, {long + "k", false}, {long + long, false}} {
			if got := Right(api.Command{Op: op, Key: c.key}); got != c.want {
				t.Errorf("op %d, %d bytes of key: %t, not %t", op, len(c.key), got, c.want)
			}
		}
		// Bytes count, not runes: thirty of two bytes each are the most.
		wide := strings.Repeat("\u00e9", 30)
		if Right(api.Command{Op: op, Key: wide}) != full || Right(api.Command{Op: op, Key: wide + "\u00e9"}) {
			t.Errorf("op %d: runes", op)
		}
	}
}

// P1001, P1002: each operation with keys and values of all lengths around their bounds.
func TestEachLength(t *testing.T) {
	for op := -1; op <= 15; op++ {
		for n := 0; n <= 320; n++ {
			puts(t, api.Command{Op: op, Key: mixed(n, int64(n)), Value: "value"})
			puts(t, api.Command{Op: op, Key: strings.Repeat("\x00", n)})
		}
		for _, key := range []string{"", "key"} {
			for n := range 520 {
				puts(t, api.Command{Op: op, Key: key, Value: mixed(n, int64(n)), Num: n, Ver: n})
			}
			for _, n := range []int{255, 256, 1000, 65535, 65536, 65536 + 5} {
				puts(t, api.Command{Op: op, Key: key, Value: strings.Repeat("\x00", n)})
			}
		}
	}
}

// P1001, P1002: each operation with the numbers at the edges.
func TestEachNumber(t *testing.T) {
	for _, op := range append([]int{1, 2, 11, 12, 13}, noOps()...) {
		key := "key"
		if op > 11 && op < 14 {
			key = ""
		}
		for _, num := range edges() {
			for _, ver := range edges() {
				puts(t, api.Command{Op: op, Key: key, Value: "v", Num: num, Ver: ver})
			}
		}
	}
	for _, c := range []struct {
		num, ver int
		want     bool
	}{
		{0, 0, true}, {greatest, greatest, true}, {-greatest, 0, true}, {greatest + 1, 0, false}, {-greatest - 1, 0, false},
		{0, greatest + 1, false}, {0, -1, false}, {0, -greatest, false}, {math.MaxInt, 0, false}, {math.MinInt, 0, false}, {0, math.MaxInt, false}, {0, math.MinInt, false},
	} {
		if got := Right(api.Command{Op: api.Stats, Num: c.num, Ver: c.ver}); got != c.want {
			t.Errorf("%d, %d: %t, not %t", c.num, c.ver, got, c.want)
		}
	}
}

// P1002: commands whose bytes are written out; the document's example is one.
func TestPutKnown(t *testing.T) {
	for _, c := range []struct {
		command api.Command
		b       string
	}{
		{api.Command{Op: api.Stats, Num: -greatest}, "\x0d" + strings.Repeat("\x00", 17)},
		{api.Command{Op: api.Stats}, "\x0d\x00\x00\x00\xe8\xd4\xa5\x10\x00" + strings.Repeat("\x00", 9)},
		{api.Command{Op: api.Get, Key: "k", Num: greatest, Ver: greatest},
			"\x01\x00\x00\x01\xd1\xa9\x4a\x20\x00\x00\x00\x00\xe8\xd4\xa5\x10\x00\x01k"},
		{api.Command{Op: api.Set, Key: "key", Value: "value", Num: 258 - greatest, Ver: 0x0102030405},
			"\x02\x00\x00\x00\x00\x00\x00\x01\x02\x00\x00\x00\x01\x02\x03\x04\x05\x03keyvalue"},
		{api.Command{Op: api.Scan, Value: "a\x00\u00e9", Num: -1, Ver: 1},
			"\x0b\x00\x00\x00\xe8\xd4\xa5\x0f\xff\x00\x00\x00\x00\x00\x00\x00\x01\x00a\x00\xc3\xa9"},
		{api.Command{Op: api.Del, Key: strings.Repeat("k", 60), Value: strings.Repeat("v", 500), Num: -greatest, Ver: 255},
			"\x05\x00\x00\x00\x00\x00\x00\x00\x00\x00\x00\x00\x00\x00\x00\x00\xff\x3c" + strings.Repeat("k", 60) + strings.Repeat("v", 500)},
	} {
		if b, is := Put(c.command); b != c.b || !is {
			t.Errorf("Put: %x, %t, not %x", b, is, c.b)
		}
		if got, is := Get(c.b); got != c.command || !is {
			t.Errorf("Get: %s, %t, not %s", said(got), is, said(c.command))
		}
	}
}

// P1002: a command that is refused has no bytes.
func TestPutRefuses(t *testing.T) {
	for _, c := range []api.Command{
		{}, {Op: 14, Key: "k"}, {Op: 257, Key: "k"}, {Op: -1, Key: "k"}, {Op: api.Get}, {Op: api.Flush, Key: "k"},
		{Op: api.Get, Key: strings.Repeat("k", 61)}, {Op: api.Get, Key: strings.Repeat("k", 257)},
		{Op: api.Scan, Key: strings.Repeat("k", 61)}, {Op: api.Set, Key: "k", Value: strings.Repeat("v", 501)},
		{Op: api.Get, Key: "k", Num: greatest + 1}, {Op: api.Get, Key: "k", Num: -greatest - 1},
		{Op: api.Get, Key: "k", Ver: -1}, {Op: api.Get, Key: "k", Ver: greatest + 1},
	} {
		if b, is := Put(c); b != "" || is || Right(c) {
			t.Errorf("Put of %s: %.60x, %t", said(c), b, is)
		}
	}
}

// numberBytes are eight bytes that tell a number in the bounds, beyond them, or one that wraps round.
func numberBytes() []string {
	var list []string
	for _, v := range []uint64{0, 1, 255, 256, greatest - 1, greatest, greatest + 1, 2*greatest - 1, 2 * greatest, 2*greatest + 1,
		3 * greatest, 4 * greatest, 1 << 56, 1 << 62, 1<<63 - 1, 1 << 63, 1<<63 + 1, 1<<63 + greatest - 1, 1<<63 + greatest, 1<<63 + greatest + 1,
		1<<63 + 2*greatest, 1<<63 + 2*greatest + 1, -2 * greatest & math.MaxUint64, -greatest & math.MaxUint64, math.MaxUint64 - 1, math.MaxUint64} {
		list = append(list, string(binary.BigEndian.AppendUint64(nil, v)))
	}
	return list
}

// P1002, P1003: numbers of eight bytes, those too that no Num and no Ver comes to.
func TestEachNumberBytes(t *testing.T) {
	taken := 0
	for _, num := range numberBytes() {
		for _, ver := range numberBytes() {
			if gets(t, "numbers", "\x02"+num+ver+"\x01kv") {
				taken++
			}
			gets(t, "numbers", "\x0d"+num+ver+"\x00")
			getsReply(t, "numbers", "\x00"+num+ver+"\x00\x01v\x01\x01k")
		}
	}
	if taken != 9*6 {
		t.Error("taken:", taken)
	}
}

// P1002: each first byte and each length of a key, with bytes of several lengths after them.
func TestGetEachClaim(t *testing.T) {
	numbers := strings.Repeat("\x00", 16)
	for op := range 256 {
		for _, rest := range []string{"\x00", "\x00v", "\x01", "\x01k", "\x01kv", "\x02k"} {
			gets(t, "each op", string([]byte{byte(op)})+numbers+rest)
		}
	}
	for _, op := range []string{"\x01", "\x0b", "\x0c", "\x0d"} {
		for claim := range 256 {
			for n := 0; n <= 300; n += 3 {
				gets(t, "each length", op+numbers+string([]byte{byte(claim)})+strings.Repeat("x", n))
			}
			for _, n := range []int{claim - 1, claim, claim + 1, claim + 499, claim + 500, claim + 501} {
				gets(t, "each length", op+numbers+string([]byte{byte(claim)})+strings.Repeat("x", max(n, 0)))
			}
		}
	}
}

// someCommands are right ones of several kinds.
func someCommands() []api.Command {
	return []api.Command{
		{Op: api.Get, Key: "k"}, {Op: api.Set, Key: "key", Value: "value", Num: -3, Ver: 258}, {Op: api.Scan}, {Op: api.Scan, Value: "after", Num: 40},
		{Op: api.Flush}, {Op: api.Stats, Num: -greatest, Value: "\x00"}, {Op: api.Del, Key: "\x00", Num: greatest, Ver: greatest},
		{Op: api.Cas, Key: mixed(60, 1), Value: mixed(500, 2), Num: 12345, Ver: 67890},
	}
}

// P1002: cut, grown and changed bytes of commands.
func TestGetChanged(t *testing.T) {
	for _, c := range someCommands() {
		b, is := Put(c)
		if !is {
			t.Fatal(said(c))
		}
		for i := range len(b) {
			gets(t, "cut at its end", b[:i])
			gets(t, "cut at its beginning", b[i:])
		}
		for _, more := range []string{"\x00", "x", strings.Repeat("x", 499), strings.Repeat("x", 500), strings.Repeat("x", 501), b} {
			gets(t, "grown", b+more)
			gets(t, "grown ahead", more+b)
		}
		changed := []byte(b)
		for bit := range 8 * len(b) {
			changed[bit/8] ^= 1 << (bit % 8)
			gets(t, "one bit", string(changed))
			changed[bit/8] ^= 1 << (bit % 8)
		}
	}
	for _, b := range []string{"", "\x01", "\x0d", strings.Repeat("\x00", 18), strings.Repeat("\xff", 18), strings.Repeat("\xff", 600), strings.Repeat("\x01", 100000)} {
		if got, is := Get(b); is || got != (api.Command{}) {
			t.Errorf("Get of %.40x: %s, %t", b, said(got), is)
		}
	}
}

// draw is n bytes of all kinds, without the time that a new source of them takes.
func draw(r *rand.Rand, n int) string {
	b := make([]byte, n)
	r.Read(b)
	return string(b)
}

// drawNumber is eight bytes, most of them of a number in the bounds.
func drawNumber(r *rand.Rand) string {
	v := uint64(r.Int63n(2*greatest + 10))
	if r.Intn(3) == 0 {
		v = r.Uint64() >> r.Intn(64)
	}
	return string(binary.BigEndian.AppendUint64(nil, v))
}

// P1002: bytes of all kinds that are nearly a command.
func TestGetMixed(t *testing.T) {
	r := rand.New(rand.NewSource(10))
	taken := 0
	for range 60000 {
		n := r.Intn(66)
		if r.Intn(4) == 0 {
			n = 0
		}
		b := string([]byte{byte(r.Intn(16))}) + drawNumber(r) + drawNumber(r) + string([]byte{byte(n)}) + draw(r, max(0, n-2+r.Intn(30)*r.Intn(19)))
		if gets(t, "mixed", b) {
			taken++
		}
	}
	if taken < 5000 {
		t.Error("too few that are a command:", taken)
	}
}

// P1002: two commands have different bytes.
func TestPutsDiffer(t *testing.T) {
	of := map[string]api.Command{}
	for _, op := range []int{1, 2, 11} {
		for _, key := range []string{"", "a", "b", "ab", "\x00", "\x01a"} {
			for _, value := range []string{"", "a", "b", "ab", "\x00", "\x01a"} {
				for _, num := range []int{0, 1, -1, 256} {
					for _, ver := range []int{0, 1, 256} {
						c := api.Command{Op: op, Key: key, Value: value, Num: num, Ver: ver}
						b, is := Put(c)
						if before, was := of[b]; is && was {
							t.Errorf("%s and %s have the same bytes", said(before), said(c))
						}
						of[b] = c
					}
				}
			}
		}
	}
}

// P1003: replies whose bytes are written out.
func TestPutReplyKnown(t *testing.T) {
	for _, c := range []struct {
		reply api.Reply
		b     string
	}{
		{api.Reply{}, "\x00\x00\x00\x00\xe8\xd4\xa5\x10\x00" + strings.Repeat("\x00", 11)},
		{api.Reply{Errno: api.ErrShut, Num: -greatest}, "\x0f" + strings.Repeat("\x00", 19)},
		{api.Reply{Num: greatest, Ver: greatest}, "\x00\x00\x00\x01\xd1\xa9\x4a\x20\x00\x00\x00\x00\xe8\xd4\xa5\x10\x00\x00\x00\x00"},
		{api.Reply{Errno: 9, Value: "val", Num: 7 - greatest, Ver: 258, Keys: []string{"a", "", "bcd"}},
			"\x09\x00\x00\x00\x00\x00\x00\x00\x07\x00\x00\x00\x00\x00\x00\x01\x02\x00\x03val\x03\x01a\x00\x03bcd"},
		{api.Reply{Num: -greatest, Value: strings.Repeat("\u00e9", 250)},
			strings.Repeat("\x00", 17) + "\x01\xf4" + strings.Repeat("\xc3\xa9", 250) + "\x00"},
		{api.Reply{Num: -greatest, Keys: make([]string, 40)}, strings.Repeat("\x00", 19) + "\x28" + strings.Repeat("\x00", 40)},
		{api.Reply{Num: -greatest, Keys: []string{strings.Repeat("k", 60)}}, strings.Repeat("\x00", 19) + "\x01\x3c" + strings.Repeat("k", 60)},
	} {
		if b, is := PutReply(c.reply); b != c.b || !is {
			t.Errorf("PutReply: %x, %t, not %x", b, is, c.b)
		}
		if got, is := GetReply(c.b); !sameReply(got, c.reply) || !is {
			t.Errorf("GetReply: %s, %t, not %s", saidReply(got), is, saidReply(c.reply))
		}
	}
}

// P1003: a reply that is refused has no bytes; each bound for itself.
func TestPutReplyRefuses(t *testing.T) {
	for _, r := range []api.Reply{
		{Errno: 16}, {Errno: -1}, {Errno: 256}, {Errno: math.MinInt}, {Num: greatest + 1}, {Num: -greatest - 1}, {Num: math.MinInt}, {Ver: -1}, {Ver: greatest + 1},
		{Value: strings.Repeat("v", 501)}, {Value: strings.Repeat("v", 65536)}, {Keys: make([]string, 41)}, {Keys: make([]string, 256)},
		{Keys: []string{strings.Repeat("k", 61)}}, {Keys: []string{"", strings.Repeat("k", 61)}}, {Keys: []string{strings.Repeat("k", 256), ""}},
	} {
		if b, is := PutReply(r); b != "" || is {
			t.Errorf("PutReply of %s: %.60x, %t", saidReply(r), b, is)
		}
	}
}

// P1003: replies with each part at its edges.
func TestEachReply(t *testing.T) {
	for errno := api.Errno(-300); errno <= 300; errno++ {
		putsReply(t, api.Reply{Errno: errno})
		putsReply(t, api.Reply{Errno: errno, Value: "v", Num: 1, Ver: 2, Keys: []string{"k"}})
	}
	for _, num := range edges() {
		for _, ver := range edges() {
			putsReply(t, api.Reply{Num: num, Ver: ver})
		}
	}
	for _, n := range append(edges(), noOps()...) {
		putsReply(t, api.Reply{Errno: api.Errno(n)})
	}
	for n := range 600 {
		putsReply(t, api.Reply{Value: mixed(n, int64(n))})
		putsReply(t, api.Reply{Value: strings.Repeat("\x00", n), Keys: []string{"k", ""}})
		putsReply(t, api.Reply{Keys: make([]string, n)})
		putsReply(t, api.Reply{Keys: []string{"", strings.Repeat("\x01", n), "last"}})
		keys := make([]string, min(n, 42))
		for i := range keys {
			keys[i] = mixed((i*7+n)%62, int64(n+i))
		}
		putsReply(t, api.Reply{Errno: 3, Value: "v", Keys: keys})
	}
	putsReply(t, api.Reply{Keys: []string{}})
	full := make([]string, manyKeys)
	for i := range full {
		full[i] = mixed(longKey, int64(i))
	}
	putsReply(t, api.Reply{Errno: 15, Value: mixed(longValue, 1), Num: greatest, Ver: greatest, Keys: full})
	// The last key counts too, and so does the one after it.
	full[manyKeys-1] += "k"
	putsReply(t, api.Reply{Keys: full})
}

// P1003: each first byte, each length of a value and each number of keys.
func TestGetReplyEachClaim(t *testing.T) {
	numbers := strings.Repeat("\x00", 16)
	for errno := range 256 {
		getsReply(t, "each error", string([]byte{byte(errno)})+numbers+"\x00\x00\x00")
	}
	for claim := range 1 << 16 {
		head := "\x00" + numbers + string([]byte{byte(claim >> 8), byte(claim)})
		getsReply(t, "each length", head+strings.Repeat("\x00", 300))
		if claim < 700 || claim%256 < 2 {
			for d := range 4 {
				getsReply(t, "each length", head+strings.Repeat("\x00", claim+d))
			}
		}
	}
	for count := range 256 {
		head := "\x00" + numbers + "\x00\x00" + string([]byte{byte(count)})
		for n := range 300 {
			getsReply(t, "each count", head+strings.Repeat("\x00", n))
		}
		for n := range 64 {
			key := string([]byte{byte(n)}) + strings.Repeat("k", n)
			getsReply(t, "each count", head+strings.Repeat(key, count))
		}
	}
	for claim := range 256 {
		for n := range 260 {
			getsReply(t, "each key", "\x00"+numbers+"\x00\x00\x01"+string([]byte{byte(claim)})+strings.Repeat("k", n))
		}
	}
}

// someReplies are right ones of several kinds.
func someReplies() []api.Reply {
	return []api.Reply{
		{}, {Errno: api.ErrShut}, {Value: "value", Ver: 3}, {Num: -1}, {Num: greatest, Ver: greatest, Keys: []string{""}},
		{Errno: 9, Value: "val", Num: -5, Ver: 7, Keys: []string{"a", "", "bcd"}}, {Keys: []string{"", "", ""}}, {Num: -greatest, Value: "\x00\x00"},
		{Value: mixed(500, 1), Keys: []string{mixed(60, 2), mixed(31, 3)}},
	}
}

// P1003: cut, grown and changed bytes of replies.
func TestGetReplyChanged(t *testing.T) {
	for _, r := range someReplies() {
		b, is := PutReply(r)
		if !is {
			t.Fatal(saidReply(r))
		}
		for i := range len(b) {
			if getsReply(t, "cut at its end", b[:i]) {
				t.Errorf("%s, cut at %d, is a reply", saidReply(r), i)
			}
			getsReply(t, "cut at its beginning", b[i:])
		}
		for _, more := range []string{"\x00", "x", "\x01k", b} {
			if getsReply(t, "grown", b+more) {
				t.Errorf("%s, grown, is a reply", saidReply(r))
			}
			getsReply(t, "grown ahead", more+b)
		}
		changed := []byte(b)
		for bit := range 8 * len(b) {
			changed[bit/8] ^= 1 << (bit % 8)
			getsReply(t, "one bit", string(changed))
			changed[bit/8] ^= 1 << (bit % 8)
		}
	}
	for _, b := range []string{"", "\x00", strings.Repeat("\x00", 19), strings.Repeat("\xff", 20), strings.Repeat("\xff", 70000), strings.Repeat("\x00", 100000)} {
		if got, is := GetReply(b); is || !sameReply(got, api.Reply{}) {
			t.Errorf("GetReply of %.40x: %s, %t", b, saidReply(got), is)
		}
	}
}

// P1003: bytes of all kinds that are nearly a reply.
func TestGetReplyMixed(t *testing.T) {
	r := rand.New(rand.NewSource(11))
	taken := 0
	for range 40000 {
		n := r.Intn(505)
		b := string([]byte{byte(r.Intn(17))}) + drawNumber(r) + drawNumber(r) + string([]byte{byte(n >> 8), byte(n)}) + draw(r, n)
		count := r.Intn(8)
		if r.Intn(8) == 0 {
			count = r.Intn(44)
		}
		b += string([]byte{byte(count)})
		for range count {
			n := r.Intn(1 + r.Intn(62))
			b += string([]byte{byte(n)}) + draw(r, n)
		}
		b = b[:len(b)-r.Intn(2)*r.Intn(2)]
		if getsReply(t, "mixed", b) {
			taken++
		}
	}
	if taken < 5000 {
		t.Error("too few that are a reply:", taken)
	}
}

// within tells whether a string lies in the memory of another.
func within(part, whole string) bool {
	if part == "" || whole == "" {
		return false
	}
	p, w := uintptr(unsafe.Pointer(unsafe.StringData(part))), uintptr(unsafe.Pointer(unsafe.StringData(whole)))
	return p >= w && p < w+uintptr(len(whole))
}

// P1001, P1002: what is told of a command shares no memory with what was given, or is told later.
func TestOwnMemory(t *testing.T) {
	c := api.Command{Op: api.Set, Key: mixed(60, 1), Value: mixed(500, 2)}
	b, _ := Put(c)
	later, _ := Put(c)
	if within(b, later) || within(c.Key, b) || within(c.Value, b) {
		t.Error("Put: shared")
	}
	got, is := Get(b)
	again, _ := Get(b)
	if !is || got != c || within(got.Key, b) || within(got.Value, b) || within(got.Key, again.Key) || within(got.Value, again.Value) {
		t.Error("Get: shared")
	}
	for op := 1; op <= 13; op++ {
		if within(Name(op), Name(op)) {
			t.Errorf("Name(%d): shared", op)
		}
	}
}

// P1003: the same of a reply, whose list is its own and isn't written into.
func TestReplyOwnMemory(t *testing.T) {
	r := api.Reply{Value: mixed(500, 1), Keys: []string{mixed(60, 2), mixed(60, 2), "short"}}
	keys := slices.Clone(r.Keys)
	b, _ := PutReply(r)
	later, _ := PutReply(r)
	if !slices.Equal(r.Keys, keys) || within(b, later) {
		t.Error("PutReply: changed or shared")
	}
	got, is := GetReply(b)
	again, _ := GetReply(b)
	if !is || !sameReply(got, r) || within(got.Value, b) || within(got.Value, again.Value) {
		t.Fatal("GetReply: shared")
	}
	for i := range got.Keys {
		if within(got.Keys[i], b) || within(got.Keys[i], again.Keys[i]) {
			t.Errorf("key %d: shared", i)
		}
	}
	got.Keys[0] = "changed"
	_ = append(got.Keys[:1], "changed")
	if third, _ := GetReply(b); !sameReply(third, r) || !sameReply(again, r) {
		t.Error("a list that was changed is told again")
	}
}

// P1001, P1002, P1003: calls at the same time tell what they tell alone.
func TestAtTheSameTime(t *testing.T) {
	var all sync.WaitGroup
	wanted := wantNames()
	for range 8 {
		all.Go(func() {
			for i := range 300 {
				if got := Name(1 + i%13); got != wanted[i%13] {
					t.Errorf("Name(%d): %q", 1+i%13, got)
				}
				puts(t, api.Command{Op: 1 + i%11, Key: mixed(1+i%60, int64(i)), Value: mixed(i, int64(i)), Num: -i, Ver: i})
				putsReply(t, api.Reply{Errno: api.Errno(i % 16), Value: mixed(i, int64(i)), Num: -i, Ver: i, Keys: []string{mixed(i%61, int64(i))}})
			}
		})
	}
	all.Wait()
}
