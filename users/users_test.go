package users

import (
	"math"
	"math/rand"
	"slices"
	"strconv"
	"strings"
	"sync"
	"sync/atomic"
	"testing"
	"unsafe"

	"escutcheon/api"
)

const (
	fails = 3  // till a user is locked out
	ticks = 20 // of a lockout
)

// secretOf is n bytes, the same for the same n and first byte.
func secretOf(n int, first byte) string {
	b := make([]byte, n)
	for i := range b {
		b[i] = first + byte(7*i)
	}
	return string(b)
}

// named is a user who may be, if the name may.
func named(name string) api.User { return api.User{Name: name, Secret: secretOf(32, 1)} }

// numbered is n users, each with a name and a secret of their own, the last name first.
func numbered(n int) []api.User {
	var l []api.User
	for i := range n {
		l = append(l, api.User{Name: "u" + strconv.Itoa(n-1-i), Secret: secretOf(32, byte(i))})
	}
	return l
}

// made is the users of a list that may be.
func made(t *testing.T, l ...api.User) *Users {
	t.Helper()
	u, e := New(l...)
	if u == nil || e != api.OK {
		t.Fatalf("New of %d users: %v, %v", len(l), u, e)
	}
	return u
}

// refused wants New to take none of a list.
func refused(t *testing.T, what string, l ...api.User) {
	t.Helper()
	if u, e := New(l...); u != nil || e != api.ErrArg {
		t.Errorf("New with %s: %v, %v", what, u, e)
	}
}

// P1401: the length of a name.
func TestRightLengthOfName(t *testing.T) {
	for n := range 300 {
		if got, want := Right(named(strings.Repeat("n", n))), n >= 1 && n <= 20; got != want {
			t.Errorf("Right of a name of %d bytes: %v", n, got)
		}
	}
}

// P1401: each byte that a name may have, at each of its places.
func TestRightBytesOfName(t *testing.T) {
	for b := range 256 {
		want := b >= 33 && b <= 126
		for length := 1; length <= 20; length++ {
			for place := range length {
				name := []byte(strings.Repeat("n", length))
				name[place] = byte(b)
				if got := Right(named(string(name))); got != want {
					t.Fatalf("Right with the byte %d at %d of %d: %v", b, place, length, got)
				}
			}
		}
	}
	if Right(named("é")) || Right(named("naïve")) || Right(named("a b")) || Right(named("a\n")) {
		t.Error("Right with bytes that no name has")
	}
}

// P1401: the length of a secret, which may have all bytes.
func TestRightSecret(t *testing.T) {
	for n := range 300 {
		u := api.User{Name: "bob", Secret: secretOf(n, 1)}
		if got, want := Right(u), n == 32; got != want {
			t.Errorf("Right of a secret of %d bytes: %v", n, got)
		}
	}
	for b := range 256 {
		if !Right(api.User{Name: "bob", Secret: strings.Repeat(string([]byte{byte(b)}), 32)}) {
			t.Errorf("Right of a secret of bytes %d", b)
		}
	}
	if Right(api.User{}) {
		t.Error("Right of no user")
	}
}

// P1401: how many users there may be.
func TestNewHowMany(t *testing.T) {
	for _, n := range []int{0, 1, 2, 3, 19, 20} {
		u := made(t, numbered(n)...)
		if len(u.Names()) != n {
			t.Errorf("%d names of %d users", len(u.Names()), n)
		}
	}
	for _, n := range []int{21, 22, 23, 40, 300} {
		refused(t, strconv.Itoa(n)+" users", numbered(n)...)
	}
	refused(t, "one too many", append(numbered(20), named("eve"))...)
}

// P1401: a user who may not be, at each place of the list.
func TestNewWrongUser(t *testing.T) {
	wrong := []api.User{
		{},
		{Name: "bob"},
		{Secret: secretOf(32, 1)},
		{Name: "bob", Secret: secretOf(31, 1)},
		{Name: "bob", Secret: secretOf(33, 1)},
		named("a b"),
		named("\x7f"),
		named(strings.Repeat("n", 21)),
	}
	for _, w := range wrong {
		refused(t, "a wrong one alone", w)
		for place := range 20 {
			l := numbered(20)
			l[place] = w
			refused(t, "a wrong one at "+strconv.Itoa(place), l...)
		}
	}
}

// P1401: a name that comes twice, at each two places, with the same secret or another one.
func TestNewNameTwice(t *testing.T) {
	for i := range 20 {
		for j := range 20 {
			if i == j {
				continue
			}
			l := numbered(20)
			l[i].Name = l[j].Name
			refused(t, "a name twice", l...)
			l[i] = l[j]
			refused(t, "a user twice", l...)
		}
	}
	u := made(t, named("bob"), named("Bob"), named("bobb"), named("bo")) // the same secret is no fault
	if got := u.Names(); !slices.Equal(got, []string{"Bob", "bo", "bob", "bobb"}) {
		t.Errorf("names: %q", got)
	}
}

// P1401: the secret of each user, and none of anybody else.
func TestSecret(t *testing.T) {
	l := numbered(20)
	u := made(t, l...)
	for _, user := range l {
		if got, is := u.Secret(user.Name); got != user.Secret || !is {
			t.Errorf("Secret of %q: %q, %v", user.Name, got, is)
		}
	}
	for _, name := range []string{"", "u", "u20", "U1", "u1 ", " u1", "u1\x00", "u01", l[3].Secret, "*"} {
		if got, is := u.Secret(name); got != "" || is {
			t.Errorf("Secret of %q: %q, %v", name, got, is)
		}
	}
}

// P1401: the names come in ascending order of their bytes, whatever the order of the users.
func TestNames(t *testing.T) {
	want := []string{"!", "~"}
	for b := byte('!'); b < '~'; b += 6 {
		want = append(want, string([]byte{b, '1'}), string([]byte{b, '1', '0'}))
	}
	want = want[:20]
	slices.Sort(want)
	r := rand.New(rand.NewSource(14))
	for range 50 {
		var l []api.User
		for _, i := range r.Perm(len(want)) {
			l = append(l, named(want[i]))
		}
		u := made(t, l...)
		if got := u.Names(); !slices.Equal(got, want) {
			t.Fatalf("Names: %q, not %q", got, want)
		}
	}
	if got := made(t).Names(); len(got) != 0 {
		t.Errorf("names of nobody: %q", got)
	}
}

// P1402: the chapter's example.
func TestExample(t *testing.T) {
	u := made(t, named("bob"))
	for i, want := range []bool{false, false, true} {
		if got := u.Fail("bob", 5); got != want {
			t.Errorf("failure %d: %v", i, got)
		}
	}
	if !u.Locked("bob", 25) || u.Locked("bob", 26) {
		t.Errorf("Locked at 25 and 26: %v, %v", u.Locked("bob", 25), u.Locked("bob", 26))
	}
}

// P1402: a lockout up to and including now + Lock, at all kinds of now; that of the last failure counts.
func TestLockoutAtAllTimes(t *testing.T) {
	for _, now := range []int{math.MinInt, math.MinInt + 1, -1 << 40, -21, -20, -19, -1, 0, 1, 5, 1 << 40, math.MaxInt - 22, math.MaxInt - 21} {
		u := made(t, named("bob"))
		if u.Fail("bob", 900) || u.Fail("bob", -900) || !u.Fail("bob", now) {
			t.Fatalf("failures up to %d", now)
		}
		for _, at := range []int{math.MinInt, -5000, 0, 5000, now, now + 1, now + ticks - 1, now + ticks, now + ticks + 1, math.MaxInt} {
			if got, want := u.Locked("bob", at), at <= now+ticks; got != want {
				t.Errorf("locked out at %d, Locked at %d: %v", now, at, got)
			}
		}
	}
}

// P1402: a sum that exceeds the greatest int counts as the greatest int.
func TestLockoutAtTheEndOfTime(t *testing.T) {
	for ahead := range 25 {
		u := made(t, named("bob"))
		for range fails {
			u.Fail("bob", math.MaxInt-ahead)
		}
		if got, want := u.Locked("bob", math.MaxInt), ahead <= ticks; got != want {
			t.Errorf("locked out %d ticks ahead of the end, Locked at the end: %v", ahead, got)
		}
		for _, at := range []int{math.MaxInt - ahead, 0, -1, math.MinInt} {
			if !u.Locked("bob", at) {
				t.Errorf("locked out %d ticks ahead of the end, not Locked at %d", ahead, at)
			}
		}
	}
}

// P1402: nobody is locked out ahead of a lockout, not even at the least tick.
func TestNeverLockedOut(t *testing.T) {
	u := made(t, named("bob"), named("al"))
	u.Fail("bob", 5)
	u.Fail("bob", math.MinInt)
	for range fails {
		u.Fail("al", 5)
	}
	for _, at := range []int{math.MinInt, math.MinInt + ticks, -1, 0, 5, math.MaxInt} {
		if u.Locked("bob", at) {
			t.Errorf("Locked at %d", at)
		}
	}
}

// P1402: a later lockout takes the place of an earlier one, also if it ends ahead of it.
func TestLatestLockout(t *testing.T) {
	u := made(t, named("bob"))
	for _, now := range []int{100, 500, 30, math.MaxInt, -70, math.MinInt} {
		for range fails {
			u.Fail("bob", now)
		}
		end := math.MaxInt
		if now < math.MaxInt-ticks {
			end = now + ticks
		}
		if !u.Locked("bob", end) || !u.Locked("bob", math.MinInt) {
			t.Errorf("locked out at %d, not Locked", now)
		}
		if end < math.MaxInt && (u.Locked("bob", end+1) || u.Locked("bob", math.MaxInt)) {
			t.Errorf("locked out at %d, Locked behind it", now)
		}
	}
}

// P1402: Good forgets the failures, and no lockout.
func TestGood(t *testing.T) {
	u := made(t, named("bob"))
	for range 10 {
		u.Fail("bob", 1)
		if u.Fail("bob", 1) || u.Fails("bob") != 2 {
			t.Fatalf("two failures: %d", u.Fails("bob"))
		}
		u.Good("bob")
		if u.Fails("bob") != 0 {
			t.Fatalf("after Good: %d failures", u.Fails("bob"))
		}
	}
	for range fails {
		u.Fail("bob", 1)
	}
	u.Good("bob")
	u.Fail("bob", 2)
	u.Good("bob")
	if !u.Locked("bob", 21) || u.Locked("bob", 22) {
		t.Error("Good moved a lockout")
	}
}

// P1402: a user's failures and lockouts are theirs alone.
func TestEachAlone(t *testing.T) {
	l := numbered(20)
	u := made(t, l...)
	for i, user := range l {
		for range i % 4 {
			u.Fail(user.Name, i)
		}
	}
	for i, user := range l {
		if got, want := u.Fails(user.Name), i%4%fails; got != want {
			t.Errorf("Fails of user %d: %d, not %d", i, got, want)
		}
		if got, want := u.Locked(user.Name, i+ticks), i%4 == fails; got != want {
			t.Errorf("Locked of user %d: %v", i, got)
		}
	}
	other := made(t, l...)
	if other.Fails(l[1].Name) != 0 || other.Locked(l[3].Name, 0) {
		t.Error("the failures of other Users")
	}
}

// P1402: calls for nobody have no effect.
func TestNobody(t *testing.T) {
	u := made(t, named("bob"))
	for _, name := range []string{"", "eve", "Bob", "bob ", "bo", "bobb", "*"} {
		for range 2 * fails {
			if u.Fail(name, 5) {
				t.Errorf("Fail of %q", name)
			}
		}
		u.Good(name)
		if u.Fails(name) != 0 || u.Locked(name, 5) || u.Locked(name, math.MinInt) {
			t.Errorf("%q has failures", name)
		}
	}
	if u.Fails("bob") != 0 || u.Locked("bob", 5) || !slices.Equal(u.Names(), []string{"bob"}) {
		t.Error("calls for nobody had an effect")
	}
}

// P1402: nil Users, and zero ones, have nobody.
func TestNilAndZero(t *testing.T) {
	for _, u := range []*Users{nil, {}} {
		u.Good("bob")
		for range 2 * fails {
			if u.Fail("bob", 5) {
				t.Error("Fail")
			}
		}
		secret, is := u.Secret("bob")
		if secret != "" || is || u.Locked("bob", 5) || u.Fails("bob") != 0 || len(u.Names()) != 0 {
			t.Error("somebody is there")
		}
	}
}

// modelUser is a user by the document's words; each lockout is kept, the latest at the end.
type modelUser struct {
	fails    int
	lockouts []int
}

func (m *modelUser) fail(now int) bool {
	m.fails++
	if m.fails < fails {
		return false
	}
	m.fails = 0
	last := now + ticks
	if last < now {
		last = math.MaxInt
	}
	m.lockouts = append(m.lockouts, last)
	return true
}

func (m *modelUser) locked(now int) bool {
	n := len(m.lockouts)
	return n > 0 && now <= m.lockouts[n-1]
}

// someTick is a tick near a few places, so that lockouts and questions meet.
func someTick(r *rand.Rand) int {
	switch r.Intn(4) {
	case 0:
		return math.MaxInt - r.Intn(45)
	case 1:
		return math.MinInt + r.Intn(45)
	}
	return r.Intn(90) - 45
}

// P1402: many calls in any order, against the model.
func TestAgainstModel(t *testing.T) {
	names := []string{"al", "bob", "cid", "eve"} // eve isn't there
	for seed := range int64(200) {
		r := rand.New(rand.NewSource(seed))
		u := made(t, named("bob"), named("cid"), named("al"))
		models := map[string]*modelUser{"al": {}, "bob": {}, "cid": {}}
		for range 300 {
			name, now := names[r.Intn(len(names))], someTick(r)
			m := models[name]
			switch {
			case r.Intn(8) == 0:
				u.Good(name)
				if m != nil {
					m.fails = 0
				}
			case r.Intn(2) == 0:
				want := m != nil && m.fail(now)
				if got := u.Fail(name, now); got != want {
					t.Fatalf("seed %d: Fail of %q at %d: %v", seed, name, now, got)
				}
			}
			at := someTick(r)
			if got, want := u.Locked(name, at), m != nil && m.locked(at); got != want {
				t.Fatalf("seed %d: Locked of %q at %d: %v", seed, name, at, got)
			}
			if got := u.Fails(name); m != nil && got != m.fails || m == nil && got != 0 {
				t.Fatalf("seed %d: Fails of %q: %d", seed, name, got)
			}
		}
	}
}

// P1402: failures that come at the same time are all counted, and the third locks the user out.
func TestFailAtTheSameTime(t *testing.T) {
	for range 200 {
		u := made(t, named("bob"), named("al"))
		var lockouts atomic.Int64
		var all sync.WaitGroup
		for range fails {
			all.Go(func() {
				if u.Locked("bob", 5+ticks+1) || u.Locked("al", 5) {
					t.Error("Locked where no order of the calls locks out")
				}
				if u.Fail("bob", 5) {
					lockouts.Add(1)
				}
			})
		}
		all.Wait()
		if lockouts.Load() != 1 || !u.Locked("bob", 5+ticks) || u.Fails("bob") != 0 {
			t.Fatalf("%d lockouts, %d failures", lockouts.Load(), u.Fails("bob"))
		}
	}
}

// shares tells whether two strings have bytes in common memory.
func shares(a, b string) bool {
	if a == "" || b == "" {
		return false
	}
	x, y := uintptr(unsafe.Pointer(unsafe.StringData(a))), uintptr(unsafe.Pointer(unsafe.StringData(b)))
	return x < y+uintptr(len(b)) && y < x+uintptr(len(a))
}

// P1401: answers share no memory with the arguments, nor with later answers.
func TestNewMemory(t *testing.T) {
	name, secret := strings.Clone("bob"), secretOf(32, 9)
	u := made(t, api.User{Name: name, Secret: secret}, named("al"))
	one, _ := u.Secret("bob")
	two, _ := u.Secret("bob")
	if shares(one, secret) || shares(one, two) {
		t.Error("secrets share memory")
	}
	for kept, a := range u.accounts {
		if shares(kept, name) || shares(a.secret, secret) {
			t.Error("what is kept shares memory with an argument")
		}
	}
	first, second := u.Names(), u.Names()
	if shares(first[1], name) || shares(first[1], second[1]) || &first[0] == &second[0] {
		t.Error("names share memory")
	}
	first[0], first[1] = "x", "y"
	if !slices.Equal(u.Names(), []string{"al", "bob"}) {
		t.Errorf("Names after the list was changed: %q", u.Names())
	}
}

// P1401: the users are what they were at New: neither changed there, nor by a later change of the list.
func TestListIsNotKept(t *testing.T) {
	l := numbered(5)
	was := slices.Clone(l)
	u := made(t, l...)
	if !slices.Equal(l, was) {
		t.Errorf("New changed its list to %v", l)
	}
	l[2] = named("eve")
	if got, is := u.Secret(was[2].Name); got != was[2].Secret || !is {
		t.Errorf("Secret: %q, %v", got, is)
	}
	if _, is := u.Secret("eve"); is {
		t.Error("a user who came into the list later")
	}
}
