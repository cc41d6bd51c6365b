package window

import (
	"math"
	"math/rand"
	"slices"
	"sync"
	"testing"
	"unsafe"
)

// width is how many numbers may come at a time: the first that is missing, and those ahead of it.
const width = 64

// far are numbers that no Window takes before it has taken very many.
var far = []int{
	-1, -2, -63, -64, -65, -128, math.MinInt, math.MinInt + 1, math.MinInt + width, math.MinInt32, math.MinInt32 - 1,
	math.MaxInt, math.MaxInt - 1, math.MaxInt - width, math.MaxInt - width + 1, math.MaxInt32, math.MaxInt32 + 1,
	math.MaxUint32, math.MaxUint32 + 1, math.MaxUint32 + width, 1 << 40,
}

// model remembers every number that was taken, by the document's words.
type model map[int]bool

func (m model) next() int {
	n := 0
	for m[n] {
		n++
	}
	return n
}

func (m model) may(seq int) bool {
	for n := range width {
		if m.next()+n == seq {
			return !m[seq]
		}
	}
	return false
}

func (m model) ahead() []int {
	var ahead []int
	for seq := range m {
		if seq > m.next() {
			ahead = append(ahead, seq)
		}
	}
	slices.Sort(ahead)
	return ahead
}

// tells holds all that a Window tells against the model: of every number that is near, on both sides,
// and of those that are far.
func tells(t *testing.T, what string, w *Window, m model) {
	t.Helper()
	next := m.next()
	if got := w.Next(); got != next {
		t.Fatalf("%s: Next %d, not %d", what, got, next)
	}
	if got, want := w.Ahead(), m.ahead(); !slices.Equal(got, want) {
		t.Fatalf("%s: Ahead %d, not %d", what, got, want)
	}
	for seq := next - 2*width; seq < next+3*width; seq++ {
		if got, want := w.May(seq), seq >= next && seq < next+width && !m[seq]; got != want {
			t.Fatalf("%s: Next %d, Ahead %d: May(%d) %t", what, next, m.ahead(), seq, got)
		}
	}
	for _, seq := range far {
		if w.May(seq) {
			t.Fatalf("%s: May(%d)", what, seq)
		}
	}
}

// takes holds one Take, and all that the Window tells afterwards, against the model.
func takes(t *testing.T, what string, w *Window, m model, seq int) {
	t.Helper()
	want := m.may(seq)
	if got := w.Take(seq); got != want {
		t.Fatalf("%s: Next %d, Ahead %d: Take(%d) %t", what, m.next(), m.ahead(), seq, got)
	}
	if want {
		m[seq] = true
	}
	tells(t, what, w, m)
}

// taken is a Window that has taken these numbers; none may be refused.
func taken(t *testing.T, seqs ...int) *Window {
	t.Helper()
	w := &Window{}
	for _, seq := range seqs {
		if !w.Take(seq) {
			t.Fatalf("Take(%d) of %d: false", seq, seqs)
		}
	}
	return w
}

// upTo is the numbers from the first one up to the one before the last.
func upTo(first, last int) []int {
	var all []int
	for seq := first; seq < last; seq++ {
		all = append(all, seq)
	}
	return all
}

// is holds Next and Ahead against what is wanted.
func is(t *testing.T, what string, w *Window, next int, ahead ...int) {
	t.Helper()
	if w.Next() != next || !slices.Equal(w.Ahead(), ahead) {
		t.Errorf("%s: Next %d, Ahead %d, not %d, %d", what, w.Next(), w.Ahead(), next, ahead)
	}
}

// P1101: the example of the document.
func TestExample(t *testing.T) {
	var w Window
	if !w.Take(1) {
		t.Error("Take(1)")
	}
	is(t, "after 1", &w, 0, 1)
	if !w.Take(0) {
		t.Error("Take(0)")
	}
	is(t, "after 0", &w, 2)
}

// P1101: a Window that is zero has taken nothing, and takes.
func TestZero(t *testing.T) {
	tells(t, "zero", &Window{}, model{})
	for seq := range width {
		takes(t, "zero", &Window{}, model{}, seq)
	}
}

// P1101: a Window that is nil takes nothing.
func TestNil(t *testing.T) {
	var w *Window
	for _, seq := range append([]int{0, 1, 63, 64}, far...) {
		if w.May(seq) || w.Take(seq) || w.May(seq) {
			t.Error(seq)
		}
	}
	is(t, "nil", w, 0)
}

// P1101: the numbers that may come are the first that is missing and the 63 after it, wherever it is.
func TestEdges(t *testing.T) {
	for _, first := range []int{0, 1, 2, 62, 63, 64, 65, 127, 128, 129, 399, 400, 1000} {
		w := taken(t, upTo(0, first)...)
		for seq, want := range map[int]bool{first - 1: false, first: true, first + 1: true, first + 62: true, first + 63: true, first + 64: false, first + 65: false, first + 127: false, first + 128: false} {
			if w.May(seq) != want {
				t.Errorf("Next %d: May(%d) %t", first, seq, !want)
			}
		}
		if w.Take(first+64) || w.Take(first-1) {
			t.Errorf("Next %d: took one beside", first)
		}
		is(t, "beside", w, first)
		if !w.Take(first + 63) {
			t.Errorf("Next %d: refused the last", first)
		}
		is(t, "last", w, first, first+63)
	}
}

// P1101: a number that was taken is not taken again: while it is ahead, and after Next has passed it.
func TestAgain(t *testing.T) {
	w, m := &Window{}, model{}
	for _, seq := range []int{3, 3, 1, 1, 3, 63, 63, 0, 0, 1, 3, 2, 2, 0, 1, 2, 3, 63, 64, 64, 65, 67, 67, 68, 4, 66, 4} {
		takes(t, "again", w, m, seq)
	}
	is(t, "again", w, 5, 63, 64, 65, 66, 67)
}

// P1101: numbers that no Window may take change nothing.
func TestFar(t *testing.T) {
	for _, ahead := range [][]int{nil, {0}, {1}, {63}, {0, 2, 64}, upTo(1, 64), upTo(0, 200)} {
		w, m := taken(t, ahead...), model{}
		for _, seq := range ahead {
			m[seq] = true
		}
		for _, seq := range far {
			takes(t, "far", w, m, seq)
		}
	}
}

// P1101: asking takes nothing.
func TestAsking(t *testing.T) {
	w := taken(t, 0, 2, 5)
	for range 3 {
		for seq := -5; seq < 100; seq++ {
			w.May(seq)
		}
		is(t, "asked", w, 1, 2, 5)
	}
	if !w.Take(1) {
		t.Error("asked: refused")
	}
	is(t, "asked", w, 3, 5)
}

// P1101: Next goes past all that came ahead, and stops at the first that is missing; what was ahead of
// it stays there.
func TestGaps(t *testing.T) {
	for gap := 1; gap < width; gap++ {
		w := taken(t, slices.Concat(upTo(1, gap), upTo(gap+1, width))...)
		is(t, "before", w, 0, slices.Concat(upTo(1, gap), upTo(gap+1, width))...)
		if !w.Take(0) {
			t.Error("Take(0)")
		}
		is(t, "after 0", w, gap, upTo(gap+1, width)...)
		if !w.Take(gap) {
			t.Errorf("Take(%d)", gap)
		}
		is(t, "all", w, width)
		tells(t, "all", w, modelOf(upTo(0, width)))
	}
}

// modelOf is a model that has taken these numbers.
func modelOf(seqs []int) model {
	m := model{}
	for _, seq := range seqs {
		m[seq] = true
	}
	return m
}

// P1101: numbers in order, and each 64 of them from the last to the first.
func TestOrders(t *testing.T) {
	w, m := &Window{}, model{}
	for seq := range 5 * width {
		takes(t, "in order", w, m, seq)
	}
	w, m = &Window{}, model{}
	for first := 0; first < 5*width; first += width {
		for seq := first + width - 1; seq >= first; seq-- {
			takes(t, "backwards", w, m, seq)
		}
	}
	is(t, "backwards", w, 5*width)
}

// P1101: a number takes the place of one that is 64 less, which is not taken for it.
func TestPlaces(t *testing.T) {
	for lap := range 5 {
		for k := range width {
			seq := lap*width + k
			w, m := taken(t, upTo(0, seq)...), modelOf(upTo(0, seq))
			takes(t, "one ahead", w, m, seq+1)
			takes(t, "too far", w, m, seq+width)
			takes(t, "itself", w, m, seq)
			takes(t, "no more too far", w, m, seq+width)
			takes(t, "the next", w, m, seq+width+1)
			is(t, "places", w, seq+2, seq+width, seq+width+1)
		}
	}
}

// P1101: the model's answers, for numbers in mixed orders with repetitions, losses and wrong ones.
func TestMixed(t *testing.T) {
	r := rand.New(rand.NewSource(1101))
	for run := range 60 {
		w, m := &Window{}, model{}
		spread := []int{2, 8, 63, 64, 65, 90, 200}[run%7]
		for range 250 {
			seq := m.next() - 3 + r.Intn(spread+3)
			if r.Intn(4) == 0 {
				seq = m.next()
			}
			if r.Intn(50) == 0 {
				seq = far[r.Intn(len(far))]
			}
			takes(t, "mixed", w, m, seq)
		}
		if w.Next() < 20 {
			t.Errorf("run %d reached %d only", run, w.Next())
		}
	}
}

// P1101: many numbers, each once and late by some, are all taken once.
func TestMany(t *testing.T) {
	const many = 1 << 16
	w, r := &Window{}, rand.New(rand.NewSource(1102))
	count := 0
	for first := 0; first < many; first += 32 {
		for _, k := range r.Perm(32) {
			for range 2 {
				if w.Take(first + k) {
					count++
				}
			}
		}
	}
	if count != many {
		t.Errorf("%d were taken", count)
	}
	is(t, "many", w, many)
}

// P1101: no Window knows what another has taken.
func TestOwn(t *testing.T) {
	a, b := taken(t, 0, 2), taken(t, 1)
	is(t, "a", a, 1, 2)
	is(t, "b", b, 0, 1)
	a.Take(1)
	is(t, "a", a, 3)
	is(t, "b", b, 0, 1)
}

// P1101: what Ahead tells is new memory each time.
func TestNewMemory(t *testing.T) {
	w := taken(t, 3, 1, 5)
	first, second := w.Ahead(), w.Ahead()
	if unsafe.SliceData(first) == unsafe.SliceData(second) {
		t.Error("one memory")
	}
	first[0], first[1], first[2] = 7, 8, 9
	_ = append(first[:1], 4)
	if !slices.Equal(second, []int{1, 3, 5}) {
		t.Error(second)
	}
	is(t, "changed", w, 0, 1, 3, 5)
	w.Take(0)
	if !slices.Equal(second, []int{1, 3, 5}) {
		t.Error(second)
	}
	tells(t, "changed", w, modelOf([]int{0, 1, 3, 5}))
}

// P1101: Next may be asked while another takes, and never goes back or past what came.
func TestNextMeanwhile(t *testing.T) {
	var w Window
	var all sync.WaitGroup
	for range 4 {
		all.Go(func() {
			last := 0
			for range 2000 {
				next := w.Next()
				if next < last || next > 1000 || next%2 != 0 {
					t.Errorf("%d after %d", next, last)
				}
				last = next
			}
		})
	}
	for seq := 0; seq < 1000; seq += 2 {
		w.Take(seq + 1)
		w.Take(seq)
	}
	all.Wait()
	is(t, "meanwhile", &w, 1000)
}

// P1101: Windows that are asked at the same time, each by its own, tell what they tell alone.
func TestAtTheSameTime(t *testing.T) {
	var all sync.WaitGroup
	for worker := range 8 {
		all.Go(func() {
			var w Window
			for first := 0; first < 40*width; first += width {
				for k := range width {
					if seq := first + (k+1+worker)%width; !w.Take(seq) || w.Take(seq) {
						t.Errorf("%d", seq)
					}
				}
				if w.Next() != first+width || len(w.Ahead()) != 0 {
					t.Errorf("%d: %d, %d", first, w.Next(), w.Ahead())
				}
			}
		})
	}
	all.Wait()
}
