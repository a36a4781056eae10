package clock_test

import (
	"fmt"
	"math"
	"math/big"
	"testing"

	"rejoinder/api"
	"rejoinder/clock"
)

// The chapter's numbers, written out.
const (
	never = 9223372036854775807
	last  = 9223372036854775806
)

// model is the chapter's words said one by one, of a time that may be any whole number.
type model struct{ now big.Int }

// behind is what the time is when n ticks more were done.
func (m *model) behind(n int) *big.Int {
	var sum big.Int
	sum.Set(&m.now)
	if n > 0 {
		sum.Add(&sum, big.NewInt(int64(n)))
	}
	if most := big.NewInt(last); sum.Cmp(most) > 0 {
		return most
	}
	return &sum
}

func (m *model) tick(n int) { m.now.Set(m.behind(n)) }

func (m *model) due(d int) int {
	var sum big.Int
	sum.Add(&m.now, big.NewInt(int64(d)))
	if d < 1 || sum.Cmp(big.NewInt(never)) >= 0 {
		return never
	}
	return int(sum.Int64())
}

func (m *model) late(n, due int) bool {
	return due != never && big.NewInt(int64(due)).Cmp(m.behind(n)) <= 0
}

// numbers are the edges of all whole numbers, and some between, each with those beside it.
func numbers() []int {
	var row []int
	for _, n := range []int{math.MinInt + 2, -1 << 62, -1 << 32, -1 << 31, -1000, 0, 5, 12, 1000, 1 << 15, 1 << 16, 1 << 30, 1 << 31, 1 << 32, 1 << 53, 1 << 62, 1<<62 + 1<<61, never - 1000, last - 1} {
		for beside := -2; beside <= 2; beside++ {
			row = append(row, n+beside)
		}
	}
	return row
}

// stands asks all that can be told, twice, as asking changes nothing.
func stands(t *testing.T, what string, c *clock.Clock, m *model, asked []int) {
	t.Helper()
	for range 2 {
		if got := c.Now(); m.now.Cmp(big.NewInt(int64(got))) != 0 {
			t.Fatalf("%s: Now = %d, want %s", what, got, &m.now)
		}
		for _, n := range asked {
			if got, want := c.Due(n), m.due(n); got != want {
				t.Fatalf("%s: at %s Due(%d) = %d, want %d", what, &m.now, n, got, want)
			}
			for _, due := range asked {
				if got, want := c.Late(n, due), m.late(n, due); got != want {
					t.Fatalf("%s: at %s Late(%d, %d) = %v, want %v", what, &m.now, n, due, got, want)
				}
			}
		}
	}
}

// ticks ticks both.
func ticks(t *testing.T, what string, c *clock.Clock, m *model, n int) {
	t.Helper()
	c.Tick(n)
	m.tick(n)
	if got := c.Now(); m.now.Cmp(big.NewInt(int64(got))) != 0 {
		t.Fatalf("%s: behind Tick(%d) Now = %d, want %s", what, n, got, &m.now)
	}
}

// at is a clock at a time, by one tick.
func at(t *testing.T, now int) *clock.Clock {
	t.Helper()
	c := clock.New()
	c.Tick(now)
	if c.Now() != now {
		t.Fatalf("Now = %d, want %d", c.Now(), now)
	}
	return c
}

// P20.2: the chapter's examples.
func TestExamples(t *testing.T) {
	c := clock.New()
	if got := c.Due(5); got != 5 {
		t.Errorf("Due(5) = %d", got)
	}
	if c.Late(4, 5) {
		t.Error("Late(4, 5)")
	}
	if !c.Late(5, 5) {
		t.Error("not Late(5, 5)")
	}
	if api.Never != never {
		t.Error("another Never")
	}
}

// P20.1: a new one is at 0, also when others went on.
func TestNew(t *testing.T) {
	for range 5 {
		c := clock.New()
		if c.Now() != 0 {
			t.Fatalf("Now = %d", c.Now())
		}
		stands(t, "new", c, &model{}, numbers())
		c.Tick(7)
	}
}

// P20.1: what a tick of each number does at each time.
func TestTick(t *testing.T) {
	for _, now := range numbers() {
		for _, n := range numbers() {
			c, m := clock.New(), &model{}
			ticks(t, "to now", c, m, now)
			ticks(t, "on", c, m, n)
			ticks(t, "once more", c, m, n)
		}
	}
}

// P20.1: a number that is not above 0 leaves the time as it is.
func TestTickOfNothing(t *testing.T) {
	for _, now := range []int{0, 1, 2, 5, 1 << 30, 1 << 62, last - 1, last} {
		c := at(t, now)
		for _, n := range []int{0, -1, -2, -now, -now - 1, -last, -never, math.MinInt} {
			c.Tick(n)
			if c.Now() != now {
				t.Fatalf("at %d Tick(%d): Now = %d", now, n, c.Now())
			}
		}
		if now < last {
			c.Tick(1)
			if c.Now() != now+1 {
				t.Fatalf("at %d Tick(1): Now = %d", now, c.Now())
			}
		}
	}
}

// P20.1: the time comes to Never less 1, and stays there.
func TestLastTime(t *testing.T) {
	rows := [][]int{
		{last}, {never}, {last - 1, 1}, {last - 1, 2}, {last, 1}, {1, last - 1}, {1, last}, {1, never}, {never, never}, {last, last},
		{1 << 62, 1 << 62}, {1 << 62, 1<<62 - 1}, {1 << 62, 1<<62 - 2}, {1 << 61, 1 << 61, 1 << 61, 1 << 61}, {5, never - 5}, {5, never - 6},
	}
	for _, row := range rows {
		c := clock.New()
		for _, n := range row {
			c.Tick(n)
		}
		if c.Now() != last {
			t.Fatalf("%d: Now = %d, want %d", row, c.Now(), last)
		}
		for _, n := range []int{1, 2, 1 << 30, last, never, 0, -1, math.MinInt} {
			c.Tick(n)
			if c.Now() != last {
				t.Fatalf("%d, Tick(%d): Now = %d, want %d", row, n, c.Now(), last)
			}
		}
	}
	for _, row := range [][]int{{last - 1}, {1 << 62, 1<<62 - 3}, {5, never - 7}, {1, last - 2}} {
		c := clock.New()
		for _, n := range row {
			c.Tick(n)
		}
		if c.Now() != last-1 {
			t.Fatalf("%d: Now = %d, want %d", row, c.Now(), last-1)
		}
	}
}

// P20.2: what is due is the time and d together, and Never of a d below 1, or where that would be Never or more.
func TestDue(t *testing.T) {
	for _, now := range []int{0, 1, 2, 5, 1000, 1 << 30, 1 << 62, 1<<62 + 1, last - 2, last - 1, last} {
		c := at(t, now)
		for _, d := range []int{0, -1, -2, -5, -now, -now - 1, -last, -never, math.MinInt, math.MinInt + 1} {
			if got := c.Due(d); got != never {
				t.Errorf("at %d Due(%d) = %d, want Never", now, d, got)
			}
		}
		left := last - now
		for _, d := range []int{1, 2, 3, 7, 120, 1 << 30, left - 2, left - 1, left} {
			if d >= 1 && d <= left {
				if got := c.Due(d); got != now+d {
					t.Errorf("at %d Due(%d) = %d, want %d", now, d, got, now+d)
				}
			}
		}
		for beyond := range min(now, 9) + 1 {
			if got := c.Due(left + 1 + beyond); got != never {
				t.Errorf("at %d Due(%d) = %d, want Never", now, left+1+beyond, got)
			}
		}
		if got := c.Due(never); got != never {
			t.Errorf("at %d Due(Never) = %d", now, got)
		}
	}
}

// P20.2: Never is not late, whatever tick comes at whatever time.
func TestNeverIsNotLate(t *testing.T) {
	for _, now := range numbers() {
		c := clock.New()
		c.Tick(now)
		for _, n := range numbers() {
			if c.Late(n, never) {
				t.Fatalf("at %d Late(%d, Never)", c.Now(), n)
			}
		}
		if c.Late(never, c.Due(0)) || c.Late(never, c.Due(-1)) || c.Late(never, c.Due(never)) {
			t.Fatalf("at %d what is never due is late", c.Now())
		}
	}
}

// P20.2: what is due at any other time is late just where it is not above the time that the tick brings.
func TestLate(t *testing.T) {
	for _, now := range []int{0, 1, 5, 1 << 30, 1 << 62, last - 2, last - 1, last} {
		c := at(t, now)
		for _, n := range []int{math.MinInt, math.MinInt + 1, -never, -now - 1, -now, -5, -1, 0, 1, 2, 7, 1 << 30, 1 << 62, last - now, last, never} {
			brought := at(t, now)
			brought.Tick(n)
			then := brought.Now()
			for _, due := range []int{math.MinInt, -1 << 62, -7, -1, 0, 1, then - 2, then - 1, then} {
				if due <= then && !c.Late(n, due) {
					t.Errorf("at %d not Late(%d, %d)", now, n, due)
				}
			}
			for _, due := range []int{then + 1, last, never} {
				if due > then && c.Late(n, due) {
					t.Errorf("at %d Late(%d, %d)", now, n, due)
				}
			}
		}
		if c.Now() != now {
			t.Errorf("Now = %d, want %d: asking changes the time", c.Now(), now)
		}
	}
}

// P20.1, P20.2: each of many numbers at each of many times, by the chapter's words.
func TestAllNumbers(t *testing.T) {
	for _, now := range numbers() {
		c, m := clock.New(), &model{}
		ticks(t, "all numbers", c, m, now)
		stands(t, "all numbers", c, m, numbers())
	}
}

// P20.1, P20.2: all small numbers at all small times.
func TestAllSmallNumbers(t *testing.T) {
	var small []int
	for n := -25; n <= 25; n++ {
		small = append(small, n)
	}
	c, m := clock.New(), &model{}
	for range 25 {
		stands(t, "small", c, m, small)
		ticks(t, "small", c, m, 1)
	}
}

// P20.1, P20.2: all short rows of ticks.
func TestAllShortRows(t *testing.T) {
	steps := []int{1, 3, 0, -2, 1 << 30, 1 << 62, last, never, math.MinInt}
	asked := []int{math.MinInt, -1, 0, 1, 2, 4, 1 << 30, 1 << 62, last - 4, last - 1, last, never}
	length := 4
	for row := range int(math.Pow(float64(len(steps)), float64(length))) {
		c, m := clock.New(), &model{}
		what := ""
		for range length {
			n := steps[row%len(steps)]
			what += fmt.Sprint(" ", n)
			ticks(t, what, c, m, n)
			row /= len(steps)
		}
		stands(t, what, c, m, asked)
	}
}

// P20.3: what is due in d ticks is late at the tick that brings the time there, and not ahead of it, however the ticks are parted.
func TestInTime(t *testing.T) {
	for _, from := range []int{0, 1, 7, 1 << 30, 1 << 62, last - 40} {
		for d := 1; d <= 40; d++ {
			for step := 1; step <= d+1; step++ {
				c := at(t, from)
				due := c.Due(d)
				for gone := 0; ; gone += step {
					want := gone+step >= d
					if got := c.Late(step, due); got != want {
						t.Fatalf("from %d, due in %d: at %d Late(%d) = %v", from, d, c.Now(), step, got)
					}
					if c.Late(0, due) || c.Late(-step, due) {
						t.Fatalf("from %d, due in %d: at %d late ahead of the tick", from, d, c.Now())
					}
					if want {
						break
					}
					c.Tick(step)
				}
				c.Tick(due - c.Now())
				if c.Now() != due || !c.Late(0, due) {
					t.Fatalf("from %d, due in %d: Now = %d, want %d", from, d, c.Now(), due)
				}
			}
		}
	}
}

// P20.3: of a great d, and at the last time of all, one tick less is in time.
func TestInTimeAtTheEdges(t *testing.T) {
	for _, from := range []int{0, 1, 5, 1 << 30, 1 << 62, last - 2, last - 1} {
		left := last - from
		for _, d := range []int{1, 2, 1 << 30, 1 << 61, left / 2, left - 1, left} {
			if d < 1 || d > left {
				continue
			}
			c := at(t, from)
			due := c.Due(d)
			if c.Late(d-1, due) || !c.Late(d, due) || !c.Late(never, due) {
				t.Errorf("from %d, due in %d: Late is %v, %v, %v", from, d, c.Late(d-1, due), c.Late(d, due), c.Late(never, due))
			}
		}
	}
}

// R6, R7: clocks know nothing of each other, and what they answer hangs on their own ticks alone.
func TestTwoClocks(t *testing.T) {
	cs, ms := []*clock.Clock{clock.New(), clock.New()}, []*model{{}, {}}
	asked := []int{-3, 0, 1, 50, 5000, last - 5000, last, never}
	x := uint32(1)
	for i := range 5000 {
		x = x*1664525 + 1013904223
		k := x >> 9 & 1
		n := int(x>>10&63) - 20
		if i == 4000 {
			n = last - 5000
		}
		ticks(t, "in turn", cs[k], ms[k], n)
		stands(t, "in turn", cs[k], ms[k], asked)
		stands(t, "the other", cs[1-k], ms[1-k], asked)
	}
}

// R1, R6: a clock may go on for very long, and many small ticks are as one.
func TestVeryLong(t *testing.T) {
	c := clock.New()
	due := c.Due(1 << 20)
	for i := range 1 << 20 {
		if c.Now() != i || c.Late(0, due) || c.Late(1, due) != (i == 1<<20-1) || c.Due(1) != i+1 {
			t.Fatalf("Now = %d, want %d; Late %v", c.Now(), i, c.Late(1, due))
		}
		c.Tick(1)
	}
	if c.Now() != due {
		t.Fatalf("Now = %d, want %d", c.Now(), due)
	}
}
