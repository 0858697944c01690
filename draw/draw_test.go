package draw_test

import (
	"math"
	"math/big"
	"math/rand"
	"testing"

	"countersign/api"
	"countersign/draw"
)

// taker is Nonce or Conn.
type taker func(api.Source) (int, api.Source, bool)

// source is one whose number that the taker draws is n, and whose other number is other.
type source func(n, other, now int) api.Source

type kind struct {
	name string
	take taker
	with source
}

// kinds are both ways to draw: what is promised of one is promised of the other.
func kinds() []kind {
	return []kind{
		{"Nonce", draw.Nonce, func(n, other, now int) api.Source { return api.Source{N: n, Conn: other, Now: now} }},
		{"Conn", draw.Conn, func(n, other, now int) api.Source { return api.Source{N: other, Conn: n, Now: now} }},
	}
}

// edges are numbers around which a call may go wrong, within its bounds and out of them.
func edges() []int {
	return []int{
		math.MinInt, math.MinInt + 1, -api.MaxTime, -api.MaxNonce, -2, -1, 0, 1, 2, 7,
		api.MaxNonce - 1, api.MaxNonce, api.MaxNonce + 1, api.MaxNonce + 2,
		api.MaxTime - 1, api.MaxTime, api.MaxTime + 1, math.MaxInt - 1, math.MaxInt,
	}
}

// times are those of the edges that a source's Now may have.
func times() []int {
	var l []int
	for _, n := range edges() {
		if 0 <= n && n <= api.MaxTime {
			l = append(l, n)
		}
	}
	return l
}

// reckon is now and life together, worked out with numbers that do not go round.
func reckon(now, life int) int {
	sum, most := big.NewInt(int64(now)), big.NewInt(api.MaxTime)
	if life > 0 {
		sum.Add(sum, big.NewInt(int64(life)))
	}
	if sum.Cmp(most) > 0 {
		return api.MaxTime
	}
	return int(sum.Int64())
}

func TestExample(t *testing.T) {
	if n, _, is := draw.Nonce(draw.New()); n != 1 || !is {
		t.Errorf("Nonce(New()): %d, %v", n, is)
	}
}

// P501: New is where each number is 1, and the time 0.
func TestNew(t *testing.T) {
	if s := draw.New(); s.N != 1 || s.Conn != 1 || s.Now != 0 {
		t.Errorf("New: %v", s)
	}
}

// P501: a draw answers the number, and moves it alone.
func TestDrawn(t *testing.T) {
	for _, k := range kinds() {
		for _, n := range []int{1, 2, 3, 255, 1 << 20, api.MaxNonce - 1, api.MaxNonce} {
			for _, other := range []int{1, n, api.MaxNonce + 1} {
				s := k.with(n, other, 5)
				got, left, is := k.take(s)
				if got != n || !is || left != k.with(n+1, other, 5) {
					t.Errorf("%s(%v): %d, %v, %v", k.name, s, got, left, is)
				}
			}
		}
	}
}

// P501: above MaxNonce there is none, and the source comes back as it is.
func TestDrawnOut(t *testing.T) {
	for _, k := range kinds() {
		for _, n := range []int{api.MaxNonce + 1, api.MaxNonce + 2, math.MaxInt} {
			for _, other := range []int{1, 9, api.MaxNonce, api.MaxNonce + 1} {
				s := k.with(n, other, api.MaxTime)
				if got, left, is := k.take(s); got != 0 || is || left != s {
					t.Errorf("%s(%v): %d, %v, %v", k.name, s, got, left, is)
				}
			}
		}
	}
}

// P501: Tick moves the time alone, by nothing below 0, and not above MaxTime.
func TestTick(t *testing.T) {
	for _, now := range times() {
		for _, by := range edges() {
			s := api.Source{N: 3, Conn: 8, Now: now}
			if got := draw.Tick(s, by); got != (api.Source{N: 3, Conn: 8, Now: reckon(now, by)}) {
				t.Errorf("Tick(%v, %d): %v", s, by, got)
			}
		}
	}
}

// P501: Until is both together, a life below 0 as 0, and at most MaxTime.
func TestUntil(t *testing.T) {
	for _, c := range []struct{ now, life, want int }{
		{0, 0, 0}, {0, 5, 5}, {5, 0, 5}, {5, 6, 11}, {5, -1, 5}, {5, math.MinInt, 5},
		{5, api.MaxTime - 6, api.MaxTime - 1}, {5, api.MaxTime - 5, api.MaxTime}, {5, api.MaxTime - 4, api.MaxTime},
		{api.MaxTime - 1, 1, api.MaxTime}, {api.MaxTime, 0, api.MaxTime}, {api.MaxTime, -1, api.MaxTime},
		{api.MaxTime, api.MaxTime, api.MaxTime}, {api.MaxTime, math.MaxInt, api.MaxTime}, {1, math.MaxInt, api.MaxTime},
	} {
		if got := draw.Until(c.now, c.life); got != c.want {
			t.Errorf("Until(%d, %d): %d, not %d", c.now, c.life, got, c.want)
		}
	}
	for _, now := range times() {
		for _, life := range edges() {
			if got := draw.Until(now, life); got != reckon(now, life) {
				t.Errorf("Until(%d, %d): %d, not %d", now, life, got, reckon(now, life))
			}
		}
	}
}

// P501: Live holds below until, and no more at it; of any numbers (P8).
func TestLive(t *testing.T) {
	for i, now := range edges() {
		for j, until := range edges() {
			if got := draw.Live(now, until); got != (i < j) {
				t.Errorf("Live(%d, %d): %v", now, until, got)
			}
		}
	}
}

// P502: whatever is drawn in whatever order, no number comes twice, and the time does not fall.
func TestOnce(t *testing.T) {
	for seed := range int64(20) {
		r := rand.New(rand.NewSource(seed))
		s := draw.New()
		taken := map[string]map[int]bool{"Nonce": {}, "Conn": {}}
		for range 2000 {
			before := s
			switch k := kinds()[r.Intn(2)]; r.Intn(3) {
			case 0:
				s = draw.Tick(s, r.Int()>>r.Intn(63)-r.Intn(1000))
			default:
				n, left, is := k.take(s)
				if !is || taken[k.name][n] || n < 1 || n > api.MaxNonce {
					t.Fatalf("%s(%v): %d, %v", k.name, s, n, is)
				}
				taken[k.name][n], s = true, left
			}
			if s.Now < before.Now || s.Now > api.MaxTime || s.N < before.N || s.Conn < before.Conn {
				t.Fatalf("%v behind %v", s, before)
			}
		}
	}
}

// P502: at the end of the numbers, too: the last is drawn once, and then none, however often it is asked.
func TestOnceAtTheEnd(t *testing.T) {
	for _, k := range kinds() {
		s, drawn := k.with(api.MaxNonce-2, 1, 0), 0
		for range 10 {
			n, left, is := k.take(s)
			if is {
				drawn++
			} else if n != 0 || left != s {
				t.Errorf("%s(%v): %d, %v", k.name, s, n, left)
			}
			s = left
		}
		if drawn != 3 || s != k.with(api.MaxNonce+1, 1, 0) {
			t.Errorf("%s: %d drawn, %v", k.name, drawn, s)
		}
	}
}

// P502: what was given a life is live till it is over, and never again.
func TestLiveTillItIsOver(t *testing.T) {
	s := draw.Tick(draw.New(), 100)
	until := draw.Until(s.Now, 10)
	for i := range 30 {
		if got := draw.Live(s.Now, until); got != (i < 10) {
			t.Errorf("%d later: %v", i, got)
		}
		s = draw.Tick(s, 1)
	}
	if s = draw.Tick(s, math.MinInt); draw.Live(s.Now, until) {
		t.Error("live again behind a step back")
	}
	if s = draw.Tick(s, math.MaxInt); draw.Live(s.Now, draw.Until(s.Now, 10)) {
		t.Error("live at the end of time")
	}
}

// P1, P3: any numbers end, without a panic, and the same call answers the same.
func TestAnything(t *testing.T) {
	for _, n := range edges() {
		for _, conn := range edges() {
			for _, now := range edges() {
				s := api.Source{N: n, Conn: conn, Now: now}
				for _, k := range kinds() {
					a, left, is := k.take(s)
					b, again, was := k.take(s)
					if a != b || left != again || is != was {
						t.Errorf("%s(%v) twice: %d, %d", k.name, s, a, b)
					}
				}
				if draw.Tick(s, conn) != draw.Tick(s, conn) || draw.Until(now, n) != draw.Until(now, n) {
					t.Errorf("the time of %v twice", s)
				}
			}
		}
	}
	if draw.New() != draw.New() {
		t.Error("New twice")
	}
}
