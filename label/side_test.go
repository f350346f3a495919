package label_test

import (
	"math"
	"testing"

	"culprit/label"
)

func wantSide(t *testing.T, blame, want int64, inside bool) {
	t.Helper()
	if got, gotInside := label.Side(blame); got != want || gotInside != inside {
		t.Errorf("P9.1: Side(%d) = %d, %v; not %d, %v", blame, got, gotInside, want, inside)
	}
}

func TestSide(t *testing.T) {
	wantSide(t, 5, 5, true)
	wantSide(t, -5, 5, false)
	wantSide(t, 1, 1, true)
	wantSide(t, -1, 1, false)
	wantSide(t, math.MaxInt64, math.MaxInt64, true)
	wantSide(t, math.MinInt64+1, math.MaxInt64, false)
	wantSide(t, 0, 0, false)
	wantSide(t, math.MinInt64, 0, false)
}

func wantTurn(t *testing.T, blame, want int64) {
	t.Helper()
	if got := label.Turn(blame); got != want {
		t.Errorf("P9.1: Turn(%d) = %d, not %d", blame, got, want)
	}
}

func TestTurn(t *testing.T) {
	wantTurn(t, 5, -5)
	wantTurn(t, -5, 5)
	wantTurn(t, 1, -1)
	wantTurn(t, -1, 1)
	wantTurn(t, math.MaxInt64, math.MinInt64+1)
	wantTurn(t, math.MinInt64+1, math.MaxInt64)
	wantTurn(t, 0, 0)
	wantTurn(t, math.MinInt64, 0)
}

func TestSidesOfManyBlames(t *testing.T) {
	for _, blame := range someBlames() {
		switch {
		case isNone(blame):
			wantSide(t, blame, 0, false)
			wantTurn(t, blame, 0)
		case blame > 0:
			wantSide(t, blame, blame, true)
			wantSide(t, -blame, blame, false)
			wantTurn(t, blame, -blame)
			wantTurn(t, -blame, blame)
		}
	}
}

func wantRule(t *testing.T, n int, want string) {
	t.Helper()
	if got := label.Rule(n); got != want {
		t.Errorf("P9.2: Rule(%d) = %q, not %q", n, got, want)
	}
}

func TestEveryRule(t *testing.T) {
	told := 0
	for n := -300; n <= 300; n++ {
		wantRule(t, n, wordOf(n))
		if label.Rule(n) != "" {
			told++
		}
	}
	if told != 18 {
		t.Errorf("P9.2: %d rules have words", told)
	}
	wantRule(t, 1, "body")
	wantRule(t, 18, "import")
}

func TestWhatIsNoRule(t *testing.T) {
	for _, n := range []int{0, 19, -1, -18, 1 << 8, 1<<8 + 1, 1<<32 + 1, math.MaxInt, math.MinInt, math.MinInt + 1} {
		wantRule(t, n, "")
	}
}
