package match_test

import (
	"math"
	"testing"

	"pigeonhole/api"
	"pigeonhole/match"
)

// P11.1
func TestNew(t *testing.T) {
	for _, n := range []int{math.MinInt, math.MinInt + 1, math.MinInt32, -101, -100, -2, -1, 0, 101, 102, 255, 256, 356, 1 << 20, math.MaxInt32, 1 << 32, 1<<32 + 1, math.MaxInt - 1, math.MaxInt} {
		if v := match.New(n); len(v.Has) != 0 || len(v.Values) != 0 {
			t.Errorf("New(%d): %d, %d", n, len(v.Has), len(v.Values))
		}
	}
	for n := 0; n <= 100; n++ {
		v := match.New(n)
		if len(v.Has) != n || len(v.Values) != n {
			t.Errorf("New(%d): %d, %d", n, len(v.Has), len(v.Values))
		}
		for i := range v.Has {
			if v.Has[i] || !zero(v.Values[i]) {
				t.Errorf("New(%d): the variable %d has a value", n, i)
			}
		}
	}
	if api.MaxVars != 100 {
		t.Error(api.MaxVars)
	}
}

// P11.1: each one's memory is its own.
func TestNewIsNew(t *testing.T) {
	v, w := match.New(3), match.New(3)
	v.Has[1], v.Values[1] = true, atom("a")
	if shown(w) != "- - -" || shown(match.New(3)) != "- - -" {
		t.Error(shown(w))
	}
}
