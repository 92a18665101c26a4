package shape_test

import (
	"math"
	"slices"
	"strings"
	"testing"
)

// Tests of 11.1: locals.

// far are places that no list of locals has.
func far(n int) []int {
	return []int{n, n + 1, n + 255, 256, 65536, 1 << 32, math.MaxInt, math.MaxInt - 1, -1, -2, -n, -1 << 32, math.MinInt, math.MinInt + 1}
}

// 21, 22, 25 and 132 take locals of one kind, each of them as it is.
func TestGetLocal(t *testing.T) {
	fits := map[int]string{21: "I", 132: "I", 22: "J", 25: allRefs}
	for op, fit := range fits {
		for _, x := range strings.Fields(allTypes) {
			for _, stack := range []string{"", "I", "J", "a N T J"} {
				for at, locals := range []string{x + " J T a I", "a " + x + " J I", "T I " + x + " J T", "I J T " + x} {
					want := refused
					switch {
					case !slices.Contains(strings.Fields(fit), x):
					case op == 132:
						want = locals + " | " + stack
					default:
						want = locals + " | " + joined(stack, x)
					}
					ask(op, at).gives(t, locals+" | "+stack, want)
				}
			}
		}
	}
}

func TestGetLocalThatThereIsNot(t *testing.T) {
	for op, x := range map[int]string{21: "I", 22: "J", 25: "a", 132: "I"} {
		for n := range 5 {
			locals := strings.Repeat(x+" ", n)
			for _, a := range far(n) {
				if a < 0 || a >= n {
					ask(op, a).gives(t, locals+" | "+x, refused)
				}
			}
			if n > 0 && op != 132 {
				ask(op, n-1).gives(t, locals+" | "+x, locals+"| "+x+" "+x)
			}
		}
		ask(op, 0).gives(t, "", refused)
	}
}

// A long's second half is a KTop, that no instruction pushes.
func TestGetSecondHalf(t *testing.T) {
	for _, op := range []int{21, 22, 25, 132} {
		ask(op, 1).gives(t, "J T | ", refused)
	}
	ask(22, 0).gives(t, "J T | ", "J T | J")
	ask(22, 0).gives(t, "J I | ", "J I | J") // what lies behind it is not asked
	ask(22, 0).gives(t, "J | ", "J | J")
}

// 54, 55, 58 pop one kind, and set the local to it as it is.
func TestSetLocal(t *testing.T) {
	fits := map[int]string{54: "I", 55: "J", 58: allRefs}
	for op, fit := range fits {
		for _, x := range strings.Fields(allTypes) {
			for _, old := range strings.Fields(allTypes) {
				for _, below := range []string{"", "J", "T I"} {
					want, behind := refused, "I"
					if x == "J" {
						behind = "T"
					}
					if slices.Contains(strings.Fields(fit), x) {
						want = joined("a", x, behind, "[J | "+below)
					}
					got := ask(op, 1).do(t, frame("a "+old+" I [J | "+joined(below, x)))
					if strings.TrimSpace(got) != want {
						t.Errorf("%d of %s where there was %s: %s, want %s", op, x, old, got, want)
					}
				}
			}
		}
		ask(op, 0).gives(t, "I I I | ", refused)
	}
}

func TestSetLocalThatThereIsNot(t *testing.T) {
	for op, x := range map[int]string{54: "I", 55: "J", 58: "a"} {
		for n := range 5 {
			locals := strings.Repeat("T ", n)
			for _, a := range far(n) {
				if a < 0 || a >= n {
					ask(op, a).gives(t, locals+" | "+x, refused)
				}
			}
		}
		ask(op, 0).gives(t, x, refused)
	}
}

func TestSetLast(t *testing.T) {
	ask(54, 2).gives(t, "a a a | I", "a a I | ")
	ask(58, 2).gives(t, "I I I | N", "I I N | ")
	ask(58, 0).gives(t, "I | [J", "[J | ")
	ask(55, 2).gives(t, "a a a | J", refused) // there is no next one
	ask(55, 1).gives(t, "a a a | J", "a J T | ")
	ask(55, 0).gives(t, "a a a | J", "J T a | ")
	ask(55, 0).gives(t, "a a | J", "J T | ")
	ask(55, 0).gives(t, "a | J", refused)
	ask(55, 1).gives(t, "a a | J", refused)
}

// Just behind a long: that has lost its second half.
func TestSetBehindLong(t *testing.T) {
	ask(54, 1).gives(t, "J T I | I", "T I I | ")
	ask(58, 1).gives(t, "J T I | a", "T a I | ")
	ask(55, 1).gives(t, "J T I | J", "T J T | ")
	ask(54, 3).gives(t, "J T J T | I", "J T T I | ")
	ask(54, 1).gives(t, "J T J T | I", "T I J T | ")
	ask(54, 2).gives(t, "J T I | I", "J T I | ") // behind its second half
	ask(55, 2).gives(t, "J T I I | J", "J T J T | ")
	ask(58, 1).gives(t, "J J J | N", "T N J | ")
	ask(54, 0).gives(t, "I J T | I", "I J T | ")
}

// Into the place of a long, and of what lies behind one.
func TestSetInPlaceOfLong(t *testing.T) {
	ask(54, 0).gives(t, "J T I | I", "I T I | ")
	ask(58, 1).gives(t, "I J T | a", "I a T | ")
	ask(55, 0).gives(t, "J T I | J", "J T I | ")
	ask(55, 1).gives(t, "I I J T | J", "I J T T | ")
	ask(55, 0).gives(t, "I J T | J", "J T T | ")
	ask(54, 1).gives(t, "J T | I", "T I | ")
	ask(55, 1).gives(t, "J T J T | J", "T J T T | ")
}

// All short lists of locals, into each place.
func TestSetEverywhere(t *testing.T) {
	l := []string{"I", "J", "T", "a"}
	var all func(locals []string)
	all = func(locals []string) {
		for a := -1; a <= len(locals); a++ {
			for op, x := range map[int]string{54: "I", 55: "J", 58: "b"} {
				want := refused
				if a >= 0 && a < len(locals) && (x != "J" || a+1 < len(locals)) {
					w := slices.Clone(locals)
					w[a] = x
					if x == "J" {
						w[a+1] = "T"
					}
					if a > 0 && w[a-1] == "J" {
						w[a-1] = "T"
					}
					want = strings.Join(w, " ") + " | N"
				}
				ask(op, a).gives(t, strings.Join(locals, " ")+" | N "+x, want)
			}
		}
		if len(locals) == 4 {
			return
		}
		for _, x := range l {
			all(append(slices.Clone(locals), x))
		}
	}
	all(nil)
}
