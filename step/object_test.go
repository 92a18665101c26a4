package step_test

import (
	"testing"

	"larch/api"
)

// Tests of 18.1: what takes an object as a whole.

// What is thrown stays on the stack.
func TestThrown(t *testing.T) {
	for _, n := range []string{"12", "13", "16", "20"} {
		stays(t, "athrow", "| "+n, api.Effect{Kind: api.EThrow, Value: valueOf(n)})
		stays(t, "athrow", "i1 l2 t0 | 3 i4 l5 "+n, api.Effect{Kind: api.EThrow, Value: valueOf(n)})
	}
	throws(t, "athrow", "| 0", "Null")
	throws(t, "athrow", "i1 | i5 0", "Null")
}

// May the objects of the standard heap stand for a class's constant, or an array's?
var mayStand = map[string]string{
	"a": "1 2 3", "b": "2 3", "c": "3", "other": "4", "Object": "1 2 3 4 5 6 7 8 9 10 12 13 14 15 16 17 18 19 20", "Throwable": "12 13 16 20", "Bad": "12 16", "Worse": "16",
	"Null": "20", "Main": "17", "sys": "", "side": "", "nowhere": "", "[I": "5", "[J": "6", "[B": "7", "[La;": "8 9", "[Lb;": "9", "[Lc;": "", "[[I": "10",
	"[LObject;": "8 9 10 15 18 19", "[[La;": "18", "[[Lb;": "", "[[LObject;": "18", "[[B": "19", "[[[I": "", "[Lother;": "",
}

func TestCasts(t *testing.T) {
	for name, text := range mayStand {
		may := map[string]bool{}
		for _, n := range wordsOf(text) {
			may[n] = true
		}
		goes(t, "checkcast {class "+name+"}", "i1 | 0", "i1 | 0")
		goes(t, "instanceof {class "+name+"}", "i1 | 0", "i1 | i0")
		for _, n := range wordsOf("1 2 3 4 5 6 7 8 9 10 12 13 14 15 16 17 18 19 20") {
			if may[n] {
				goes(t, "checkcast {class "+name+"}", "| "+n, "| "+n)
				goes(t, "instanceof {class "+name+"}", "| "+n, "| i1")
			} else {
				throws(t, "checkcast {class "+name+"}", "i1 | "+n, "Cast")
				goes(t, "instanceof {class "+name+"}", "| "+n, "| i0")
			}
		}
	}
}

func TestMonitors(t *testing.T) {
	for _, n := range []string{"1", "5", "10", "14", "20"} {
		comes(t, "monitorenter", "| "+n, "|", api.Effect{Kind: api.EEnter, Object: valueOf(n).N})
		comes(t, "monitorexit", "i1 | l2 3 "+n, "i1 | l2 3", api.Effect{Kind: api.EExit, Object: valueOf(n).N})
	}
	for _, instr := range []string{"monitorenter", "monitorexit"} {
		throws(t, instr, "| 0", "Null")
		throws(t, instr, "i1 | i5 0", "Null")
	}
}

// A free number, one too great, and ones that are none, wherever an object is asked for.
func TestNumbersWithoutObjects(t *testing.T) {
	for _, n := range []string{"11", "21", "22", "4096", "4097", "2147483647", "4294967297", "-1", "-2147483648", "9223372036854775807", "-9223372036854775808"} {
		for _, x := range []struct{ instr, right, wrong string }{
			{"arraylength", "| 5", "| #"}, {"athrow", "| 12", "| #"}, {"checkcast {class a}", "| 1", "| #"}, {"checkcast {class Object}", "| 1", "| #"},
			{"instanceof {class a}", "| 1", "| #"}, {"instanceof {class Object}", "| 1", "| #"}, {"monitorenter", "| 1", "| #"}, {"monitorexit", "| 1", "| #"},
			{"iaload", "| 5 i0", "| # i0"}, {"iaload", "| 5 i0", "| # i-1"}, {"laload", "| 6 i0", "| # i0"}, {"baload", "| 7 i0", "| # i0"}, {"aaload", "| 8 i0", "| # i0"},
			{"iastore", "| 5 i0 i1", "| # i0 i1"}, {"lastore", "| 6 i0 l1", "| # i0 l1"}, {"bastore", "| 7 i0 i1", "| # i0 i1"}, {"aastore", "| 8 i0 1", "| # i0 1"},
			{"aastore", "| 8 i0 1", "| # i0 0"}, {"aastore", "| 8 i0 1", "| 8 i0 #"}, {"aastore", "| 15 i0 1", "| 15 i0 #"},
			{"getfield {field a x I}", "| 1", "| #"}, {"putfield {field a x I}", "| 1 i5", "| # i5"}, {"putfield {field a r La;}", "| 1 1", "| # 1"},
		} {
			wrong := x.wrong
			for k := range wrong {
				if wrong[k] == '#' {
					wrong = wrong[:k] + n + wrong[k+1:]
					break
				}
			}
			stuck(t, x.instr, x.right, wrong)
		}
	}
}
