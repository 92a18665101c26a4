package step_test

import (
	"testing"

	"larch/api"
)

// Tests of 18.1: what calls, and what the house does.

// called is the effect of a call.
func called(class, method int, args string) api.Effect {
	return api.Effect{Kind: api.ECall, Class: class, Method: method, Args: valuesOf(args)}
}

// asked is the effect of one of the house's calls.
func asked(n int, args string) api.Effect {
	return api.Effect{Kind: api.ESys, Method: n, Args: valuesOf(args)}
}

func TestStaticCalls(t *testing.T) {
	comes(t, "invokestatic {method a two (IJLa;)V}", "| i1 l2 3", "|", called(inA, 2, "i1 l2 3"))
	comes(t, "invokestatic {method a two (IJLa;)V}", "i5 l6 t0 | i-1 l-2 0", "i5 l6 t0 |", called(inA, 2, "i-1 l-2 0"))
	comes(t, "invokestatic {method a none ()J}", "i5 |", "i5 |", called(inA, 4, ""))
	comes(t, "invokestatic {method Main main ()V}", "|", "|", called(inMain, 0, ""))
	comes(t, "invokestatic {method b two (IJLa;)V}", "| i1 l2 2", "|", called(inA, 2, "i1 l2 2")) // of a class above
	comes(t, "invokestatic {method c none ()J}", "|", "|", called(inA, 4, ""))
	comes(t, "invokestatic {method b m ()V}", "|", "|", called(inB, 0, "")) // itself
	comes(t, "invokestatic {method c m ()V}", "|", "|", called(inB, 0, ""))
	comes(t, "invokestatic {method a two (IJLa;)V}", "| l7 1 i8 i1 l2 3", "| l7 1 i8", called(inA, 2, "i1 l2 3"))
}

func TestHouseCalls(t *testing.T) {
	comes(t, "invokestatic {method sys out (I)V}", "i1 | i5", "i1 |", asked(1, "i5"))
	comes(t, "invokestatic {method sys out (I)V}", "| 3 l4 i-2147483648", "| 3 l4", asked(1, "i-2147483648"))
	comes(t, "invokestatic {method sys in ()I}", "| i3", "| i3", asked(2, ""))
	comes(t, "invokestatic {method sys spawn (LObject;)V}", "| 3", "|", asked(3, "3"))
	comes(t, "invokestatic {method sys spawn (LObject;)V}", "| 0", "|", asked(3, "0"))
	comes(t, "invokestatic {method sys spawn (LObject;)V}", "| 5", "|", asked(3, "5"))
	comes(t, "invokestatic {method sys wait (LObject;)V}", "| 1 4", "| 1", asked(4, "4"))
	comes(t, "invokestatic {method sys wait (LObject;)V}", "| 0", "|", asked(4, "0"))
	comes(t, "invokestatic {method sys notify (LObject;)V}", "| 4", "|", asked(5, "4"))
	comes(t, "invokestatic {method sys notify (LObject;)V}", "| 0", "|", asked(5, "0"))
	comes(t, "invokestatic {method sys yield ()V}", "i1 l2 t0 |", "i1 l2 t0 |", asked(6, ""))
}

// 182: what is found in the class of the object's Type.
func TestCallsOfObjects(t *testing.T) {
	comes(t, "invokevirtual {method a get ()I}", "| 1", "|", called(inA, 0, "1"))
	comes(t, "invokevirtual {method a get ()I}", "| i5 2", "| i5", called(inA, 0, "2")) // b has none of its own
	comes(t, "invokevirtual {method a get ()I}", "| 3", "|", called(inC, 1, "3"))       // c has one
	comes(t, "invokevirtual {method b get ()I}", "| 2", "|", called(inA, 0, "2"))
	comes(t, "invokevirtual {method b get ()I}", "| 3", "|", called(inC, 1, "3"))
	comes(t, "invokevirtual {method c get ()I}", "| 3", "|", called(inC, 1, "3"))
	comes(t, "invokevirtual {method other get ()I}", "| 4", "|", called(inOther, 0, "4"))
	comes(t, "invokevirtual {method a add (IJLa;[I)J}", "| 3 i1 l2 0 5", "|", called(inA, 1, "3 i1 l2 0 5"))
	comes(t, "invokevirtual {method a add (IJLa;[I)J}", "t0 | l9 1 i1 l2 3 0", "t0 | l9", called(inA, 1, "1 i1 l2 3 0"))
	comes(t, "invokevirtual {method c set (I)V}", "| 3 i7", "|", called(inC, 0, "3 i7"))
	comes(t, "invokevirtual {method c run ()V}", "| 3", "|", called(inA, 3, "3"))
}

// 183: what is found in the class of the constant.
func TestCallsOfClasses(t *testing.T) {
	comes(t, "invokespecial {method a get ()I}", "| 1", "|", called(inA, 0, "1"))
	comes(t, "invokespecial {method a get ()I}", "| 3", "|", called(inA, 0, "3"))
	comes(t, "invokespecial {method b get ()I}", "| 3", "|", called(inA, 0, "3"))
	comes(t, "invokespecial {method c get ()I}", "| 3", "|", called(inC, 1, "3"))
	comes(t, "invokespecial {method a add (IJLa;[I)J}", "i1 | i9 3 i1 l2 0 5", "i1 | i9", called(inA, 1, "3 i1 l2 0 5"))
	comes(t, "invokespecial {method c run ()V}", "| 3", "|", called(inA, 3, "3"))
}

func TestCallsOfNull(t *testing.T) {
	for _, op := range []string{"invokevirtual", "invokespecial"} {
		throws(t, op+" {method a get ()I}", "i5 | 0", "Null")
		throws(t, op+" {method a add (IJLa;[I)J}", "| 0 i1 l2 3 5", "Null")
		throws(t, op+" {method a add (IJLa;[I)J}", "| 0 i1 l2 0 0", "Null")
		throws(t, op+" {method c set (I)V}", "| 1 0 i0", "Null")
	}
}

// A number of no object; and of an object of no class that has the method, as of an array, whose class is Object.
func TestCallsOfOthers(t *testing.T) {
	for _, op := range []string{"invokevirtual", "invokespecial"} {
		for _, n := range []string{"11", "21", "-1", "4097", "2147483647", "-9223372036854775808"} {
			stuck(t, op+" {method a get ()I}", "| 1", "| "+n)
			stuck(t, op+" {method a add (IJLa;[I)J}", "| 1 i1 l2 0 0", "| "+n+" i1 l2 0 0")
		}
	}
	for _, n := range []string{"5", "8", "12", "13", "14", "15", "17"} {
		stuck(t, "invokevirtual {method a get ()I}", "| 1", "| "+n)
	}
	stuck(t, "invokevirtual {method c set (I)V}", "| 3 i1", "| 2 i1")
	x, s := doing(t, "invokevirtual {method a get ()I}", "| 1")
	isResult(t, "of no class", steps(t, x.Program, s.changed("1=nowhere")), result{e: api.ErrStack})
	isResult(t, "of an array of a class", steps(t, x.Program, s.changed("1=[La;:0")), result{e: api.ErrStack})
}

// The longest list of arguments.
func TestCallsWithMany(t *testing.T) {
	desc, in := "(JJJJJJJJJJJJJJJJ)V", "l1 l2 l3 l4 l5 l6 l7 l8 l9 l10 l11 l12 l13 l14 l15 l16"
	x := programOf(t, static("()V", 64, 0, "aconst_null, athrow, here: = | J J J J J J J J J J J J J J J J, invokestatic {method b n "+desc+"}, next: return"), written{api.AStatic, "n", desc, 0, 32, "return"})
	s := standard().calledWith("| " + in)
	s.call.Class, s.call.At = inB, x.at(0, "here")
	want := s.calledWith("|")
	want.call.At = x.at(0, "next")
	isResult(t, "many arguments", steps(t, x.Program, s), result{scene: want, effect: called(inB, 1, in)})
}
