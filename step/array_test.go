package step_test

import (
	"slices"
	"strconv"
	"strings"
	"testing"

	"larch/api"
)

// Tests of 18.1: arrays, and new objects. The standard heap has [I 5, [J 6, [B 7, [La; 8, [Lb; 9, [[I 10, [LObject; 15, [[La; 18, [[B 19.

func TestFetches(t *testing.T) {
	for k, v := range []string{"i1", "i2", "i3"} {
		goes(t, "iaload", "| 5 i"+strconv.Itoa(k), "| "+v)
	}
	goes(t, "laload", "| 6 i0", "| l1")
	goes(t, "laload", "| 6 i1", "| l2")
	goes(t, "baload", "| 7 i0", "| i-128")
	goes(t, "baload", "| 7 i1", "| i127")
	goes(t, "aaload", "| 8 i0", "| 1")
	goes(t, "aaload", "| 8 i1", "| 0")
	goes(t, "aaload", "| 8 i2", "| 2")
	goes(t, "aaload", "| 10 i0", "| 5")
	goes(t, "aaload", "| 15 i1", "| 5")
	goes(t, "aaload", "| 18 i1", "| 9")
}

func TestPuts(t *testing.T) {
	goes(t, "iastore", "| 5 i0 i9", "|", "5.0=i9")
	goes(t, "iastore", "| 5 i2 i-2147483648", "|", "5.2=i-2147483648")
	goes(t, "iastore", "| 5 i1 i2147483647", "|", "5.1=i2147483647")
	goes(t, "lastore", "| 6 i0 l9", "|", "6.0=l9")
	goes(t, "lastore", "| 6 i1 l-9223372036854775808", "|", "6.1=l-9223372036854775808")
	for n, want := range map[int]int{-129: 127, -128: -128, 127: 127, 128: -128, 0: 0, 255: -1, 256: 0, -1: -1, mostInt: -1, leastInt: 0, 65407: 127} {
		goes(t, "bastore", "| 7 i1 i"+strconv.Itoa(n), "|", "7.1=i"+strconv.Itoa(want))
	}
}

// An index that an array does not have, and no array at all.
func TestArraysWithoutThePlace(t *testing.T) {
	for _, x := range []struct{ fetch, put, array, value string }{
		{"iaload", "iastore", "5", "i9"}, {"laload", "lastore", "6", "l9"}, {"baload", "bastore", "7", "i9"}, {"aaload", "aastore", "8", "1"}, {"aaload", "aastore", "8", "0"},
		{"aaload", "aastore", "8", "4"}, {"aaload", "aastore", "10", "5"}, {"aaload", "aastore", "10", "4"},
	} {
		size := len(heapOf(standardHeap)[valueOf(x.array).N-1].Words)
		for _, k := range []int{-1, size, size + 1, leastInt, mostInt, 1 << 16} {
			throws(t, x.fetch, "i1 | "+x.array+" i"+strconv.Itoa(k), "Index")
			throws(t, x.put, "i1 | "+x.array+" i"+strconv.Itoa(k)+" "+x.value, "Index") // ahead of Store
		}
		for _, k := range []int{-1, 0, 1, size} {
			throws(t, x.fetch, "| 0 i"+strconv.Itoa(k), "Null") // ahead of Index
			throws(t, x.put, "| 0 i"+strconv.Itoa(k)+" "+x.value, "Null")
		}
	}
	x, s := doing(t, "iaload", "| 5 i0") // an array of no elements
	s = s.changed("5=[I")
	isResult(t, "of an empty one", steps(t, x.Program, s), result{scene: s, effect: api.Effect{Kind: api.EThrow, Name: "Index"}})
}

// What may lie in an array: what its own Type tells, which may be more than the frame knows.
func TestPutsOfReferences(t *testing.T) {
	const fits, not = "fits", "does not"
	for _, x := range []struct{ array, value, want string }{
		{"8", "1", fits}, {"8", "2", fits}, {"8", "3", fits}, {"8", "0", fits}, {"8", "4", not}, {"8", "5", not}, {"8", "8", not}, {"8", "14", not}, {"8", "12", not},
		{"9", "1", not}, {"9", "2", fits}, {"9", "3", fits}, {"9", "0", fits}, {"9", "4", not}, {"9", "9", not},
		{"10", "5", fits}, {"10", "0", fits}, {"10", "6", not}, {"10", "7", not}, {"10", "8", not}, {"10", "1", not}, {"10", "10", not}, {"10", "14", not},
		{"15", "1", fits}, {"15", "5", fits}, {"15", "10", fits}, {"15", "14", fits}, {"15", "15", fits}, {"15", "12", fits}, {"15", "0", fits},
		{"18", "8", fits}, {"18", "9", fits}, {"18", "10", not}, {"18", "15", not}, {"18", "1", not}, {"18", "18", not}, {"18", "0", fits},
		{"19", "7", fits}, {"19", "5", not}, {"19", "0", fits}, {"19", "19", not},
	} {
		in := "| " + x.array + " i0 " + x.value
		if x.want == fits {
			goes(t, "aastore", in, "|", x.array+".0="+x.value)
		} else {
			throws(t, "aastore", in, "Store")
		}
	}
	// An array into itself, where that may be.
	goes(t, "aastore", "| 15 i2 15", "|", "15.2=15")
}

func TestSizes(t *testing.T) {
	for array, size := range map[string]string{"5": "i3", "6": "i2", "7": "i2", "8": "i3", "10": "i2", "19": "i1"} {
		goes(t, "arraylength", "| "+array, "| "+size)
	}
	throws(t, "arraylength", "| 0", "Null")
	for _, size := range []int{0, 1, 65000} {
		x, s := doing(t, "arraylength", "| 5")
		s = scene{heap: heapOf("- [I"), call: s.call}.calledWith("| 2")
		s.heap[1].Words = slices.Repeat(valuesOf("i7"), size)
		r := steps(t, x.Program, s)
		is(t, "size", r.call.Stack[0], api.Value{Kind: api.KInt, N: size})
	}
}

// New objects have their class's fields, those of the classes above it, too; they get the least free number.
func TestNewObjects(t *testing.T) {
	for name, words := range map[string]string{
		"a": ":i0,l0,0,0", "b": ":i0,l0,0,0,i0,l0", "c": ":i0,l0,0,0,i0,l0,0", "other": ":i0", "Bad": ":i0", "Worse": ":i0", "side": "", "Main": "", "Object": "", "Throwable": "",
		"Arithmetic": "", "Monitor": "",
	} {
		goes(t, "new {class "+name+"}", "|", "| 11", "11="+name+words)
		x, s := doing(t, "new {class "+name+"}", "i5 |")
		s.heap = s.heap[:10]
		goesFrom(t, x, s, "a new "+name+" behind", "next", "i5 | 11", "+"+name+words)
		s.heap = nil
		goesFrom(t, x, s, "the first "+name, "next", "i5 | 1", "+"+name+words)
	}
}

func TestNewArrays(t *testing.T) {
	for _, x := range []struct{ instr, name, zero string }{
		{"newarray 8", "[B", "i0"}, {"newarray 10", "[I", "i0"}, {"newarray 11", "[J", "l0"}, {"anewarray {class a}", "[La;", "0"}, {"anewarray {class Object}", "[LObject;", "0"},
		{"anewarray {class [I}", "[[I", "0"}, {"anewarray {class [B}", "[[B", "0"}, {"anewarray {class [[La;}", "[[[La;", "0"}, {"anewarray {class [[[[[[[I}", "[[[[[[[[I", "0"},
		{"anewarray {class nowhere}", "[Lnowhere;", "0"}, {"anewarray {class sys}", "[Lsys;", "0"},
	} {
		for _, n := range []int{0, 1, 2, 5} {
			words := strings.Repeat(x.zero+",", n)
			goes(t, x.instr, "| i"+strconv.Itoa(n), "| 11", "11="+x.name+":"+words)
		}
		for _, n := range []int{-1, -2, leastInt} {
			throws(t, x.instr, "i5 | i"+strconv.Itoa(n), "Negative")
		}
	}
}

// manyObjects is a heap of so many objects without words.
func manyObjects(n int) []api.Object {
	l := make([]api.Object, n)
	for k := range l {
		l[k].Type = "Object"
	}
	return l
}

// manyWords is a heap with so many words, in objects of 1000 of them at most.
func manyWords(n int) []api.Object {
	var l []api.Object
	for ; n > 0; n -= 1000 {
		l = append(l, api.Object{Type: "[I", Words: slices.Repeat(valuesOf("i1"), min(n, 1000))})
	}
	return l
}

// No room for an object.
func TestFullOfObjects(t *testing.T) {
	for _, instr := range []string{"new {class a}", "new {class side}", "newarray 8", "anewarray {class a}"} {
		in := map[bool]string{true: "|", false: "| i0"}[instr[:4] == "new "]
		x, s := doing(t, instr, in)
		s.heap = manyObjects(4096)
		full := result{scene: s, effect: api.Effect{Kind: api.EFull}}
		isResult(t, instr, steps(t, x.Program, s), full)
		for _, free := range []int{0, 77, 4094} { // one is free
			s.heap = manyObjects(4096)
			s.heap[free] = api.Object{}
			r := steps(t, x.Program, s)
			is(t, "the number", r.call.Stack[0], api.Value{Kind: api.KRef, N: free + 1})
		}
		s.heap = manyObjects(4095)
		r := steps(t, x.Program, s)
		is(t, "the last number", r.call.Stack[0], api.Value{Kind: api.KRef, N: 4096})
	}
}

// No room for its words.
func TestFullOfWords(t *testing.T) {
	full := api.Effect{Kind: api.EFull}
	for _, x := range []struct {
		instr, in string
		size      int
	}{
		{"new {class a}", "|", 4}, {"new {class c}", "|", 7}, {"new {class side}", "|", 0}, {"newarray 10", "| i5", 5}, {"newarray 11", "| i1", 1}, {"newarray 8", "| i0", 0},
		{"anewarray {class a}", "| i65536", 65536}, {"newarray 11", "| i65535", 65535},
	} {
		p, s := doing(t, x.instr, x.in)
		s.heap = manyWords(65536 - x.size)
		r := steps(t, p.Program, s)
		is(t, x.instr+" with just as much room", r.effect.Kind, api.EGo)
		is(t, x.instr+": its number", r.call.Stack[0].N, len(s.heap)+1)
		if x.size > 0 {
			s.heap = manyWords(65537 - x.size)
			isResult(t, x.instr+" with a word too few", steps(t, p.Program, s), result{scene: s, effect: full})
		}
	}
	for _, n := range []int{65537, mostInt} {
		for _, instr := range []string{"newarray 8", "newarray 10", "newarray 11", "anewarray {class a}"} {
			stays(t, instr, "| i"+strconv.Itoa(n), full)
			x, s := doing(t, instr, "| i"+strconv.Itoa(n))
			s.heap = nil
			isResult(t, instr, steps(t, x.Program, s), result{scene: s, effect: full})
		}
	}
}

// Negative is told where there is no room, too.
func TestNegativeWithoutRoom(t *testing.T) {
	for _, instr := range []string{"newarray 10", "anewarray {class a}"} {
		x, s := doing(t, instr, "| i-1")
		s.heap = manyObjects(4096)
		isResult(t, instr, steps(t, x.Program, s), result{scene: s, effect: api.Effect{Kind: api.EThrow, Name: "Negative"}})
	}
}
