package step_test

import (
	"fmt"
	"math"
	"slices"
	"strconv"
	"strings"
	"testing"

	"larch/api"
	"larch/link"
	"larch/step"
)

// What the tests share. Each step that they do is held against the chapter's words, is done twice, and is asked, too, whether it
// changed what it was given, and whether what it answers is memory of its own.

const (
	leastLong = math.MinInt64
	mostLong  = math.MaxInt64
	leastInt  = math.MinInt32
	mostInt   = math.MaxInt32
)

// valueOf is the value that a text tells: a number is a KRef; i, l, n, t ahead of one make it a KInt, KLong, KNull, KTop.
func valueOf(s string) api.Value {
	v := api.Value{Kind: api.KRef}
	if k := strings.IndexByte("tiln", s[0]); k >= 0 {
		v.Kind, s = k, s[1:]
	}
	n, e := strconv.Atoi(s)
	if e != nil {
		panic(s)
	}
	v.N = n
	return v
}

// valuesOf are the values that a text tells, one behind the other.
func valuesOf(text string) []api.Value {
	var l []api.Value
	for _, s := range strings.Fields(text) {
		l = append(l, valueOf(s))
	}
	return l
}

// heapOf is the heap whose members a text tells: a Type, and behind a colon the words, with commas between them; - is free.
func heapOf(text string) []api.Object {
	var l []api.Object
	for _, s := range strings.Fields(text) {
		kind, words, _ := strings.Cut(s, ":")
		if kind == "-" {
			kind = ""
		}
		l = append(l, api.Object{Type: kind, Words: valuesOf(strings.ReplaceAll(words, ",", " "))})
	}
	return l
}

// scene is what a step is done to, and what it comes to.
type scene struct {
	heap    []api.Object
	statics []api.Value
	call    api.Call
}

// result is what a step answers.
type result struct {
	scene
	effect api.Effect
	e      api.Errno
}

// calledWith is a scene with other locals and another stack: "locals | stack".
func (s scene) calledWith(text string) scene {
	locals, stack, _ := strings.Cut(text, "|")
	s.call.Locals, s.call.Stack = valuesOf(locals), valuesOf(stack)
	return s
}

// copied answers a scene in memory of its own, with room behind each list, where something lies that is not to be touched.
func (s scene) copied() scene {
	objects := append(slices.Clone(s.heap), behindObject)[:len(s.heap)]
	for k := range objects {
		objects[k].Words = roomy(objects[k].Words)
	}
	c := s.call
	c.Locals, c.Stack = roomy(c.Locals), roomy(c.Stack)
	return scene{objects, roomy(s.statics), c}
}

// behindValue and behindObject are what lies in the room behind each list that is handed in.
var (
	behindValue  = api.Value{Kind: 9, N: 9}
	behindObject = api.Object{Type: "behind"}
)

func roomy(l []api.Value) []api.Value {
	return append(slices.Clone(l), behindValue, behindValue, behindValue)[:len(l)]
}

// values are a scene's lists of values.
func (s scene) values() [][]api.Value {
	l := [][]api.Value{s.statics, s.call.Locals, s.call.Stack}
	for _, x := range s.heap {
		l = append(l, x.Words)
	}
	return l
}

func sameObjects(l, m []api.Object) bool {
	return slices.EqualFunc(l, m, func(x, y api.Object) bool { return x.Type == y.Type && slices.Equal(x.Words, y.Words) })
}

func sameCall(c, d api.Call) bool {
	return slices.Equal(c.Locals, d.Locals) && slices.Equal(c.Stack, d.Stack) &&
		c.Class == d.Class && c.Method == d.Method && c.At == d.At && c.Lock == d.Lock
}

func sameEffect(a, b api.Effect) bool {
	return a.Kind == b.Kind && a.Class == b.Class && a.Method == b.Method && slices.Equal(a.Args, b.Args) && a.Value == b.Value &&
		a.Name == b.Name && a.Object == b.Object
}

// same holds if two scenes are the same; lists without members may be nil or empty.
func (s scene) same(o scene) bool {
	return sameObjects(s.heap, o.heap) && slices.Equal(s.statics, o.statics) && sameCall(s.call, o.call)
}

func (r result) same(o result) bool {
	return r.scene.same(o.scene) && sameEffect(r.effect, o.effect) && r.e == o.e
}

func (s scene) String() string {
	return fmt.Sprintf("heap %v statics %v call %v", s.heap, s.statics, s.call)
}

func (r result) String() string { return fmt.Sprintf("%v effect %v %v", r.scene, r.effect, r.e) }

// isUntouched asks whether a scene that was handed in is as it was, with what lies behind its lists.
func (s scene) isUntouched(t *testing.T, was scene) {
	t.Helper()
	if !s.same(was) {
		t.Fatalf("changed what was handed in, %v, to %v", was, s)
	}
	for _, l := range s.values() {
		if tail := l[len(l) : len(l)+3]; tail[0] != behindValue || tail[1] != behindValue || tail[2] != behindValue {
			t.Fatalf("changed behind %v, that was handed in", l)
		}
	}
	if x := s.heap[:len(s.heap)+1][len(s.heap)]; x.Type != "behind" || x.Words != nil {
		t.Fatalf("changed behind the heap that was handed in")
	}
}

// scribble writes over lists of values, and over the room behind them, at each place something else.
func scribble(salt int, lists [][]api.Value) {
	for k, l := range lists {
		for i := range l[:cap(l)] {
			l[:cap(l)][i] = api.Value{Kind: -7 - salt, N: k<<20 + i}
		}
	}
}

// isScribbled holds if all that scribble wrote is there.
func isScribbled(salt int, lists [][]api.Value) bool {
	for k, l := range lists {
		for i, v := range l[:cap(l)] {
			if v != (api.Value{Kind: -7 - salt, N: k<<20 + i}) {
				return false
			}
		}
	}
	return true
}

// scribbleObjects takes a list of objects, and the room behind it, away from what it was.
func scribbleObjects(l []api.Object, name string) {
	for k := range l[:cap(l)] {
		l[:cap(l)][k] = api.Object{Type: name}
	}
}

// isOwn asks whether an answer is memory of its own, and each list of it, too: changing what was handed in does not change it, nor
// the other way round.
func isOwn(t *testing.T, in scene, r result) {
	t.Helper()
	want := result{r.scene.copied(), r.effect, r.e}
	want.effect.Args = slices.Clone(r.effect.Args)
	given := in.values()
	scribble(1, given)
	scribbleObjects(in.heap, "handed in")
	if !r.same(want) {
		t.Fatalf("what was answered changes with what was handed in: %v", r)
	}
	own := append(r.values(), r.effect.Args)
	scribble(2, own)
	scribbleObjects(r.heap, "answered")
	if !isScribbled(2, own) {
		t.Fatalf("two lists of the answer share memory")
	}
	if !isScribbled(1, given) {
		t.Fatalf("what was handed in changes with what was answered")
	}
	for _, x := range in.heap[:cap(in.heap)] {
		if x.Type != "handed in" {
			t.Fatalf("the heap that was handed in changes with the one that was answered")
		}
	}
}

// isZero holds if beside an error there is nothing.
func (r result) isZero() bool {
	return len(r.heap) == 0 && len(r.statics) == 0 && sameCall(r.call, api.Call{}) && sameEffect(r.effect, api.Effect{})
}

// ask asks Step, with a scene of its own.
func ask(p *link.Program, s scene) (in scene, r result) {
	in = s.copied()
	r.heap, r.statics, r.call, r.effect, r.e = step.Step(p, in.heap, in.statics, in.call)
	return in, r
}

// steps asks Step twice, and answers what it comes to.
func steps(t *testing.T, p *link.Program, s scene) result {
	t.Helper()
	want := plainStep(p, s)
	for range 2 { // the second time with all of the first answer changed
		in, r := ask(p, s)
		if !r.same(want) {
			t.Fatalf("a step of %v:\n%v, want\n%v", s, r, want)
		}
		if r.e != api.OK && !r.isZero() {
			t.Fatalf("a step of %v: beside an error %v", s, r)
		}
		in.isUntouched(t, s)
		isOwn(t, in, r)
	}
	return want
}

// is asks for a value.
func is[T comparable](t *testing.T, what string, got, want T) {
	t.Helper()
	if got != want {
		t.Errorf("%s: %v, want %v", what, got, want)
	}
}

// standardHeap has objects of all kinds; 11 is free.
const standardHeap = "a:i5,l6,2,5 b:i7,l8,1,0,i9,l10 c:i1,l2,3,0,i4,l5,2 other:i7 [I:i1,i2,i3 [J:l1,l2 [B:i-128,i127 [La;:1,0,2 [Lb;:2,3 [[I:5,0 - " +
	"Bad:i3 Throwable Object [LObject;:4,5,0 Worse:i8 Main [[La;:8,9 [[B:7 Null"

// standardStatics are the statics of the family: a.s, a.t, b.u, other.v.
const standardStatics = "i10 l20 1 i30"

// standard is a scene with the standard heap and statics.
func standard() scene { return scene{heap: heapOf(standardHeap), statics: valuesOf(standardStatics)} }

// kindsOf tells the types of values, as frames are written: of a reference the Type of its object.
func kindsOf(l []api.Object, values []api.Value) string {
	var s []string
	for _, v := range values {
		switch {
		case v.Kind == api.KRef && v.N > 0 && v.N <= len(l) && l[v.N-1].Type != "":
			s = append(s, l[v.N-1].Type)
		default:
			s = append(s, []string{api.KTop: "T", api.KInt: "I", api.KLong: "J", api.KNull: "?", api.KRef: "N"}[v.Kind])
		}
	}
	return strings.Join(s, " ")
}

// doing makes a program in which b has a method with one instruction at the label here, where the frame is that of values that a
// text tells; what the method answers is told by the instruction. It may branch to there; next is behind it.
func doing(t *testing.T, instr, text string) (made, scene) {
	t.Helper()
	s := standard().calledWith(text)
	locals, stack := kindsOf(s.heap, s.call.Locals), kindsOf(s.heap, s.call.Stack)
	return framed(t, instr, text, locals, stack)
}

// framed is as doing, with types that are told.
func framed(t *testing.T, instr, text, locals, stack string) (made, scene) {
	t.Helper()
	s := standard().calledWith(text)
	back := map[string]string{"ireturn": "I", "lreturn": "J", "areturn": "LObject;"}[instr]
	if back == "" {
		back = "V"
	}
	next := "next: "
	if op := opOf(strings.Fields(instr)[0]); op == 167 || op >= 170 && op <= 177 || op == 191 {
		next = "next: = " + locals + " |, "
	}
	end := "aconst_null, athrow"
	x := programOf(t, static("()"+back, 64, len(s.call.Locals), end+", here: = "+locals+" | "+stack+", "+instr+", "+next+end+", there: = "+locals+" |, "+end))
	s.call.Class, s.call.Method, s.call.At, s.call.Lock = inB, 0, x.at(0, "here"), 80
	return x, s
}

// changed applies changes to a scene: "5.0=i9" sets a word, "s1=l9" a static, "+[I:i0" puts an object behind, "11=[I:i0" in a number.
func (s scene) changed(changes ...string) scene {
	s = s.copied()
	for _, x := range changes {
		where, what, ok := strings.Cut(x, "=")
		number, word, isWord := strings.Cut(where, ".")
		n, _ := strconv.Atoi(strings.TrimPrefix(number, "s"))
		switch {
		case !ok:
			s.heap = append(s.heap, heapOf(x[1:])...)
		case where[0] == 's':
			s.statics[n] = valueOf(what)
		case isWord:
			k, _ := strconv.Atoi(word)
			s.heap[n-1].Words[k] = valueOf(what)
		default:
			s.heap[n-1] = heapOf(what)[0]
		}
	}
	return s
}

// isResult asks for what a step comes to.
func isResult(t *testing.T, what string, r, want result) {
	t.Helper()
	if !r.same(want) {
		t.Errorf("%s: %v\nwant %v", what, r, want)
	}
}

// goes does a step, which comes to EGo, a call with what a text tells, at next, and changes.
func goes(t *testing.T, instr, in, out string, changes ...string) {
	t.Helper()
	x, s := doing(t, instr, in)
	goesFrom(t, x, s, instr+" of "+in, "next", out, changes...)
}

// goesFrom is as goes, from a scene, to a label.
func goesFrom(t *testing.T, x made, s scene, what, label, out string, changes ...string) {
	t.Helper()
	want := s.changed(changes...).calledWith(out)
	want.call.At = x.at(0, label)
	isResult(t, what, steps(t, x.Program, s), result{scene: want})
	low := valuesOf("l1 i2 0 99 t0")
	s.call.Stack, want.call.Stack = slices.Concat(low, s.call.Stack), slices.Concat(low, want.call.Stack) // what lies below it stays
	isResult(t, what+", with more below it", steps(t, x.Program, s), result{scene: want})
}

// comes does a step, which comes to an effect, with a stack behind it, and the call at next.
func comes(t *testing.T, instr, in, out string, effect api.Effect) {
	t.Helper()
	x, s := doing(t, instr, in)
	want := s.calledWith(out)
	want.call.At = x.at(0, "next")
	isResult(t, instr+" of "+in, steps(t, x.Program, s), result{scene: want, effect: effect})
}

// stays does a step, which comes to an effect, and leaves all as it was.
func stays(t *testing.T, instr, in string, effect api.Effect) {
	t.Helper()
	x, s := doing(t, instr, in)
	isResult(t, instr+" of "+in, steps(t, x.Program, s), result{scene: s, effect: effect})
}

// throws does a step by which one of the house's is thrown.
func throws(t *testing.T, instr, in, name string) {
	t.Helper()
	stays(t, instr, in, api.Effect{Kind: api.EThrow, Name: name})
}

// stuck does a step of values for which the frame is not right: it answers ErrStack.
func stuck(t *testing.T, instr, right, wrong string) {
	t.Helper()
	x, s := doing(t, instr, right)
	isResult(t, instr+" of "+wrong, steps(t, x.Program, s.calledWith(wrong)), result{e: api.ErrStack})
}
