package step_test

import (
	"math/rand"
	"slices"
	"strings"
	"testing"

	"larch/api"
	"larch/class"
	"larch/code"
	"larch/kind"
	"larch/link"
	"larch/shape"
)

// Methods that are made at random, all of them sound, for b in a program of the family.

// pick answers one of a list.
func pick[T any](r *rand.Rand, l []T) T { return l[r.Intn(len(l))] }

// The constants that random methods name.
var (
	someStatics = []string{"field a s I", "field b t J", "field b u La;", "field other v I", "field c s I"}
	someFields  = []string{"field a x I", "field a y J", "field b r La;", "field a l [I", "field b x J", "field c w Lb;", "field c z I", "field other k I", "field Worse code I"}
	someCalls   = []string{"method a get ()I", "method b get ()I", "method c get ()I", "method a add (IJLa;[I)J", "method c set (I)V", "method b run ()V", "method other get ()I"}
	staticCalls = []string{"method a two (IJLa;)V", "method b none ()J", "method sys out (I)V", "method sys in ()I", "method sys spawn (LObject;)V", "method sys wait (LObject;)V", "method sys notify (LObject;)V", "method sys yield ()V"}
	someClasses = []string{"class a", "class b", "class c", "class Object", "class other", "class Throwable", "class Bad", "class Worse", "class Null", "class Main"}
	someArrays  = []string{"class [I", "class [J", "class [B", "class [La;", "class [Lb;", "class [LObject;", "class [[I", "class [[La;"}
	someInts    = []string{"int 5", "int -1", "int 2147483647", "int -2147483648"}
	someLongs   = []string{"long 5", "long -9223372036854775808", "long 4294967296"}
)

// manyConstants is b, with all these constants, and a method's texts.
func manyConstants() api.Class {
	c, _ := classOf(family()[2][0], family()[2][1])
	for _, s := range slices.Concat(someStatics, someFields, someCalls, staticCalls, someClasses, someArrays, someInts, someLongs) {
		put(&c, s)
	}
	putTexts(&c, "m")
	return c
}

// growing is a method that is made, instruction by instruction.
type growing struct {
	r      *rand.Rand
	list   []api.Class
	class  api.Class
	method api.Method
	back   api.Type
	instrs []api.Instr
	ahead  []api.Frame  // of each instruction
	behind []api.Frame  // of each instruction
	maps   map[int]bool // by numbers of instructions
	falls  bool
	now    api.Frame
}

// opNames are the names of all instructions.
func opNames() []string {
	var l []string
	for _, s := range strings.Fields(names) {
		l = append(l, s[strings.Index(s, "=")+1:])
	}
	return l
}

// opsOf answers the Ops of which something holds.
func opsOf(keep func(op int) bool) []int {
	var l []int
	for _, s := range opNames() {
		if op := opOf(s); keep(op) {
			l = append(l, op)
		}
	}
	return l
}

func isBranch(op int) bool {
	return op >= 153 && op <= 167 || op == 170 || op == 171 || op == 198 || op == 199
}

// The Ops that neither branch nor end, those of them that take much, those that branch and fall, and those that branch and do not.
var (
	rareOps = opsOf(func(op int) bool {
		return op >= 46 && op <= 51 || op >= 79 && op <= 84 || op >= 97 && op <= 131 || op >= 179 && op <= 184
	})
	lineOps   = opsOf(func(op int) bool { return !isBranch(op) && code.Falls(api.Instr{Op: op}) })
	branchOps = opsOf(func(op int) bool { return isBranch(op) && code.Falls(api.Instr{Op: op}) })
	jumpOps   = opsOf(func(op int) bool { return isBranch(op) && !code.Falls(api.Instr{Op: op}) })
)

// named are the constants that an instruction may name.
func named(op int) []string {
	switch op {
	case 18, 19:
		return someInts
	case 20:
		return someLongs
	case 178, 179:
		return someStatics
	case 180, 181:
		return someFields
	case 182, 183:
		return someCalls
	case 184:
		return staticCalls
	case 187:
		return someClasses
	case 189, 192, 193:
		return slices.Concat(someClasses, someArrays)
	}
	return nil
}

// operand makes an operand that an instruction may have.
func (g *growing) operand(op int) (int, int) {
	if l := named(op); l != nil {
		return put(&g.class, pick(g.r, l)), 0
	}
	switch {
	case op == 16:
		return g.r.Intn(256) - 128, 0
	case op == 17:
		return pick(g.r, []int{g.r.Intn(65536) - 32768, g.r.Intn(4)}), 0
	case op == 132:
		return g.r.Intn(g.method.Code.Locals + 1), g.r.Intn(256) - 128
	case op == 188:
		return pick(g.r, []int{8, 10, 11}), 0
	case sizeOf(op, 0, 0) > 1:
		return g.r.Intn(g.method.Code.Locals + 1), 0
	}
	return 0, 0
}

// try does an instruction, if it may be done.
func (g *growing) try(op, a, b int) bool {
	i := api.Instr{Op: op, A: a, B: b}
	f, e := shape.Step(g.list, g.class, g.back, i, g.now, g.method.Code.Stack)
	if e != api.OK {
		return false
	}
	g.instrs = append(g.instrs, i)
	g.ahead = append(g.ahead, g.now)
	g.behind = append(g.behind, f)
	g.now, g.falls = f, code.Falls(i)
	return true
}

// line does one instruction of a list, if one of some that are tried may be done.
func (g *growing) line(l []int) bool {
	for range 40 {
		op := pick(g.r, l)
		a, b := g.operand(op)
		if g.try(op, a, b) {
			return true
		}
	}
	return false
}

// weaker answers types for which others may stand.
func (g *growing) weaker(l []api.Type, top bool) []api.Type {
	l = slices.Clone(l)
	for k, x := range l {
		switch {
		case g.r.Intn(3) > 0:
		case top:
			l[k] = of(api.KTop)
		case x.Kind == api.KNull:
			l[k] = classType(pick(g.r, []string{"a", "b", "[I", "[La;", "Bad"}))
		case x.Kind == api.KRef:
			if up := kind.Above(g.list, x.Name); len(up) > 0 {
				l[k] = classType(pick(g.r, up))
			}
		}
	}
	return l
}

// mapHere puts a map ahead of the next instruction: that of a frame, or of a weaker one.
func (g *growing) mapHere(f api.Frame) {
	if g.r.Intn(2) == 0 {
		f = api.Frame{Locals: g.weaker(f.Locals, true), Stack: g.weaker(f.Stack, false)}
	}
	g.maps[len(g.instrs)] = true
	g.now, g.falls = f, true
}

// finish ends what is there by an instruction that does not fall.
func (g *growing) finish() {
	switch {
	case g.r.Intn(3) == 0 && g.try(191, 0, 0):
	case g.back.Kind == api.KTop && g.try(177, 0, 0):
	case g.back.Kind == api.KInt && (g.try(172, 0, 0) || g.try(3, 0, 0) && g.try(172, 0, 0)):
	case g.back.Kind == api.KLong && (g.try(173, 0, 0) || g.try(9, 0, 0) && g.try(173, 0, 0)):
	case g.back.Kind == api.KRef && (g.try(176, 0, 0) || g.try(1, 0, 0) && g.try(176, 0, 0)):
	}
	for g.falls { // there was no room for an answer
		if !g.try(87, 0, 0) && !g.try(88, 0, 0) {
			g.try(1, 0, 0)
		}
		g.try(191, 0, 0)
	}
}

// array gets an array from a local, and goes to one of its members.
func (g *growing) array() {
	if !g.try(25, g.r.Intn(g.method.Code.Locals), 0) {
		return
	}
	array := g.now.Stack[len(g.now.Stack)-1]
	elem, e := kind.Elem(array)
	if e != api.OK || !g.line([]int{3, 3, 4, 17}) {
		return
	}
	if g.r.Intn(3) == 0 {
		g.line([]int{46, 47, 50, 51})
		return
	}
	switch elem.Kind {
	case api.KInt:
		_ = g.line([]int{3, 17, 21}) && g.line([]int{79, 84})
	case api.KLong:
		_ = g.line([]int{9, 10, 22}) && g.line([]int{80})
	default:
		_ = g.line([]int{1, 25, 25, 187}) && g.line([]int{83})
	}
}

// block makes some instructions, and ends.
func (g *growing) block(n int, branches bool) {
	for range n {
		if g.r.Intn(6) == 0 {
			g.array()
		}
		switch {
		case g.r.Intn(3) == 0 && g.line(rareOps):
		case !branches || g.r.Intn(5) > 0:
			g.line(lineOps)
		case g.r.Intn(3) > 0:
			g.line(branchOps)
		case g.line(jumpOps):
			g.mapHere(pick(g.r, append(slices.Clone(g.behind[len(g.behind)-1:]), g.ahead...)))
		}
		if branches && g.r.Intn(8) == 0 {
			g.mapHere(g.now)
		}
	}
	g.finish()
}

// common answers the locals for which those of some frames may stand.
func common(l []api.Frame) []api.Type {
	locals := slices.Clone(l[0].Locals)
	for _, f := range l {
		for k, x := range f.Locals {
			if x != locals[k] {
				locals[k] = of(api.KTop)
			}
		}
	}
	return locals
}

// region is a handler whose places are numbers of instructions.
type region struct{ from, to, at, class int }

// handle puts a handler over some of the instructions, and makes those that it begins with.
func (g *growing) handle() region {
	from := g.r.Intn(len(g.instrs))
	to := from + 1 + g.r.Intn(len(g.instrs)-from)
	name := pick(g.r, []string{"", "Throwable", "Bad", "Worse", "Null"})
	h := region{from: from, to: to, at: len(g.instrs)}
	caught := "Throwable"
	if name != "" {
		h.class, caught = put(&g.class, "class "+name), name
	}
	locals := common(g.ahead[from:to])
	if g.r.Intn(2) == 0 {
		locals = g.weaker(locals, true)
	}
	g.maps[h.at] = true
	g.now, g.falls = api.Frame{Locals: locals, Stack: g.weaker([]api.Type{classType(caught)}, false)}, true
	g.block(g.r.Intn(4), false)
	return h
}

// targets answers the numbers of the instructions that may be led to from one.
func (g *growing) targets(from int) []int {
	var l []int
	for to, f := range g.ahead {
		if shape.May(g.list, g.behind[from], f) {
			l = append(l, to)
		}
	}
	return l
}

// aim chooses where branches lead to, as numbers of instructions; it holds if there is such a place for each.
func (g *growing) aim() bool {
	for n := range g.instrs {
		i := &g.instrs[n]
		if !isBranch(i.Op) {
			continue
		}
		l := g.targets(n)
		if len(l) == 0 {
			return false
		}
		i.A = pick(g.r, l)
		if i.Op == 170 || i.Op == 171 {
			if i.Op == 170 {
				i.B = g.r.Intn(9) - 4
			}
			for k := range 1 + g.r.Intn(3) {
				i.Cases = append(i.Cases, api.Case{Key: i.B + k, To: pick(g.r, l)})
			}
		}
		for _, to := range code.Targets(*i) {
			g.maps[to] = true
		}
	}
	return true
}

// settle makes places of the numbers of instructions, and the code of them all.
func (g *growing) settle(regions []region) bool {
	places := make([]int, len(g.instrs)+1)
	for n, i := range g.instrs {
		places[n+1] = places[n] + sizeOf(i.Op, len(i.Cases), places[n])
	}
	d := &g.method.Code
	for n := range g.instrs {
		i := &g.instrs[n]
		i.At = places[n]
		if isBranch(i.Op) {
			i.A = places[i.A]
			for k := range i.Cases {
				i.Cases[k].To = places[i.Cases[k].To]
			}
		}
		if g.maps[n] {
			d.Maps = append(d.Maps, api.Map{At: places[n], Locals: g.ahead[n].Locals, Stack: g.ahead[n].Stack})
		}
	}
	for _, h := range regions {
		d.Handlers = append(d.Handlers, api.Handler{From: places[h.from], To: places[h.to], At: places[h.at], Class: h.class})
	}
	b, e := code.Encode(g.instrs)
	d.Bytes = b
	return e == api.OK
}

// manyClass is b, as random methods are put into it; manyClasses are all classes with it.
var (
	manyClass   = manyConstants()
	manyClasses = append(link.House(), listOf(manyClass)...)
)

// grown makes b with one sound method, with branches and handlers; where that does not come out, it answers false.
func grown(r *rand.Rand) (api.Class, bool) {
	types := []string{"()V", "(IJLa;)V", "(Lc;[IJ)I", "(II)J", "([La;LObject;)Lb;", "(JJI)[I", "([B[J)V", "(Lc;Lother;I)LObject;", "(LBad;I)V", "([LObject;[[I)[I"}
	g := &growing{r: r, list: manyClasses, class: class.Copy(manyClass), maps: map[int]bool{}, falls: true}
	g.method = api.Method{Access: pick(r, []int{0, 8, 32, 40}), Name: "m", Type: pick(r, types), Code: api.Code{Stack: 2 + r.Intn(8), Locals: 6 + r.Intn(3)}}
	_, g.back, _ = kind.Method(g.method.Type)
	first, e := shape.Begin(g.class, g.method)
	if e != api.OK {
		panic(g.method.Type)
	}
	g.now = first
	g.block(r.Intn(24), true)
	var regions []region
	for r.Intn(2) == 0 {
		regions = append(regions, g.handle())
	}
	if !g.aim() || !g.settle(regions) {
		return api.Class{}, false
	}
	c := g.class
	putTexts(&c, g.method.Type)
	for _, m := range g.method.Code.Maps {
		for _, x := range slices.Concat(m.Locals, m.Stack) {
			if x.Kind == api.KRef {
				put(&c, "class "+x.Name)
			}
		}
	}
	c.Methods = []api.Method{g.method}
	return c, true
}

// soundOnes makes programs with a sound method of b, and hands them on.
func soundOnes(t *testing.T, seed int64, n int, use func(r *rand.Rand, p *link.Program)) {
	t.Helper()
	r := rand.New(rand.NewSource(seed))
	for n > 0 {
		c, ok := grown(r)
		if !ok {
			continue
		}
		n--
		p, at, e := link.Make(listOf(c))
		if e != api.OK {
			t.Fatalf("refused at %d: %v", at, c.Methods)
		}
		use(r, p)
	}
}
