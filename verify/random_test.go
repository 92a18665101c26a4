package verify_test

import (
	"math/rand"
	"slices"
	"strings"
	"testing"

	"larch/api"
	"larch/class"
	"larch/code"
	"larch/kind"
	"larch/shape"
	"larch/verify"
)

// Methods that are made at random, most of them sound.

// pick answers one of a list.
func pick[T any](r *rand.Rand, l []T) T { return l[r.Intn(len(l))] }

// manyConstants is a class with constants of all kinds, and a method's texts.
func manyConstants() api.Class {
	c := api.Class{Name: "b", Super: "a", Pool: []api.Entry{{}}}
	for _, s := range []string{"b", "a", "c", "Object", "other", "Throwable", "Bad", "Worse", "[I", "[J", "[B", "[La;", "[Lb;", "[[I", "[[La;"} {
		put(&c, "class "+s)
	}
	for _, s := range []string{"int 5", "long 5", "int -1"} {
		put(&c, s)
	}
	for _, s := range []string{"I", "J", "La;", "Lc;", "[La;", "[B", "LBad;"} {
		put(&c, "field a m "+s)
	}
	for _, s := range []string{"()V", "()J", "(I)I", "(J)La;", "(IJ)[I", "(La;[I)V", "([La;Lb;)Lb;", "(LObject;JI)J"} {
		put(&c, "method a m "+s)
	}
	putTexts(&c, "Code", "StackMapTable", "m")
	return c
}

// growing is a method that is made, instruction by instruction.
type growing struct {
	r      *rand.Rand
	list   []api.Class
	class  api.Class
	method api.Method
	back   api.Type
	instrs []api.Instr
	ahead  []api.Frame  // of each instruction
	behind []api.Frame  // of each instruction
	maps   map[int]bool // by numbers of instructions
	falls  bool
	now    api.Frame
}

// opsOf answers the Ops of which something holds.
func opsOf(keep func(op int) bool) []int {
	var l []int
	for _, s := range opNames() {
		if op := opOf(s); keep(op) {
			l = append(l, op)
		}
	}
	return l
}

func isBranch(op int) bool {
	return op >= 153 && op <= 167 || op == 170 || op == 171 || op == 198 || op == 199
}

// The Ops that neither branch nor end, those of them that take much, those that branch and fall, and those that branch and do not.
var (
	rareOps   = opsOf(func(op int) bool { return op >= 79 && op <= 84 || op >= 97 && op <= 131 || op >= 179 && op <= 184 })
	lineOps   = opsOf(func(op int) bool { return !isBranch(op) && code.Falls(api.Instr{Op: op}) })
	branchOps = opsOf(func(op int) bool { return isBranch(op) && code.Falls(api.Instr{Op: op}) })
	jumpOps   = opsOf(func(op int) bool { return isBranch(op) && !code.Falls(api.Instr{Op: op}) })
)

// operand makes an operand that an instruction may have.
func (g *growing) operand(op int) (int, int) {
	switch {
	case op == 16:
		return g.r.Intn(256) - 128, 0
	case op == 17:
		return g.r.Intn(65536) - 32768, 0
	case op == 132:
		return g.r.Intn(g.method.Code.Locals + 1), g.r.Intn(256) - 128
	case op >= 18 && op <= 20, op >= 178 && op <= 184, op == 187, op == 189, op == 192, op == 193:
		return g.r.Intn(len(g.class.Pool)), 0
	case op == 188:
		return pick(g.r, []int{8, 10, 11}), 0
	case sizeOf(api.Instr{Op: op}, 0) > 1:
		return g.r.Intn(g.method.Code.Locals + 1), 0
	}
	return 0, 0
}

// try does an instruction, if it may be done.
func (g *growing) try(op, a, b int) bool {
	i := api.Instr{Op: op, A: a, B: b}
	f, e := shape.Step(g.list, g.class, g.back, i, g.now, g.method.Code.Stack)
	if e != api.OK {
		return false
	}
	g.instrs = append(g.instrs, i)
	g.ahead = append(g.ahead, g.now)
	g.behind = append(g.behind, f)
	g.now, g.falls = f, code.Falls(i)
	return true
}

// line does one instruction of a list, if one of some that are tried may be done.
func (g *growing) line(l []int) bool {
	for range 40 {
		op := pick(g.r, l)
		a, b := g.operand(op)
		if g.try(op, a, b) {
			return true
		}
	}
	return false
}

// weaker answers types for which others may stand.
func (g *growing) weaker(l []api.Type, top bool) []api.Type {
	l = slices.Clone(l)
	for k, x := range l {
		switch {
		case g.r.Intn(3) > 0:
		case top:
			l[k] = of(api.KTop)
		case x.Kind == api.KNull:
			l[k] = ref(pick(g.r, []string{"a", "[I", "Bad"}))
		case x.Kind == api.KRef:
			if up := kind.Above(g.list, x.Name); len(up) > 0 {
				l[k] = ref(pick(g.r, up))
			}
		}
	}
	return l
}

// mapHere puts a map ahead of the next instruction: that of a frame, or of a weaker one.
func (g *growing) mapHere(f api.Frame) {
	if g.r.Intn(2) == 0 {
		f = api.Frame{Locals: g.weaker(f.Locals, true), Stack: g.weaker(f.Stack, false)}
	}
	g.maps[len(g.instrs)] = true
	g.now, g.falls = f, true
}

// finish ends what is there by an instruction that does not fall.
func (g *growing) finish() {
	switch {
	case g.r.Intn(3) == 0 && g.try(191, 0, 0):
	case g.back.Kind == api.KTop && g.try(177, 0, 0):
	case g.back.Kind == api.KInt && (g.try(172, 0, 0) || g.try(3, 0, 0) && g.try(172, 0, 0)):
	case g.back.Kind == api.KLong && (g.try(173, 0, 0) || g.try(9, 0, 0) && g.try(173, 0, 0)):
	case g.back.Kind == api.KRef && (g.try(176, 0, 0) || g.try(1, 0, 0) && g.try(176, 0, 0)):
	}
	for g.falls { // there was no room for an answer
		if !g.try(87, 0, 0) && !g.try(88, 0, 0) {
			g.try(1, 0, 0)
		}
		g.try(191, 0, 0)
	}
}

// block makes some instructions, and ends.
func (g *growing) block(n int, branches bool) {
	for range n {
		switch {
		case g.r.Intn(3) == 0 && g.line(rareOps):
		case !branches || g.r.Intn(5) > 0:
			g.line(lineOps)
		case g.r.Intn(3) > 0:
			g.line(branchOps)
		case g.line(jumpOps):
			g.mapHere(pick(g.r, append(slices.Clone(g.behind[len(g.behind)-1:]), g.ahead...)))
		}
		if branches && g.r.Intn(8) == 0 {
			g.mapHere(g.now)
		}
	}
	g.finish()
}

// common answers the locals for which those of some frames may stand.
func common(l []api.Frame) []api.Type {
	locals := slices.Clone(l[0].Locals)
	for _, f := range l {
		for k, x := range f.Locals {
			if x != locals[k] {
				locals[k] = of(api.KTop)
			}
		}
	}
	return locals
}

// region is a handler whose places are numbers of instructions.
type region struct{ from, to, at, class int }

// handle puts a handler over some of the instructions, and makes the one that it begins with.
func (g *growing) handle() region {
	from := g.r.Intn(len(g.instrs))
	to := from + 1 + g.r.Intn(len(g.instrs)-from)
	name := pick(g.r, []string{"", "Throwable", "Bad", "Worse"})
	h := region{from: from, to: to, at: len(g.instrs)}
	caught := "Throwable"
	if name != "" {
		h.class, caught = put(&g.class, "class "+name), name
	}
	locals := common(g.ahead[from:to])
	if g.r.Intn(2) == 0 {
		locals = g.weaker(locals, true)
	}
	g.maps[h.at] = true
	g.now, g.falls = api.Frame{Locals: locals, Stack: g.weaker([]api.Type{ref(caught)}, false)}, true
	g.block(g.r.Intn(4), false)
	return h
}

// targets answers the numbers of the instructions that may be led to from one.
func (g *growing) targets(from int) []int {
	var l []int
	for to, f := range g.ahead {
		if shape.May(g.list, g.behind[from], f) {
			l = append(l, to)
		}
	}
	return l
}

// aim chooses where branches lead to, as numbers of instructions; it holds if there is such a place for each.
func (g *growing) aim() bool {
	for n := range g.instrs {
		i := &g.instrs[n]
		if !isBranch(i.Op) {
			continue
		}
		l := g.targets(n)
		if len(l) == 0 {
			return false
		}
		i.A = pick(g.r, l)
		if i.Op == 170 || i.Op == 171 {
			if i.Op == 170 {
				i.B = g.r.Intn(9) - 4
			}
			for k := range 1 + g.r.Intn(3) {
				i.Cases = append(i.Cases, api.Case{Key: i.B + k, To: pick(g.r, l)})
			}
		}
		for _, to := range code.Targets(*i) {
			g.maps[to] = true
		}
	}
	return true
}

// settle makes places of the numbers of instructions, and the code of them all.
func (g *growing) settle(regions []region) bool {
	places := make([]int, len(g.instrs)+1)
	for n, i := range g.instrs {
		places[n+1] = places[n] + sizeOf(i, places[n])
	}
	d := &g.method.Code
	for n := range g.instrs {
		i := &g.instrs[n]
		i.At = places[n]
		if isBranch(i.Op) {
			i.A = places[i.A]
			for k := range i.Cases {
				i.Cases[k].To = places[i.Cases[k].To]
			}
		}
		if g.maps[n] {
			d.Maps = append(d.Maps, api.Map{At: places[n], Locals: g.ahead[n].Locals, Stack: g.ahead[n].Stack})
		}
	}
	for _, h := range regions {
		d.Handlers = append(d.Handlers, api.Handler{From: places[h.from], To: places[h.to], At: places[h.at], Class: h.class})
	}
	b, e := code.Encode(g.instrs)
	d.Bytes = b
	return e == api.OK
}

var manyClass = manyConstants()

// grown makes a class of one sound method, with branches and handlers or without; where that does not come out, it answers false.
func grown(r *rand.Rand, branches bool) (api.Class, bool) {
	types := []string{"()V", "(IJLa;)V", "(Lc;[IJ)I", "(II)J", "([La;LObject;)Lb;", "(JJI)[I"}
	g := &growing{r: r, list: family(), class: class.Copy(manyClass), maps: map[int]bool{}, falls: true}
	g.method = api.Method{Access: pick(r, []int{0, 8, 32, 40}), Name: "m", Type: pick(r, types), Code: api.Code{Stack: 1 + r.Intn(8), Locals: 6 + r.Intn(3)}}
	_, g.back, _ = kind.Method(g.method.Type)
	first, e := shape.Begin(g.class, g.method)
	if e != api.OK {
		panic(g.method.Type)
	}
	g.now = first
	g.block(r.Intn(20), branches)
	var regions []region
	for branches && r.Intn(2) == 0 {
		regions = append(regions, g.handle())
	}
	if !g.aim() || !g.settle(regions) {
		return api.Class{}, false
	}
	c := g.class
	putTexts(&c, g.method.Type)
	for _, m := range g.method.Code.Maps {
		putTypes(&c, m.Locals...)
		putTypes(&c, m.Stack...)
	}
	c.Methods = []api.Method{g.method}
	return c, true
}

// soundOnes makes classes of one sound method, and hands them on.
func soundOnes(t *testing.T, seed int64, n int, branches bool, use func(r *rand.Rand, c api.Class)) {
	t.Helper()
	r := rand.New(rand.NewSource(seed))
	for n > 0 {
		c, ok := grown(r, branches)
		if !ok {
			continue
		}
		n--
		if at, e := verify.Method(family(), c, 0); e != api.OK {
			t.Fatalf("%s: refused at %d", told(c, 0), at)
		}
		use(r, c)
	}
}

// 12.1, 12.2: sound methods, with all instructions.
func TestRandomSound(t *testing.T) {
	t.Parallel()
	maps, handlers := 0, 0
	done := map[int]int{}
	soundOnes(t, 12, 4000, true, func(r *rand.Rand, c api.Class) {
		asks(t, family(), c, 0)
		maps += len(c.Methods[0].Code.Maps)
		handlers += len(c.Methods[0].Code.Handlers)
		l, _ := code.Decode(c.Methods[0].Code.Bytes)
		for _, i := range l {
			done[i.Op]++
		}
	})
	for _, s := range opNames() {
		if done[opOf(s)] == 0 {
			t.Errorf("%s was not met", s)
		}
	}
	if maps < 4000 || handlers < 2000 {
		t.Errorf("%d maps, %d handlers", maps, handlers)
	}
}

// bent answers n, or a number near by.
func bent(r *rand.Rand, n int) int { return n + r.Intn(5) - 2 }

// bendTypes changes a list of types somewhere.
func bendTypes(r *rand.Rand, l *[]api.Type) {
	all := types("I J T N a b c other Object Throwable Bad [I [La;")
	own := slices.Clone(*l)
	switch n := len(own); {
	case r.Intn(4) == 0:
		own = append(own, pick(r, all))
	case n > 0 && r.Intn(3) == 0:
		own = slices.Delete(own, n-1, n)
	case n > 0:
		own[r.Intn(n)] = pick(r, all)
	}
	*l = own
}

// bend changes something of a class's method.
func bend(r *rand.Rand, c *api.Class) {
	m := &c.Methods[0]
	d := &m.Code
	switch r.Intn(11) {
	case 0:
		d.Bytes[r.Intn(len(d.Bytes))] = byte(r.Intn(202))
	case 1:
		d.Stack = bent(r, d.Stack)
	case 2:
		d.Locals = bent(r, d.Locals)
	case 3:
		m.Access = pick(r, []int{0, 8, 32, 40})
	case 4:
		m.Type = pick(r, []string{"()V", "()I", "(I)V", "(J)J", "m"})
		putTexts(c, m.Type)
	case 5, 6:
		if n := len(d.Maps); n > 0 {
			k := r.Intn(n)
			d.Maps = slices.Delete(d.Maps, k, k+1)
		}
	case 7, 8:
		if n := len(d.Maps); n > 0 {
			x := &d.Maps[r.Intn(n)]
			switch r.Intn(5) {
			case 0:
				x.At = bent(r, x.At)
			case 1, 2:
				bendTypes(r, &x.Locals)
			default:
				bendTypes(r, &x.Stack)
			}
			putTypes(c, x.Locals...)
			putTypes(c, x.Stack...)
		}
	default:
		if n := len(d.Handlers); n > 0 {
			x := &d.Handlers[r.Intn(n)]
			*pick(r, []*int{&x.From, &x.To, &x.At, &x.Class}) += r.Intn(5) - 2
			if r.Intn(3) == 0 {
				x.Class = r.Intn(len(c.Pool))
			}
		}
	}
}

// 12.1, 12.2, 12.6: sound methods of which something was changed are held against the plain reading.
func TestRandomBent(t *testing.T) {
	t.Parallel()
	sound, ahead, walk, late := 0, 0, 0, 0
	soundOnes(t, 121, 1200, true, func(r *rand.Rand, c api.Class) {
		for range 6 {
			own := class.Copy(c)
			for range 1 + r.Intn(2) {
				bend(r, &own)
			}
			list := family()
			if r.Intn(8) == 0 {
				k := r.Intn(len(list))
				list = slices.Delete(list, k, k+1)
			}
			at, e := asks(t, list, own, 0)
			switch {
			case e == api.OK:
				sound++
			case class.Check(own) != api.OK:
				ahead++
			case at == 0:
				walk++
			default:
				late++
			}
		}
	})
	if sound < 700 || ahead < 200 || walk < 700 || late < 700 {
		t.Errorf("%d sound, %d not right, %d refused at 0, %d behind it", sound, ahead, walk, late)
	}
}

// 12.6: whatever the class: bytes of instructions one behind the other, with maps and handlers anywhere.
func TestRandomAnything(t *testing.T) {
	t.Parallel()
	r := rand.New(rand.NewSource(126))
	told := map[api.Errno]int{}
	all := opNames()
	for range 8000 {
		c := class.Copy(manyClass)
		var b []byte
		for range r.Intn(12) {
			op := opOf(pick(r, all))
			b = append(b, byte(op))
			for range sizeOf(api.Instr{Op: op}, len(b)-1) - 1 {
				b = append(b, byte(r.Intn(8)*r.Intn(2)))
			}
		}
		d := api.Code{Stack: r.Intn(6), Locals: r.Intn(6), Bytes: append(b, 0xb1)}
		for range r.Intn(3) {
			d.Maps = append(d.Maps, api.Map{At: len(d.Maps)*3 + r.Intn(3), Locals: slices.Repeat(types("T"), d.Locals), Stack: types(strings.Repeat("Throwable ", r.Intn(2)))})
		}
		for range r.Intn(3) / 2 {
			d.Handlers = append(d.Handlers, api.Handler{From: r.Intn(4), To: r.Intn(9), At: r.Intn(9), Class: r.Intn(3) * r.Intn(20)})
		}
		putTexts(&c, "()V")
		c.Methods = []api.Method{{Access: pick(r, []int{0, 8}), Name: "m", Type: "()V", Code: d}}
		k := r.Intn(3) / 2
		_, e := asks(t, family(), c, k)
		told[e]++
	}
	if len(told) != 3 || told[api.OK] < 80 || told[api.ErrVerify] < 2000 || told[api.ErrNone] < 1000 {
		t.Errorf("what was told: %v", told)
	}
}
