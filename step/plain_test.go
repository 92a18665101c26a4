package step_test

import (
	"math/big"
	"slices"
	"strings"
	"sync"

	"larch/api"
	"larch/code"
	"larch/kind"
	"larch/link"
)

// A plain reading of the chapter, sentence by sentence, that everything is held against.

// stuck is what a plain step panics with if it comes to ErrStack; with an effect it panics if the call stays as it was.
type stuckStep struct{}

// plainly is a plain step that is done, to a scene of its own.
type plainly struct {
	scene
	p   *link.Program
	all []api.Class
	i   api.Instr
}

// plainInstr answers the plain form of the instruction where a call stands, and where the next one begins.
func plainInstr(p *link.Program, c api.Call) (api.Instr, int, api.Errno) {
	m, e := p.Method(c.Class, c.Method)
	if e != api.OK {
		return api.Instr{}, 0, api.ErrNone
	}
	l, _ := code.Decode(m.Code.Bytes)
	for k, i := range l {
		if i.At == c.At && k+1 < len(l) {
			return code.Plain(i), l[k+1].At, api.OK
		}
		if i.At == c.At {
			return code.Plain(i), len(m.Code.Bytes), api.OK
		}
	}
	return api.Instr{}, 0, api.ErrCode
}

// classesOf keeps the classes of programs: asking for them takes long.
var classesOf sync.Map

// allOf answers all classes of a program.
func allOf(p *link.Program) []api.Class {
	l, ok := classesOf.Load(p)
	if !ok {
		l, _ = classesOf.LoadOrStore(p, p.All())
	}
	return l.([]api.Class)
}

// plainRight holds if a heap is right.
func plainRight(l []api.Object) bool {
	words := 0
	for _, x := range l {
		words += len(x.Words)
		if x.Type == "" && len(x.Words) > 0 {
			return false
		}
	}
	n := len(l)
	return n <= 4096 && words <= 65536 && (n == 0 || l[n-1].Type != "")
}

// plainStep answers what Step answers.
func plainStep(p *link.Program, s scene) (r result) {
	i, next, e := plainInstr(p, s.call)
	if e != api.OK {
		return result{e: e}
	}
	if !plainRight(s.heap) {
		return result{e: api.ErrStack}
	}
	defer func() {
		switch x := recover().(type) {
		case nil:
		case stuckStep:
			r = result{e: api.ErrStack}
		case api.Effect:
			r = result{scene: s, effect: x}
		default:
			panic(x)
		}
	}()
	w := &plainly{s.copied(), p, allOf(p), i}
	w.call.At = next
	effect := w.do()
	return result{scene: w.scene, effect: effect}
}

func (w *plainly) need(ok bool) {
	if !ok {
		panic(stuckStep{})
	}
}

func throwing(name string) { panic(api.Effect{Kind: api.EThrow, Name: name}) }

// popAny takes the top away.
func (w *plainly) popAny() api.Value {
	n := len(w.call.Stack)
	w.need(n > 0)
	v := w.call.Stack[n-1]
	w.call.Stack = w.call.Stack[:n-1]
	return v
}

func (w *plainly) popOf(kind int) int {
	v := w.popAny()
	w.need(v.Kind == kind)
	return v.N
}

func (w *plainly) popI() int { return w.popOf(api.KInt) }

// popInt takes a number that arithmetic is done to: it must be an int.
func (w *plainly) popInt() int {
	n := w.popI()
	w.need(n >= leastInt && n <= mostInt)
	return n
}

func (w *plainly) popJ() int { return w.popOf(api.KLong) }
func (w *plainly) popA() int { return w.popOf(api.KRef) }

func (w *plainly) pushAny(l ...api.Value) { w.call.Stack = slices.Concat(w.call.Stack, l) }
func (w *plainly) pushI(n int)            { w.pushAny(api.Value{Kind: api.KInt, N: n}) }
func (w *plainly) pushJ(n int)            { w.pushAny(api.Value{Kind: api.KLong, N: n}) }
func (w *plainly) pushA(n int)            { w.pushAny(api.Value{Kind: api.KRef, N: n}) }

// object answers the object of a number that is not 0: with 0 Null is thrown.
func (w *plainly) object(n int) *api.Object {
	if n == 0 {
		throwing("Null")
	}
	w.need(n > 0 && n <= len(w.heap) && w.heap[n-1].Type != "")
	return &w.heap[n-1]
}

// word answers a word of an array, of a kind.
func (w *plainly) word(n, k, kind int) *api.Value {
	x := w.object(n)
	if k < 0 || k > len(x.Words)-1 {
		throwing("Index")
	}
	w.need(x.Words[k].Kind == kind)
	return &x.Words[k]
}

// local answers the local A, of a kind.
func (w *plainly) local(kind int) *api.Value {
	w.need(w.i.A >= 0 && w.i.A < len(w.call.Locals) && w.call.Locals[w.i.A].Kind == kind)
	return &w.call.Locals[w.i.A]
}

// setLocal sets the local A, as 17.2 says.
func (w *plainly) setLocal(v api.Value) {
	k, l := w.i.A, w.call.Locals
	w.need(k >= 0 && k < len(l))
	w.need(v.Kind != api.KLong || k+1 < len(l))
	l[k] = v
	if v.Kind == api.KLong {
		l[k+1] = api.Value{}
	}
	if k > 0 && l[k-1].Kind == api.KLong {
		l[k-1] = api.Value{}
	}
}

// constant answers what A means.
func (w *plainly) constant() api.Const {
	x, e := w.p.Const(w.call.Class, w.i.A)
	w.need(e == api.OK)
	return x
}

// do does the instruction.
func (w *plainly) do() api.Effect {
	switch op := w.i.Op; {
	case op == 0:
	case op == 1:
		w.pushA(0)
	case op == 17:
		w.pushI(w.i.A)
	case op == 9:
		w.pushJ(w.i.A)
	case op == 18:
		w.pushI(w.constant().N)
	case op == 20:
		w.pushJ(w.constant().N)
	case op == 21:
		w.pushAny(*w.local(api.KInt))
	case op == 22:
		w.pushAny(*w.local(api.KLong))
	case op == 25:
		w.pushAny(*w.local(api.KRef))
	case op == 54:
		w.setLocal(api.Value{Kind: api.KInt, N: w.popI()})
	case op == 55:
		w.setLocal(api.Value{Kind: api.KLong, N: w.popJ()})
	case op == 58:
		w.setLocal(api.Value{Kind: api.KRef, N: w.popA()})
	case op == 132:
		n := w.local(api.KInt).N
		w.need(n >= leastInt && n <= mostInt)
		w.setLocal(api.Value{Kind: api.KInt, N: around(big.NewInt(int64(n+w.i.B)), 32)})
	case op >= 46 && op <= 51:
		w.fetch()
	case op >= 79 && op <= 84:
		w.put()
	case op >= 87 && op <= 95:
		w.shuffle()
	case op >= 96 && op <= 148:
		w.sum()
	case op >= 153 && op <= 171, op >= 198:
		w.branch()
	case op >= 172 && op <= 177:
		return w.back()
	case op >= 178 && op <= 181:
		w.member()
	case op >= 182 && op <= 184:
		return w.invoke()
	default:
		return w.thing()
	}
	return api.Effect{}
}

func (w *plainly) fetch() {
	k := w.popI()
	n := w.popA()
	w.pushAny(*w.word(n, k, map[int]int{46: api.KInt, 47: api.KLong, 50: api.KRef, 51: api.KInt}[w.i.Op]))
}

func (w *plainly) put() {
	want := map[int]int{79: api.KInt, 80: api.KLong, 83: api.KRef, 84: api.KInt}[w.i.Op]
	v := w.popOf(want)
	w.need(w.i.Op != 84 || v >= leastInt && v <= mostInt)
	k := w.popI()
	n := w.popA()
	word := w.word(n, k, want)
	if w.i.Op == 84 {
		v = around(big.NewInt(int64(v)), 8)
	}
	if w.i.Op == 83 && v != 0 {
		elem := w.object(n).Type[1:] // a descriptor
		w.need(elem[0] == '[' || elem[0] == 'L')
		if !plainStands(w.all, w.object(v).Type, strings.TrimSuffix(strings.TrimPrefix(elem, "L"), ";")) {
			throwing("Store")
		}
	}
	word.N = v
}

// single takes the top away, which is no long.
func (w *plainly) single() api.Value {
	v := w.popAny()
	w.need(v.Kind != api.KLong)
	return v
}

func (w *plainly) shuffle() {
	b := w.popAny()
	long := b.Kind == api.KLong
	switch w.i.Op {
	case 87:
		w.need(!long)
	case 88:
		if !long {
			w.single()
		}
	case 89:
		w.need(!long)
		w.pushAny(b, b)
	case 90:
		a := w.single()
		w.need(!long)
		w.pushAny(b, a, b)
	case 92:
		if long {
			w.pushAny(b, b)
		} else {
			a := w.single()
			w.pushAny(a, b, a, b)
		}
	case 95:
		a := w.single()
		w.need(!long)
		w.pushAny(b, a)
	}
}

// around answers the number with a sign of so many bits that a number is, gone round.
func around(n *big.Int, bits uint) int {
	size := new(big.Int).Lsh(big.NewInt(1), bits)
	n = new(big.Int).Mod(n, size)
	if n.Bit(int(bits)-1) == 1 {
		n.Sub(n, size)
	}
	return int(n.Int64())
}

// withoutSign answers a number of so many bits, read without a sign.
func withoutSign(n int, bits uint) *big.Int {
	return new(big.Int).Mod(big.NewInt(int64(n)), new(big.Int).Lsh(big.NewInt(1), bits))
}

// plainTwo answers what two numbers of so many bits come to: op is that of ints.
func plainTwo(op, a, b int, bits uint) int {
	x, y, z := big.NewInt(int64(a)), big.NewInt(int64(b)), new(big.Int)
	far := uint(withoutSign(b, 6).Int64()) % bits
	switch op {
	case 96:
		z.Add(x, y)
	case 100:
		z.Sub(x, y)
	case 104:
		z.Mul(x, y)
	case 108, 112:
		if b == 0 {
			throwing("Arithmetic")
		}
		if op == 108 {
			z.Quo(x, y)
		} else {
			z.Rem(x, y)
		}
	case 120:
		z.Lsh(x, far)
	case 122:
		z.Rsh(x, far)
	case 124:
		z.Rsh(withoutSign(a, bits), far)
	case 126:
		z.And(x, y)
	case 128:
		z.Or(x, y)
	case 130:
		z.Xor(x, y)
	}
	return around(z, bits)
}

func (w *plainly) sum() {
	switch op := w.i.Op; op {
	case 96, 100, 104, 108, 112, 120, 122, 124, 126, 128, 130:
		b := w.popInt()
		w.pushI(plainTwo(op, w.popInt(), b, 32))
	case 97, 101, 105, 109, 113, 127, 129, 131:
		b := w.popJ()
		w.pushJ(plainTwo(op-1, w.popJ(), b, 64))
	case 121, 123, 125:
		b := w.popI()
		w.pushJ(plainTwo(op-1, w.popJ(), b, 64))
	case 148:
		b := w.popJ()
		w.pushI(big.NewInt(int64(w.popJ())).Cmp(big.NewInt(int64(b))))
	case 116:
		w.pushI(around(big.NewInt(-int64(w.popInt())), 32))
	case 117:
		w.pushJ(around(new(big.Int).Neg(big.NewInt(int64(w.popJ()))), 64))
	case 133:
		w.pushJ(w.popInt())
	case 136:
		w.pushI(around(big.NewInt(int64(w.popJ())), 32))
	case 145:
		w.pushI(around(big.NewInt(int64(w.popInt())), 8))
	case 146:
		w.pushI(int(withoutSign(w.popInt(), 16).Int64()))
	case 147:
		w.pushI(around(big.NewInt(int64(w.popInt())), 16))
	default:
		w.need(false)
	}
}

func (w *plainly) branch() {
	op, to := w.i.Op, w.i.A
	taken := true
	condition := func(a, b int, k int) bool {
		return []bool{a == b, a != b, a < b, a >= b, a > b, a <= b}[k]
	}
	switch {
	case op <= 158:
		taken = condition(w.popInt(), 0, op-153)
	case op <= 164:
		b := w.popInt()
		taken = condition(w.popInt(), b, op-159)
	case op <= 166:
		b := w.popA()
		taken = condition(w.popA(), b, op-165)
	case op == 170, op == 171:
		n := w.popI()
		for _, x := range w.i.Cases {
			if x.Key == n {
				to = x.To
			}
		}
	case op >= 198:
		taken = condition(w.popA(), 0, op-198)
	}
	if taken {
		w.call.At = to
	}
}

func (w *plainly) back() api.Effect {
	want, ok := map[int]int{172: api.KInt, 173: api.KLong, 176: api.KRef}[w.i.Op]
	v := api.Value{}
	if ok {
		v = api.Value{Kind: want, N: w.popOf(want)}
	}
	panic(api.Effect{Kind: api.EBack, Value: v})
}

// plainUp are the classes from one on, up to Object.
func plainUp(all []api.Class, name string) []api.Class {
	var l []api.Class
	for name != "" {
		k := slices.IndexFunc(all, func(c api.Class) bool { return c.Name == name })
		if k < 0 {
			break
		}
		l = append(l, all[k])
		name = all[k].Super
	}
	return l
}

// plainSlot answers the place of a field that is found in a class: of a static one among all statics, of another one among those of
// an object.
func plainSlot(all []api.Class, class, name string) int {
	for _, c := range plainUp(all, class) {
		for k, f := range c.Fields {
			if f.Name != name {
				continue
			}
			n := 0
			for _, g := range c.Fields[:k] {
				if g.Access == f.Access {
					n++
				}
			}
			ahead := plainUp(all, c.Super)
			if f.Access == api.AStatic {
				ahead = all[:slices.IndexFunc(all, func(d api.Class) bool { return d.Name == c.Name })]
			}
			for _, d := range ahead {
				for _, g := range d.Fields {
					if g.Access == f.Access {
						n++
					}
				}
			}
			return n
		}
	}
	return -1
}

func (w *plainly) member() {
	c := w.constant()
	want := map[byte]int{'I': api.KInt, 'J': api.KLong, 'L': api.KRef, '[': api.KRef}[c.Type[0]]
	k := plainSlot(w.all, c.Class, c.Name)
	var v int
	if w.i.Op == 179 || w.i.Op == 181 {
		v = w.popOf(want)
	}
	l := w.statics
	if w.i.Op >= 180 {
		l = w.object(w.popA()).Words
	}
	w.need(k >= 0 && k < len(l))
	w.need(w.i.Op == 179 || l[k].Kind == want) // 15.2: a word is set to one of its kind
	if w.i.Op == 179 || w.i.Op == 181 {
		l[k] = api.Value{Kind: want, N: v}
		return
	}
	w.pushAny(l[k])
}

func (w *plainly) invoke() api.Effect {
	c := w.constant()
	types, _, _ := kind.Method(c.Type)
	args := make([]api.Value, len(types))
	for k := len(args) - 1; k >= 0; k-- {
		args[k] = api.Value{Kind: types[k].Kind, N: w.popOf(types[k].Kind)}
	}
	class := c.Class
	if w.i.Op != 184 {
		n := w.popA()
		x := w.object(n)
		args = append([]api.Value{{Kind: api.KRef, N: n}}, args...)
		if w.i.Op == 182 {
			class = x.Type
		}
		if class[0] == '[' {
			class = "Object"
		}
	}
	if class == "sys" {
		calls := []string{"", "out", "in", "spawn", "wait", "notify", "yield"}
		return api.Effect{Kind: api.ESys, Method: slices.Index(calls, c.Name), Args: args}
	}
	for _, d := range plainUp(w.all, class) {
		for k, m := range d.Methods {
			if m.Name == c.Name && m.Type == c.Type {
				at := slices.IndexFunc(w.all, func(e api.Class) bool { return e.Name == d.Name })
				return api.Effect{Kind: api.ECall, Class: at, Method: k, Args: args}
			}
		}
	}
	panic(stuckStep{})
}

// plainClass holds if x is the class y, or below it: both are names.
func plainClass(all []api.Class, x, y string) bool {
	return x == y || slices.ContainsFunc(plainUp(all, x), func(c api.Class) bool { return c.Name == y })
}

// plainStands holds if the KRef x may stand for the KRef y.
func plainStands(all []api.Class, x, y string) bool {
	switch {
	case x == y || y == "Object":
		return true
	case x[:1] != "[" && y[:1] != "[":
		return plainClass(all, x, y)
	case x[:1] != "[" || y[:1] != "[":
		return false
	}
	elem := func(s string) string {
		if s[1] == 'L' {
			return strings.TrimSuffix(s[2:], ";")
		}
		return strings.TrimLeft(s[1:], "IJB") // of numbers: none
	}
	return elem(x) != "" && elem(y) != "" && plainStands(all, elem(x), elem(y))
}

// born puts a new object into the least free number.
func (w *plainly) born(x api.Object) {
	n, words := 0, len(x.Words)
	for n < len(w.heap) && w.heap[n].Type != "" {
		n++
	}
	for _, y := range w.heap {
		words += len(y.Words)
	}
	if n == 4096 || words > 65536 {
		panic(api.Effect{Kind: api.EFull})
	}
	if n == len(w.heap) {
		w.heap = append(w.heap, api.Object{})
	}
	w.heap[n] = x
	w.pushA(n + 1)
}

// plainZero is the zero of a descriptor.
func plainZero(desc string) api.Value {
	return api.Value{Kind: map[byte]int{'I': api.KInt, 'B': api.KInt, 'J': api.KLong, 'L': api.KRef, '[': api.KRef}[desc[0]]}
}

// plainFields are the fields of a class, those of Object first.
func plainFields(all []api.Class, name string) []api.Field {
	var l []api.Field
	up := plainUp(all, name)
	for k := len(up) - 1; k >= 0; k-- {
		for _, f := range up[k].Fields {
			if f.Access != api.AStatic {
				l = append(l, f)
			}
		}
	}
	return l
}

// bornClass puts a new object of a class into the heap.
func (w *plainly) bornClass(name string) {
	x := api.Object{Type: name}
	for _, f := range plainFields(w.all, name) {
		x.Words = append(x.Words, plainZero(f.Type))
	}
	w.born(x)
}

// bornArray puts a new array of so many elements of a descriptor into the heap.
func (w *plainly) bornArray(elem string, n int) {
	switch {
	case n < 0:
		throwing("Negative")
	case n > 65536:
		panic(api.Effect{Kind: api.EFull})
	}
	w.born(api.Object{Type: "[" + elem, Words: slices.Repeat([]api.Value{plainZero(elem)}, n)})
}

// thing does what takes or makes an object as a whole.
func (w *plainly) thing() api.Effect {
	switch op := w.i.Op; op {
	case 187:
		w.bornClass(w.constant().Class)
	case 188:
		w.bornArray(map[int]string{8: "B", 10: "I", 11: "J"}[w.i.A], w.popI())
	case 189:
		elem := w.constant().Class
		if elem[0] != '[' {
			elem = "L" + elem + ";"
		}
		w.bornArray(elem, w.popI())
	case 190:
		w.pushI(len(w.object(w.popA()).Words))
	case 191:
		n := w.popA()
		w.object(n)
		panic(api.Effect{Kind: api.EThrow, Value: api.Value{Kind: api.KRef, N: n}})
	case 192, 193:
		n := w.popA()
		may := n != 0 && plainStands(w.all, w.object(n).Type, w.constant().Class)
		switch {
		case op == 192 && n != 0 && !may:
			throwing("Cast")
		case op == 192:
			w.pushA(n)
		case may:
			w.pushI(1)
		default:
			w.pushI(0)
		}
	case 194, 195:
		n := w.popA()
		w.object(n)
		return api.Effect{Kind: op - 194 + api.EEnter, Object: n}
	default:
		w.need(false)
	}
	return api.Effect{}
}
