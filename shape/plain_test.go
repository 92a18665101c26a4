package shape_test

import (
	"fmt"
	"math/rand"
	"slices"
	"strings"
	"testing"

	"larch/api"
	"larch/kind"
	"larch/pool"
	"larch/shape"
)

// A plain reading of the chapter's words, against which the calls are held.

// plainTable is the chapter's table: of each Op what it does, word by word. -x pops, +x pushes; "it" is what was popped or got last; x>y takes the letters of x (L a long, others singles) off the top and lays down those of y.
func plainTable() map[int][]string {
	const text = `
0 167:
1: +N
17: +I
9: +J
18: constant-int +I
20: constant-long +J
21: local-I +it
22: local-J +it
25: local-ref +it
54: -I set
55: -J set
58: -ref set
46: -I -[I +I
47: -I -[J +J
51: -I -[B +I
50: -I -refs +elem
79: -I -I -[I
80: -J -I -[J
84: -I -I -[B
83: -ref -I -refs
87: a>
88: L>|ab>
89: a>aa
90: ab>bab
92: L>LL|ab>abab
95: ab>ba
96 100 104 108 112 120 122 124 126 128 130: -I -I +I
97 101 105 109 113 127 129 131: -J -J +J
121 123 125: -I -J +J
116 145 146 147: -I +I
117: -J +J
133: -I +J
136: -J +I
148: -J -J +I
132: local-I
153..158 170 171: -I
159..164: -I -I
165 166: -ref -ref
198 199 194 195: -ref
172: answers-I -back
173: answers-J -back
176: answers-ref -back
177: answers-nothing
178: field +type
179: field -type
180: field -owner +type
181: field -type -owner
182 183: method -args -owner +answer
184: method -args +answer
187: class a-name +type
188: -I +numbers
189: class -I +array
190: -array +I
191: -Throwable
192: class -ref +type
193: class -ref +I`
	all := map[int][]string{}
	for _, line := range strings.Split(strings.TrimSpace(text), "\n") {
		l, does, _ := strings.Cut(line, ":")
		for _, op := range ops(l) {
			all[op] = strings.Fields(does)
		}
	}
	return all
}

var plainRows = plainTable()

// plain is a step as the table tells it.
type plain struct {
	asked
	locals, stack []api.Type
	it, told      api.Type
	args          []api.Type
	named         api.Const
}

func (p *plain) top() (api.Type, bool) {
	if len(p.stack) == 0 {
		return api.Type{}, false
	}
	p.it = p.stack[len(p.stack)-1]
	p.stack = p.stack[:len(p.stack)-1]
	return p.it, true
}

func (p *plain) pop(s string) bool {
	if s == "args" {
		for len(p.args) > 0 {
			x, ok := p.top()
			if !ok || !kind.May(p.list, x, p.args[len(p.args)-1]) {
				return false
			}
			p.args = p.args[:len(p.args)-1]
		}
		return true
	}
	x, ok := p.top()
	if !ok {
		return false
	}
	inner, e := kind.Elem(x)
	switch s {
	case "ref":
		return x.Kind == api.KNull || x.Kind == api.KRef
	case "array":
		return x.Kind == api.KNull || e == api.OK
	case "refs":
		return x.Kind == api.KNull || e == api.OK && inner.Kind == api.KRef
	case "back":
		return kind.May(p.list, x, p.back)
	case "type":
		return kind.May(p.list, x, p.told)
	case "owner":
		return kind.May(p.list, x, ref(p.named.Class))
	}
	return kind.May(p.list, x, typeOf(s))
}

func (p *plain) push(s string) bool {
	x := typeOf(s)
	switch s {
	case "it":
		x = p.it
	case "elem":
		x = of(api.KNull)
		if p.it.Kind == api.KRef {
			x, _ = kind.Elem(p.it)
		}
	case "type":
		x = p.told
	case "answer":
		if p.told.Kind == api.KTop {
			return true
		}
		x = p.told
	case "numbers":
		name, ok := map[int]string{8: "[B", 10: "[I", 11: "[J"}[p.instr.A]
		if !ok {
			return false
		}
		x = ref(name)
	case "array":
		name := "[" + p.named.Class
		if kind.Class(p.named.Class) {
			name = "[L" + p.named.Class + ";"
		}
		if strings.HasPrefix(name, "[[[[[[[[[") {
			return false
		}
		x = ref(name)
	}
	p.stack = append(p.stack, x)
	return true
}

// shuffle tries the patterns one by one.
func (p *plain) shuffle(patterns string) bool {
	for _, s := range strings.Split(patterns, "|") {
		from, to, _ := strings.Cut(s, ">")
		if len(p.stack) < len(from) {
			continue
		}
		below := p.stack[:len(p.stack)-len(from)]
		found, ok := map[byte]api.Type{}, true
		for i := range from {
			x := p.stack[len(below)+i]
			found[from[i]] = x
			ok = ok && (x.Kind == api.KLong) == (from[i] == 'L')
		}
		if ok {
			p.stack = slices.Clone(below)
			for i := range to {
				p.stack = append(p.stack, found[to[i]])
			}
			return true
		}
	}
	return false
}

func (p *plain) set() bool {
	a := p.instr.A
	long := p.it.Kind == api.KLong
	if a < 0 || a >= len(p.locals) || long && a == len(p.locals)-1 {
		return false
	}
	p.locals[a] = p.it
	if long {
		p.locals[a+1] = of(api.KTop)
	}
	if a > 0 && p.locals[a-1].Kind == api.KLong {
		p.locals[a-1] = of(api.KTop)
	}
	return true
}

func (p *plain) local(s string) bool {
	if p.instr.A < 0 || p.instr.A >= len(p.locals) {
		return false
	}
	p.it = p.locals[p.instr.A]
	switch s {
	case "I":
		return p.it.Kind == api.KInt
	case "J":
		return p.it.Kind == api.KLong
	}
	return p.it.Kind == api.KNull || p.it.Kind == api.KRef
}

func (p *plain) constant(tag int) bool {
	c, e := pool.Const(p.class.Pool, p.instr.A)
	p.named = c
	if e != api.OK || c.Tag != tag {
		return false
	}
	e = api.OK
	switch tag {
	case api.TField:
		p.told, e = kind.Parse(c.Type)
	case api.TMethod:
		p.args, p.told, e = kind.Method(c.Type)
	case api.TClass:
		p.told = ref(c.Class)
		if !kind.Class(c.Class) {
			_, e = kind.Elem(p.told)
		}
	}
	return e == api.OK
}

// word does a word of the table.
func (p *plain) word(s string) bool {
	switch s {
	case "set":
		return p.set()
	case "constant-int":
		return p.constant(api.TInt)
	case "constant-long":
		return p.constant(api.TLong)
	case "field":
		return p.constant(api.TField)
	case "method":
		return p.constant(api.TMethod)
	case "class":
		return p.constant(api.TClass)
	case "a-name":
		return kind.Class(p.named.Class)
	case "answers-I":
		return p.back.Kind == api.KInt
	case "answers-J":
		return p.back.Kind == api.KLong
	case "answers-ref":
		return p.back.Kind == api.KRef
	case "answers-nothing":
		return p.back.Kind == api.KTop
	}
	switch {
	case strings.HasPrefix(s, "local-"):
		return p.local(s[len("local-"):])
	case s[0] == '-':
		return p.pop(s[1:])
	case s[0] == '+':
		return p.push(s[1:])
	}
	return p.shuffle(s)
}

// plainForms are the short forms: the first Op, the last one, the plain one, and the A of the first.
func plainForm(op, a int) (int, int) {
	for _, x := range [][4]int{{2, 8, 17, -1}, {10, 10, 9, 1}, {26, 29, 21, 0}, {30, 33, 22, 0}, {42, 45, 25, 0}, {59, 62, 54, 0}, {63, 66, 55, 0}, {75, 78, 58, 0}} {
		if x[0] <= op && op <= x[1] {
			return x[2], x[3] + op - x[0]
		}
	}
	switch op {
	case 16:
		return 17, a
	case 19:
		return 18, a
	}
	return op, a
}

// plainStep tells what comes of f, as do tells it.
func (k asked) plainStep(f api.Frame) string {
	p := plain{asked: k, locals: slices.Clone(f.Locals), stack: slices.Clone(f.Stack)}
	p.instr.Op, p.instr.A = plainForm(p.instr.Op, p.instr.A)
	words, ok := plainRows[p.instr.Op]
	for _, s := range words {
		ok = ok && p.word(s)
	}
	wide := len(p.stack)
	for _, x := range p.stack {
		if x.Kind == api.KLong {
			wide++
		}
	}
	if !ok || wide > k.most {
		return refused
	}
	return frameText(api.Frame{Locals: p.locals, Stack: p.stack})
}

// held holds a step against the plain one, and answers whether it is done.
func (k asked) held(t *testing.T, f api.Frame) bool {
	t.Helper()
	got, want := k.do(t, f), k.plainStep(f)
	if got != want {
		t.Fatalf("%v (answers %v, most %d) of %s: %s, want %s", k.instr, k.back, k.most, frameText(f), got, want)
	}
	return got != refused
}

// All stacks of up to three types, below each instruction without a constant.
func TestAllStacks(t *testing.T) {
	l := types("I J N T Object a b Throwable [I [J [B [La; [[I")
	locals := types("I J T a N")
	k := asked{list: family(), most: 4}
	var all func(stack []api.Type)
	all = func(stack []api.Type) {
		f := api.Frame{Locals: locals, Stack: stack}
		for op := range 200 {
			k.instr.Op, k.instr.A = op, (op+len(stack))%6
			k.back = l[(op+3*len(stack))%len(l)]
			k.held(t, f)
		}
		if len(stack) == 3 {
			return
		}
		for _, x := range l {
			all(append(slices.Clone(stack), x))
		}
	}
	all(nil)
}

// manyConstants is a class with constants of all kinds, right and wrong.
func manyConstants() api.Class {
	all := []string{"int 5", "long 5", "int -1", "long -1"}
	for _, s := range []string{"a", "b", "Object", "none", "[I", "[La;", "[[[[[[[[B", "[[[[[[[La;", "La;", "1", "[V"} {
		all = append(all, "class "+s)
	}
	for _, s := range []string{"a", "Object", "[La;", "1"} {
		for _, x := range []string{"I", "J", "La;", "[La;", "[B", "V", "()V"} {
			all = append(all, "field "+s+" f "+x)
		}
		for _, x := range []string{"()V", "()J", "(I)I", "(J)La;", "(IJ)[I", "(La;[I)V", "([La;Lb;)Lb;", "(LObject;JI)J", "(", "I", "(V)V"} {
			all = append(all, "method "+s+" m "+x)
		}
	}
	c, _ := holding(all...)
	return c
}

// All stacks of up to two types, and each number of a pool.
func TestAllConstants(t *testing.T) {
	l := types("I J N T a b [I [La;")
	k := asked{list: family(), class: manyConstants(), most: 5}
	var all func(stack []api.Type)
	all = func(stack []api.Type) {
		for _, k.instr.Op = range ops("18..20 178..184 187 189 192 193") {
			for k.instr.A = -1; k.instr.A <= len(k.class.Pool); k.instr.A++ {
				k.held(t, api.Frame{Stack: stack})
			}
		}
		if len(stack) == 2 {
			return
		}
		for _, x := range l {
			all(append(slices.Clone(stack), x))
		}
	}
	all(nil)
}

var (
	everyType = types(allTypes)
	localType = types("I I J T a N [La; b")
)

// pick answers one of a list.
func pick[T any](r *rand.Rand, l []T) T { return l[r.Intn(len(l))] }

// randomList makes a list whose classes go up to an end.
func randomList(r *rand.Rand) []api.Class {
	names := []string{"a", "b", "c", "other", "Bad", "Throwable", "none", "Object"}
	var l []api.Class
	for i, s := range names[:6] {
		super := pick(r, names[i+1:])
		if r.Intn(6) == 0 {
			super = ""
		}
		if r.Intn(8) > 0 {
			l = append(l, api.Class{Name: s, Super: super})
		}
	}
	if r.Intn(2) == 0 {
		l = append(l, api.Class{Name: "Object"})
	}
	r.Shuffle(len(l), func(i, k int) { l[i], l[k] = l[k], l[i] })
	return l
}

// wanted answers types that an instruction may want on the stack, so that many are done.
func wanted(r *rand.Rand, k asked) []api.Type {
	c, _ := pool.Const(k.class.Pool, k.instr.A)
	var l []api.Type
	op, _ := plainForm(k.instr.Op, 0)
	for _, s := range plainRows[op] {
		switch {
		case s == "-args":
			args, _, _ := kind.Method(c.Type)
			slices.Reverse(args)
			l = append(l, args...)
		case s == "-type":
			x, _ := kind.Parse(c.Type)
			l = append(l, x)
		case s == "-owner":
			l = append(l, ref(c.Class))
		case s == "-back":
			l = append(l, k.back)
		case s == "-ref", s == "-array":
			l = append(l, typeOf(pick(r, strings.Fields(allRefs))))
		case s == "-refs":
			l = append(l, typeOf(pick(r, strings.Fields("N "+innerRefs))))
		case s[0] == '-':
			l = append(l, typeOf(s[1:]))
		case strings.Contains(s, ">"):
			l = append(l, typeOf(pick(r, strings.Fields("J I T N a [I"))), typeOf(pick(r, strings.Fields("I T N a [I"))))
		}
	}
	slices.Reverse(l)
	return l
}

// named are the tags of the constants that instructions name.
var named = map[int]int{
	18: api.TInt, 19: api.TInt, 20: api.TLong, 178: api.TField, 179: api.TField, 180: api.TField, 181: api.TField,
	182: api.TMethod, 183: api.TMethod, 184: api.TMethod, 187: api.TClass, 189: api.TClass, 192: api.TClass, 193: api.TClass,
}

// randomOperand makes an operand that an instruction may have, of those that name a constant mostly the number of such a one.
func randomOperand(r *rand.Rand, op int, c api.Class) int {
	tag, ok := named[op]
	if !ok {
		return r.Intn(12)
	}
	at := r.Intn(len(c.Pool))
	for r.Intn(500) > 0 && c.Pool[at].Tag != tag {
		at = r.Intn(len(c.Pool))
	}
	return at
}

// randomStep makes an instruction, and a frame to which it can often be done.
func randomStep(r *rand.Rand, all []int, c api.Class) (asked, api.Frame) {
	types := everyType
	k := asked{list: randomList(r), class: c, back: pick(r, types), most: r.Intn(12)}
	op := pick(r, all)
	k.instr = api.Instr{Op: op, A: randomOperand(r, op, c)}
	var f api.Frame
	for range r.Intn(13) {
		f.Locals = append(f.Locals, pick(r, localType))
	}
	for range r.Intn(4) {
		f.Stack = append(f.Stack, pick(r, types))
	}
	f.Stack = append(f.Stack, wanted(r, k)...)
	if n := len(f.Stack); n > 0 && r.Intn(5) == 0 {
		f.Stack[r.Intn(n)] = pick(r, types)
	}
	return k, f
}

func TestRandomSteps(t *testing.T) {
	r := rand.New(rand.NewSource(11))
	all, c := ops(known), manyConstants()
	done := map[int]int{}
	for range 200000 {
		k, f := randomStep(r, all, c)
		if k.held(t, f) {
			done[k.instr.Op]++
		}
	}
	for _, op := range all {
		if done[op] < 20 {
			t.Errorf("%d was done just %d times", op, done[op])
		}
	}
}

// plainBegin tells the locals with which a method begins.
func plainBegin(c api.Class, m api.Method) string {
	args, _, e := kind.Method(m.Type)
	if e != api.OK || m.Code.Locals > 64 {
		return refused
	}
	var l []api.Type
	if m.Access != 8 && m.Access != 40 {
		l = append(l, ref(c.Name))
	}
	for _, x := range args {
		l = append(l, x)
		if x.Kind == api.KLong {
			l = append(l, of(api.KTop))
		}
	}
	if len(l) > m.Code.Locals {
		return refused
	}
	for len(l) < m.Code.Locals {
		l = append(l, of(api.KTop))
	}
	return text(l)
}

func TestRandomBegins(t *testing.T) {
	r := rand.New(rand.NewSource(112))
	parts := []string{"I", "J", "La;", "[I", "[[La;", "B", "V", ";", "["}
	for range 20000 {
		kind := "("
		for range r.Intn(r.Intn(36) + 1) {
			kind += pick(r, parts[:5+r.Intn(2)*r.Intn(2)*r.Intn(2)*4])
		}
		kind += ")" + pick(r, []string{"V", "I", "J", "[B", "", "B"})
		m := method(pick(r, []int{0, 8, 32, 40, 1, 9, -8}), kind, r.Intn(70)-2)
		f, e := shape.Begin(api.Class{Name: "own"}, m)
		got := text(f.Locals)
		if e != api.OK {
			got = refused
		}
		if want := plainBegin(api.Class{Name: "own"}, m); got != want || len(f.Stack) != 0 || e != api.OK && e != api.ErrStack {
			t.Fatalf("Begin(%v): %s %v, want %s", m, fmt.Sprint(f), e, want)
		}
	}
}
