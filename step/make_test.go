package step_test

import (
	"slices"
	"strconv"
	"strings"
	"testing"

	"larch/api"
	"larch/code"
	"larch/link"
	"larch/pool"
)

// How tests write types, methods and programs.

func of(k int) api.Type { return api.Type{Kind: k} }

func classType(name string) api.Type { return api.Type{Kind: api.KRef, Name: name} }

// typesOf reads types, one behind the other: I, J, N (KNull), T (KTop), or a KRef's name.
func typesOf(text string) []api.Type {
	var l []api.Type
	for _, s := range strings.Fields(text) {
		if k := strings.Index("TIJN", s); k >= 0 {
			l = append(l, of(k))
		} else {
			l = append(l, classType(s))
		}
	}
	return l
}

// constantOf reads "int 5", "long 5", "class a", "field a f I", "method a m ()V".
func constantOf(s string) api.Const {
	l := strings.Fields(s)
	n, _ := strconv.Atoi(l[1])
	switch l[0] {
	case "int":
		return api.Const{Tag: api.TInt, N: n}
	case "long":
		return api.Const{Tag: api.TLong, N: n}
	case "class":
		return api.Const{Tag: api.TClass, Class: l[1]}
	case "field":
		return api.Const{Tag: api.TField, Class: l[1], Name: l[2], Type: l[3]}
	}
	return api.Const{Tag: api.TMethod, Class: l[1], Name: l[2], Type: l[3]}
}

// put answers the number of a constant in a class's pool, which grows by it if need be.
func put(c *api.Class, s string) int {
	l, i, e := pool.Put(c.Pool, constantOf(s))
	if e != api.OK {
		panic(s)
	}
	c.Pool = l
	return i
}

// putTexts puts texts into a class's pool, as far as they are not there.
func putTexts(c *api.Class, l ...string) {
	for _, s := range l {
		x := api.Entry{Tag: api.TUtf8, Text: s}
		if !slices.Contains(c.Pool, x) {
			c.Pool = append(slices.Clip(c.Pool), x)
		}
	}
}

// names are the instructions' names.
const names = "nop aconst_null iconst_m1 iconst_0 iconst_1 iconst_2 iconst_3 iconst_4 iconst_5 lconst_0 lconst_1 16=bipush sipush ldc ldc_w ldc2_w " +
	"21=iload lload 25=aload iload_0 iload_1 iload_2 iload_3 lload_0 lload_1 lload_2 lload_3 42=aload_0 aload_1 aload_2 aload_3 iaload laload 50=aaload baload " +
	"54=istore lstore 58=astore istore_0 istore_1 istore_2 istore_3 lstore_0 lstore_1 lstore_2 lstore_3 75=astore_0 astore_1 astore_2 astore_3 iastore lastore 83=aastore bastore " +
	"87=pop pop2 dup dup_x1 92=dup2 95=swap iadd ladd 100=isub lsub 104=imul lmul 108=idiv ldiv 112=irem lrem 116=ineg lneg " +
	"120=ishl lshl ishr lshr iushr lushr iand land ior lor ixor lxor iinc i2l 136=l2i 145=i2b i2c i2s lcmp " +
	"153=ifeq ifne iflt ifge ifgt ifle if_icmpeq if_icmpne if_icmplt if_icmpge if_icmpgt if_icmple if_acmpeq if_acmpne goto " +
	"170=tableswitch lookupswitch ireturn lreturn 176=areturn return getstatic putstatic getfield putfield invokevirtual invokespecial invokestatic " +
	"187=new newarray anewarray arraylength athrow checkcast instanceof monitorenter monitorexit 198=ifnull ifnonnull"

// opOf answers the Op of a name.
func opOf(name string) int {
	op := 0
	for _, s := range strings.Fields(names) {
		at, plain, ok := strings.Cut(s, "=")
		if ok {
			op, _ = strconv.Atoi(at)
			s = plain
		}
		if s == name {
			return op
		}
		op++
	}
	panic("no instruction: " + name)
}

// sizeOf answers how many bytes an instruction takes, at a place.
func sizeOf(op, cases, at int) int {
	switch {
	case op == 170:
		return 1 + 3 - at%4 + 12 + 4*cases
	case op == 171:
		return 1 + 3 - at%4 + 8 + 8*cases
	case slices.Contains([]int{16, 18, 21, 22, 25, 54, 55, 58, 188}, op):
		return 2
	case slices.Contains([]int{17, 19, 20, 132, 187, 189, 192, 193}, op), op >= 153 && op <= 167, op >= 178 && op <= 184, op >= 198:
		return 3
	}
	return 1
}

// written is a method as a test writes it: pieces with commas between them, which are instructions with their operands
// (numbers, @label, {constant}), "= locals | stack" for a map, and "try @from @to @at class" for a handler, with labels
// ("here:") ahead of them. The label end is there.
type written struct {
	access        int
	name, kind    string
	stack, locals int
	text          string
}

// static writes a static method m.
func static(kind string, stack, locals int, text string) written {
	return written{api.AStatic, "m", kind, stack, locals, text}
}

// writing is a method's text that is read into a class.
type writing struct {
	class  *api.Class
	code   *api.Code
	instrs []api.Instr
	labels map[string]int
	at     int
}

// wordsOf splits a piece; what stands in braces is one word.
func wordsOf(s string) []string {
	var l []string
	for s = strings.TrimSpace(s); s != ""; s = strings.TrimSpace(s) {
		end := strings.IndexByte(s, ' ')
		if s[0] == '{' {
			end = strings.IndexByte(s, '}') + 1
		}
		if end < 0 {
			end = len(s)
		}
		l = append(l, s[:end])
		s = s[end:]
	}
	return l
}

// number reads a number, a label's place, or a constant.
func (w *writing) number(s string) int {
	switch s[0] {
	case '@':
		at, ok := w.labels[s[1:]]
		if !ok {
			panic("no label: " + s)
		}
		return at
	case '{':
		return put(w.class, s[1:len(s)-1])
	}
	n, e := strconv.Atoi(s)
	if e != nil {
		panic(s)
	}
	return n
}

// instr reads an instruction.
func (w *writing) instr(l []string) {
	i := api.Instr{At: w.at, Op: opOf(l[0])}
	if len(l) > 1 {
		i.A = w.number(l[1])
	}
	switch {
	case i.Op == 170:
		i.B = w.number(l[2])
		for k, s := range l[3:] {
			i.Cases = append(i.Cases, api.Case{Key: i.B + k, To: w.number(s)})
		}
	case i.Op == 171:
		for _, s := range l[2:] {
			key, to, _ := strings.Cut(s, ":")
			i.Cases = append(i.Cases, api.Case{Key: w.number(key), To: w.number(to)})
		}
	case len(l) > 2:
		i.B = w.number(l[2])
	}
	w.instrs = append(w.instrs, i)
	w.at += sizeOf(i.Op, len(i.Cases), w.at)
}

// handler reads "try from to at", and a class behind it.
func (w *writing) handler(l []string) {
	h := api.Handler{From: w.number(l[1]), To: w.number(l[2]), At: w.number(l[3])}
	if len(l) > 4 {
		h.Class = put(w.class, "class "+l[4])
	}
	w.code.Handlers = append(w.code.Handlers, h)
}

// framed reads "= locals | stack".
func (w *writing) framed(l []string) {
	locals, stack, _ := strings.Cut(strings.Join(l[1:], " "), "|")
	m := api.Map{At: w.at, Locals: typesOf(locals), Stack: typesOf(stack)}
	for _, x := range slices.Concat(m.Locals, m.Stack) {
		if x.Kind == api.KRef {
			put(w.class, "class "+x.Name)
		}
	}
	w.code.Maps = append(w.code.Maps, m)
}

// place reads pieces as far as their places hang on them.
func (w *writing) place(pieces [][]string) {
	for n, l := range pieces {
		for len(l) > 0 && strings.HasSuffix(l[0], ":") {
			w.labels[strings.TrimSuffix(l[0], ":")] = w.at
			l = l[1:]
		}
		pieces[n] = l
		if len(l) > 0 && l[0] != "=" && l[0] != "try" {
			op := opOf(l[0])
			w.at += sizeOf(op, len(l)-map[int]int{170: 3, 171: 2}[op], w.at)
		}
	}
	w.labels["end"] = w.at
}

// read reads a method's text.
func (w *writing) read(text string) {
	var pieces [][]string
	for _, s := range strings.Split(text, ",") {
		pieces = append(pieces, wordsOf(s))
	}
	w.place(pieces)
	w.at = 0
	for _, l := range pieces {
		switch {
		case len(l) == 0:
		case l[0] == "=":
			w.framed(l)
		case l[0] == "try":
			w.handler(l)
		default:
			w.instr(l)
		}
	}
	b, e := code.Encode(w.instrs)
	if e != api.OK {
		panic("no code: " + text)
	}
	w.code.Bytes = b
}

// fieldsOf reads fields: "x I, static s J".
func fieldsOf(text string) []api.Field {
	var l []api.Field
	for _, s := range strings.Split(text, ",") {
		words := strings.Fields(s)
		switch len(words) {
		case 2:
			l = append(l, api.Field{Name: words[0], Type: words[1]})
		case 3:
			l = append(l, api.Field{Access: api.AStatic, Name: words[1], Type: words[2]})
		}
	}
	return l
}

// classOf makes a class of fields and methods, and answers the labels of each method.
func classOf(head, fields string, l ...written) (api.Class, []map[string]int) {
	name, super, _ := strings.Cut(head, "<")
	c := api.Class{Name: name, Super: super, Pool: []api.Entry{{}}, Fields: fieldsOf(fields)}
	put(&c, "class "+name)
	put(&c, "class "+super)
	putTexts(&c, "Code", "StackMapTable")
	for _, f := range c.Fields {
		putTexts(&c, f.Name, f.Type)
	}
	var labels []map[string]int
	for _, x := range l {
		putTexts(&c, x.name, x.kind)
		m := api.Method{Access: x.access, Name: x.name, Type: x.kind, Code: api.Code{Stack: x.stack, Locals: x.locals}}
		w := &writing{class: &c, code: &m.Code, labels: map[string]int{}}
		w.read(x.text)
		c.Methods = append(c.Methods, m)
		labels = append(labels, w.labels)
	}
	return c, labels
}

// The places of classes in programs that tests make.
const (
	inMain  = 10
	inA     = 11
	inB     = 12
	inC     = 13
	inOther = 14
)

// made is a program, with the labels of the methods of its class b.
type made struct {
	*link.Program
	labels []map[string]int
}

// family is the classes of the programs that tests make, with their fields; b's x hides a's.
func family() [][2]string {
	return [][2]string{
		{"Main<Object", ""},
		{"a<Object", "x I, static s I, y J, r La;, static t J, l [I"},
		{"b<a", "z I, static u La;, x J"},
		{"c<b", "w Lb;"},
		{"other<Object", "static v I, k I"},
		{"Bad<Throwable", "code I"},
		{"Worse<Bad", ""},
		{"side<Throwable", ""},
	}
}

// familyMethods are the methods of a class of the family other than b; c's get hides a's.
func familyMethods(name string) []written {
	switch name {
	case "Main":
		return []written{{api.AStatic, "main", "()V", 0, 0, "return"}}
	case "a":
		return []written{
			{0, "get", "()I", 1, 1, "iconst_1, ireturn"}, {0, "add", "(IJLa;[I)J", 2, 6, "lload_2, lreturn"},
			{api.AStatic, "two", "(IJLa;)V", 0, 4, "return"}, {api.ASync, "run", "()V", 0, 1, "return"}, {api.AStatic, "none", "()J", 2, 0, "lconst_0, lreturn"},
		}
	case "c":
		return []written{{0, "set", "(I)V", 0, 2, "return"}, {0, "get", "()I", 1, 1, "iconst_2, ireturn"}}
	case "other":
		return []written{{0, "get", "()I", 1, 1, "iconst_3, ireturn"}}
	}
	return nil
}

// listOf makes the list of the family's classes, of which b is given.
func listOf(b api.Class) []api.Class {
	var l []api.Class
	for _, x := range family() {
		c, _ := classOf(x[0], x[1], familyMethods(x[0][:strings.Index(x[0], "<")])...)
		if c.Name == "b" {
			c = b
		}
		l = append(l, c)
	}
	return l
}

// programOf makes a program of the family, in which b has these methods.
func programOf(t *testing.T, l ...written) made {
	t.Helper()
	b, labels := classOf(family()[2][0], family()[2][1], l...)
	p, at, e := link.Make(listOf(b))
	if e != api.OK {
		t.Fatalf("no program of %v: class %d", l, at)
	}
	return made{p, labels}
}

// at is where a label is in b's method k.
func (x made) at(k int, label string) int {
	at, ok := x.labels[k][label]
	if !ok {
		panic("no label: " + label)
	}
	return at
}
