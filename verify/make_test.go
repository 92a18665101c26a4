package verify_test

import (
	"slices"
	"strconv"
	"strings"

	"larch/api"
	"larch/code"
	"larch/pool"
)

// How tests write types, classes and methods.

func of(k int) api.Type { return api.Type{Kind: k} }

func ref(name string) api.Type { return api.Type{Kind: api.KRef, Name: name} }

// typeOf reads a type: I, J, N (KNull), T (KTop), or a KRef's name.
func typeOf(s string) api.Type {
	switch s {
	case "T":
		return of(api.KTop)
	case "I":
		return of(api.KInt)
	case "J":
		return of(api.KLong)
	case "N":
		return of(api.KNull)
	}
	return ref(s)
}

// types reads types, one behind the other.
func types(s string) []api.Type {
	var l []api.Type
	for _, x := range strings.Fields(s) {
		l = append(l, typeOf(x))
	}
	return l
}

// text tells types as types reads them.
func text(l []api.Type) string {
	var s []string
	for _, x := range l {
		if x.Kind == api.KRef {
			s = append(s, x.Name)
		} else {
			s = append(s, []string{"T", "I", "J", "N"}[x.Kind])
		}
	}
	return strings.Join(s, " ")
}

// frame reads "locals | stack".
func frame(s string) api.Frame {
	locals, stack, _ := strings.Cut(s, "|")
	return api.Frame{Locals: types(locals), Stack: types(stack)}
}

// frameText tells a frame as frame reads it.
func frameText(f api.Frame) string {
	return strings.TrimSpace(text(f.Locals) + " | " + text(f.Stack))
}

// classes makes a list of "name<super" texts.
func classes(text string) []api.Class {
	var l []api.Class
	for _, s := range strings.Fields(text) {
		name, super, _ := strings.Cut(s, "<")
		l = append(l, api.Class{Name: name, Super: super})
	}
	return l
}

// family is the list that tests take, unless they have one of their own.
func family() []api.Class {
	return classes("Object Throwable<Object Bad<Throwable Worse<Bad a<Object b<a c<b other<Object")
}

// constant reads "int 5", "long 5", "class a", "field a f I", "method a m ()V".
func constant(s string) api.Const {
	l := strings.Fields(s)
	n, _ := strconv.Atoi(l[1])
	switch l[0] {
	case "int":
		return api.Const{Tag: api.TInt, N: n}
	case "long":
		return api.Const{Tag: api.TLong, N: n}
	case "class":
		return api.Const{Tag: api.TClass, Class: l[1]}
	case "field":
		return api.Const{Tag: api.TField, Class: l[1], Name: l[2], Type: l[3]}
	}
	return api.Const{Tag: api.TMethod, Class: l[1], Name: l[2], Type: l[3]}
}

// put answers the number of a constant in a pool, which grows by it if need be.
func put(c *api.Class, s string) int {
	l, i, e := pool.Put(c.Pool, constant(s))
	if e != api.OK {
		panic(s)
	}
	c.Pool = l
	return i
}

// putTexts puts texts into a pool, as far as they are not there.
func putTexts(c *api.Class, l ...string) {
	for _, s := range l {
		x := api.Entry{Tag: api.TUtf8, Text: s}
		if !slices.Contains(c.Pool, x) {
			c.Pool = append(slices.Clip(c.Pool), x)
		}
	}
}

// putTypes puts the classes of types into a pool.
func putTypes(c *api.Class, l ...api.Type) {
	for _, x := range l {
		if x.Kind == api.KRef {
			put(c, "class "+x.Name)
		}
	}
}

// putMap puts a map into a method of a class, in its place, with all that it names.
func putMap(c *api.Class, k int, m api.Map) {
	putTexts(c, "StackMapTable")
	putTypes(c, m.Locals...)
	putTypes(c, m.Stack...)
	maps := &c.Methods[k].Code.Maps
	at := slices.IndexFunc(*maps, func(x api.Map) bool { return x.At > m.At })
	if at < 0 {
		at = len(*maps)
	}
	*maps = slices.Insert(slices.Clone(*maps), at, m)
}

// names are the instructions' names.
const names = "nop aconst_null iconst_m1 iconst_0 iconst_1 iconst_2 iconst_3 iconst_4 iconst_5 lconst_0 lconst_1 16=bipush sipush ldc ldc_w ldc2_w " +
	"21=iload lload 25=aload iload_0 iload_1 iload_2 iload_3 lload_0 lload_1 lload_2 lload_3 42=aload_0 aload_1 aload_2 aload_3 iaload laload 50=aaload baload " +
	"54=istore lstore 58=astore istore_0 istore_1 istore_2 istore_3 lstore_0 lstore_1 lstore_2 lstore_3 75=astore_0 astore_1 astore_2 astore_3 iastore lastore 83=aastore bastore " +
	"87=pop pop2 dup dup_x1 92=dup2 95=swap iadd ladd 100=isub lsub 104=imul lmul 108=idiv ldiv 112=irem lrem 116=ineg lneg " +
	"120=ishl lshl ishr lshr iushr lushr iand land ior lor ixor lxor iinc i2l 136=l2i 145=i2b i2c i2s lcmp " +
	"153=ifeq ifne iflt ifge ifgt ifle if_icmpeq if_icmpne if_icmplt if_icmpge if_icmpgt if_icmple if_acmpeq if_acmpne goto " +
	"170=tableswitch lookupswitch ireturn lreturn 176=areturn return getstatic putstatic getfield putfield invokevirtual invokespecial invokestatic " +
	"187=new newarray anewarray arraylength athrow checkcast instanceof monitorenter monitorexit 198=ifnull ifnonnull"

// opOf answers the Op of a name.
func opOf(name string) int {
	op := 0
	for _, s := range strings.Fields(names) {
		at, plain, ok := strings.Cut(s, "=")
		if ok {
			op, _ = strconv.Atoi(at)
			s = plain
		}
		if s == name {
			return op
		}
		op++
	}
	panic("no instruction: " + name)
}

// sizeOf answers how many bytes an instruction takes, at a place.
func sizeOf(i api.Instr, at int) int {
	switch op := i.Op; {
	case op == 170:
		return 1 + 3 - at%4 + 12 + 4*len(i.Cases)
	case op == 171:
		return 1 + 3 - at%4 + 8 + 8*len(i.Cases)
	case slices.Contains([]int{16, 18, 21, 22, 25, 54, 55, 58, 188}, op):
		return 2
	case slices.Contains([]int{17, 19, 20, 132, 187, 189, 192, 193}, op), op >= 153 && op <= 167, op >= 178 && op <= 184, op >= 198:
		return 3
	}
	return 1
}

// piece is a piece of a method's text, and where it stands.
type piece struct {
	at    int
	words []string
}

// writing is a method's text that is read into a class.
type writing struct {
	class  *api.Class
	code   *api.Code
	instrs []api.Instr
	labels map[string]int
	at     int
}

// words splits a piece; what stands in braces is one word.
func words(s string) []string {
	var l []string
	for s = strings.TrimSpace(s); s != ""; s = strings.TrimSpace(s) {
		end := strings.IndexByte(s, ' ')
		if s[0] == '{' {
			end = strings.IndexByte(s, '}') + 1
		}
		if end < 0 {
			end = len(s)
		}
		l = append(l, s[:end])
		s = s[end:]
	}
	return l
}

// number reads a number, a label's place, or a constant.
func (w *writing) number(s string) int {
	switch s[0] {
	case '@':
		at, ok := w.labels[s[1:]]
		if !ok {
			panic("no label: " + s)
		}
		return at
	case '{':
		return put(w.class, s[1:len(s)-1])
	}
	n, e := strconv.Atoi(s)
	if e != nil {
		panic(s)
	}
	return n
}

// operands reads what stands behind an instruction's name.
func (w *writing) operands(i *api.Instr, l []string) {
	if len(l) > 0 {
		i.A = w.number(l[0])
	}
	switch {
	case i.Op == 170:
		i.B = w.number(l[1])
		for k, s := range l[2:] {
			i.Cases = append(i.Cases, api.Case{Key: i.B + k, To: w.number(s)})
		}
	case i.Op == 171:
		for _, s := range l[1:] {
			key, to, _ := strings.Cut(s, ":")
			i.Cases = append(i.Cases, api.Case{Key: w.number(key), To: w.number(to)})
		}
	case len(l) > 1:
		i.B = w.number(l[1])
	}
}

// handler reads "try from to at", and a class behind it.
func (w *writing) handler(l []string) {
	h := api.Handler{From: w.number(l[1]), To: w.number(l[2]), At: w.number(l[3])}
	if len(l) > 4 {
		h.Class = put(w.class, "class "+l[4])
	}
	w.code.Handlers = append(w.code.Handlers, h)
}

// place reads pieces as far as their places hang on them, and answers those that are to be read again.
func (w *writing) place(text string) []piece {
	var l []piece
	for _, s := range strings.Split(text, ",") {
		x := piece{at: w.at, words: words(s)}
		for len(x.words) > 0 && strings.HasSuffix(x.words[0], ":") {
			w.labels[strings.TrimSuffix(x.words[0], ":")] = w.at
			x.words = x.words[1:]
		}
		switch {
		case len(x.words) == 0:
			continue
		case x.words[0] == "=":
			f := frame(strings.Join(x.words[1:], " "))
			w.code.Maps = append(w.code.Maps, api.Map{At: w.at, Locals: f.Locals, Stack: f.Stack})
			continue
		case x.words[0] != "try":
			i := api.Instr{Op: opOf(x.words[0])}
			switch i.Op {
			case 170:
				i.Cases = make([]api.Case, len(x.words)-3)
			case 171:
				i.Cases = make([]api.Case, len(x.words)-2)
			}
			w.at += sizeOf(i, w.at)
		}
		l = append(l, x)
	}
	return l
}

// written is a method as a test writes it: pieces with commas between them, which are instructions with their operands
// (numbers, @label, {constant}), "= locals | stack" for a map, and "try @from @to @at class" for a handler, with labels
// ("here:") ahead of them. The label end is there.
type written struct {
	access        int
	kind          string
	stack, locals int
	text          string
}

// static writes a static method.
func static(kind string, stack, locals int, text string) written {
	return written{access: api.AStatic, kind: kind, stack: stack, locals: locals, text: text}
}

// made is a class, the list of classes that it is asked with, and where the labels of each of its methods are.
type made struct {
	list   []api.Class
	class  api.Class
	labels []map[string]int
}

// makeOf makes a class of methods.
func makeOf(l ...written) made {
	out := made{list: family(), class: api.Class{Name: "a", Super: "Object", Pool: []api.Entry{{}}}}
	c := &out.class
	put(c, "class a")
	put(c, "class Object")
	putTexts(c, "Code", "StackMapTable", "m")
	for _, x := range l {
		putTexts(c, x.kind)
		m := api.Method{Access: x.access, Name: "m", Type: x.kind, Code: api.Code{Stack: x.stack, Locals: x.locals}}
		w := &writing{class: c, code: &m.Code, labels: map[string]int{}}
		pieces := w.place(x.text)
		w.labels["end"] = w.at
		for _, p := range pieces {
			if p.words[0] == "try" {
				w.handler(p.words)
				continue
			}
			i := api.Instr{At: p.at, Op: opOf(p.words[0])}
			w.operands(&i, p.words[1:])
			w.instrs = append(w.instrs, i)
		}
		for _, x := range m.Code.Maps {
			putTypes(c, x.Locals...)
			putTypes(c, x.Stack...)
		}
		b, e := code.Encode(w.instrs)
		if e != api.OK {
			panic("no code: " + x.text)
		}
		m.Code.Bytes = b
		c.Methods = append(c.Methods, m)
		out.labels = append(out.labels, w.labels)
	}
	return out
}

// with answers a class that is asked with another list.
func (x made) with(list []api.Class) made {
	x.list = list
	return x
}
