package link_test

import (
	"slices"
	"strconv"
	"strings"

	"larch/api"
	"larch/kind"
	"larch/pool"
)

// How tests write classes, methods and codes.

// constant reads "int 5", "long 5", "class a", "field a f I", "method a m ()V".
func constant(s string) api.Const {
	l := strings.Fields(s)
	n, _ := strconv.Atoi(l[1])
	switch l[0] {
	case "int":
		return api.Const{Tag: api.TInt, N: n}
	case "long":
		return api.Const{Tag: api.TLong, N: n}
	case "class":
		return api.Const{Tag: api.TClass, Class: l[1]}
	case "field":
		return api.Const{Tag: api.TField, Class: l[1], Name: l[2], Type: l[3]}
	}
	return api.Const{Tag: api.TMethod, Class: l[1], Name: l[2], Type: l[3]}
}

// put answers the number of a constant in a class's pool, which grows by it if need be; 0 if no pool can have it.
func put(c *api.Class, x api.Const) int {
	l, i, e := pool.Put(c.Pool, x)
	if e != api.OK {
		return 0
	}
	c.Pool = l
	return i
}

// putClasses puts classes into a class's pool.
func putClasses(c *api.Class, l ...string) {
	for _, s := range l {
		put(c, api.Const{Tag: api.TClass, Class: s})
	}
}

// putTexts puts texts into a class's pool, as far as they are not there.
func putTexts(c *api.Class, l ...string) {
	for _, s := range l {
		x := api.Entry{Tag: api.TUtf8, Text: s}
		if !slices.Contains(c.Pool, x) {
			c.Pool = append(slices.Clip(c.Pool), x)
		}
	}
}

// opOf answers the Op of a name, or of a number.
func opOf(s string) int {
	names := map[string]int{
		"nop": 0, "aconst_null": 1, "iconst_0": 3, "lconst_0": 9, "pop": 87, "pop2": 88, "ireturn": 172, "lreturn": 173, "areturn": 176, "return": 177,
		"getstatic": 178, "putstatic": 179, "getfield": 180, "putfield": 181, "invokevirtual": 182, "invokespecial": 183, "invokestatic": 184, "new": 187,
	}
	if op, ok := names[s]; ok {
		return op
	}
	op, e := strconv.Atoi(s)
	if e != nil {
		panic("no instruction: " + s)
	}
	return op
}

// bytesOf reads a code: names of instructions, numbers of bytes, and constants in braces, which take two bytes.
func bytesOf(c *api.Class, text string) []byte {
	var b []byte
	for s := strings.TrimSpace(text); s != ""; s = strings.TrimSpace(s) {
		if s[0] == '{' {
			inner, rest, _ := strings.Cut(s[1:], "}")
			i := put(c, constant(inner))
			b, s = append(b, byte(i>>8), byte(i)), rest
			continue
		}
		word, rest, _ := strings.Cut(s, " ")
		b, s = append(b, byte(opOf(word))), rest
	}
	return b
}

// zero answers what pushes a value that may stand for a type.
func zero(x api.Type) string {
	switch x.Kind {
	case api.KInt:
		return "iconst_0 "
	case api.KLong:
		return "lconst_0 "
	}
	return "aconst_null "
}

// drop answers what takes a value of a type off the stack.
func drop(x api.Type) string {
	switch x.Kind {
	case api.KTop:
		return ""
	case api.KLong:
		return "pop2 "
	}
	return "pop "
}

// ends answers what ends a method that answers a type.
func ends(x api.Type) string {
	switch x.Kind {
	case api.KTop:
		return "return"
	case api.KInt:
		return "iconst_0 ireturn"
	case api.KLong:
		return "lconst_0 lreturn"
	}
	return "aconst_null areturn"
}

// doing answers a code, but for its end, that does an instruction with a constant, with what it needs ahead of it and nothing left behind it.
func doing(op, named string) string {
	c := constant(named)
	x, _ := kind.Parse(c.Type)
	args, back, _ := kind.Method(c.Type)
	do := op + " {" + named + "} "
	push := ""
	for _, a := range args {
		push += zero(a)
	}
	switch op {
	case "getstatic":
		return do + drop(x)
	case "putstatic":
		return zero(x) + do
	case "getfield":
		return "aconst_null " + do + drop(x)
	case "putfield":
		return "aconst_null " + zero(x) + do
	case "invokestatic":
		return push + do + drop(back)
	case "new":
		return do + "pop "
	}
	return "aconst_null " + push + do + drop(back)
}

// methodOf puts a method into a class; without a text its code answers a zero.
func methodOf(c *api.Class, access int, name, desc, text string) {
	args, back, _ := kind.Method(desc)
	if text == "" {
		text = ends(back)
	}
	putTexts(c, "Code", name, desc)
	b := bytesOf(c, text)
	locals := kind.Wide(args...)
	if access != api.AStatic && access != api.AStatic|api.ASync {
		locals++
	}
	c.Methods = append(c.Methods, api.Method{Access: access, Name: name, Type: desc, Code: api.Code{Stack: 40, Locals: locals, Bytes: b}})
}

// fieldOf puts a field into a class.
func fieldOf(c *api.Class, access int, name, desc string) {
	putTexts(c, name, desc)
	c.Fields = append(c.Fields, api.Field{Access: access, Name: name, Type: desc})
}

// classOf reads a class: "name<super", and its members: "access name type" of a field, or, if the type begins with ( , of a method, whose code may stand behind a colon.
func classOf(head string, members ...string) api.Class {
	name, super, _ := strings.Cut(head, "<")
	c := api.Class{Name: name, Super: super, Pool: []api.Entry{{}}}
	putClasses(&c, name)
	if super != "" {
		putClasses(&c, super)
	}
	for _, s := range members {
		s, text, _ := strings.Cut(s, ":")
		l := strings.Fields(s)
		access, _ := strconv.Atoi(l[0])
		if l[2][0] == '(' {
			methodOf(&c, access, l[1], l[2], text)
		} else {
			fieldOf(&c, access, l[1], l[2])
		}
	}
	return c
}

const aMain = "8 main ()V"

// plainList is n classes c0, c1 and so on, each of them with a main, none of them above another one.
func plainList(n int) []api.Class {
	var l []api.Class
	for k := range n {
		l = append(l, classOf("c"+strconv.Itoa(k)+"<Object", aMain))
	}
	return l
}

// chain is a list whose classes are each below the one ahead, with the members that are handed in.
func chain(l ...[]string) []api.Class {
	var out []api.Class
	super := "Object"
	for k, members := range l {
		name := "c" + strconv.Itoa(k)
		out = append(out, classOf(name+"<"+super, members...))
		super = name
	}
	return out
}

// of writes members.
func of(l ...string) []string { return l }

// has answers a class with more members.
func has(c api.Class, change ...func(*api.Class)) api.Class {
	for _, f := range change {
		f(&c)
	}
	return c
}

// unsound makes a class that is right, with a method that is not sound.
func unsound(c *api.Class) { methodOf(c, api.AStatic, "unsound", "()V", "pop return") }

// wrong makes a class that is not right.
func wrong(c *api.Class) { c.Pool = append(slices.Clip(c.Pool), api.Entry{}) }

func ref(name string) api.Type { return api.Type{Kind: api.KRef, Name: name} }

func kindOf(k int) api.Type { return api.Type{Kind: k} }

// houseNames are the names of the house's classes.
func houseNames() []string {
	return strings.Fields("Object Throwable Arithmetic Null Index Negative Cast Store Monitor sys")
}

// houseCall is one of the house's calls.
type houseCall struct{ name, kind string }

// houseCalls are the house's calls, in order.
func houseCalls() []houseCall {
	return []houseCall{{"out", "(I)V"}, {"in", "()I"}, {"spawn", "(LObject;)V"}, {"wait", "(LObject;)V"}, {"notify", "(LObject;)V"}, {"yield", "()V"}}
}
