package link_test

import (
	"slices"
	"strings"
	"testing"

	"larch/api"
	"larch/link"
)

// Tests of 13.1: Make, as far as it goes through codes; main; and which number is told.

// codeOf makes a class whose method use has a code.
func codeOf(text string) api.Class {
	return classOf("user<Object", aMain, "8 use ()V: "+text+"return")
}

// amid lays a class at the first, a middle and the last place of a list with others, and answers the lists and the places.
func amid(c api.Class, others []api.Class) ([][]api.Class, []int) {
	first := append([]api.Class{c}, others...)
	first = append(first, classOf("last<Object"))
	head := []api.Class{classOf("first<Object", aMain)}
	middle := slices.Concat(head, others[:len(others)/2], []api.Class{c}, others[len(others)/2:], []api.Class{classOf("last<Object")})
	last := slices.Concat(head, others, []api.Class{c})
	return [][]api.Class{first, middle, last}, []int{0, 1 + len(others)/2, len(last) - 1}
}

// uses asks for a code, in a class at each place of a list, with others.
func uses(t *testing.T, ok bool, text string, others ...api.Class) {
	t.Helper()
	lists, places := amid(codeOf(text), others)
	for i, l := range lists {
		_, n, e := makes(t, l)
		if ok && (n != 10+len(l) || e != api.OK) || !ok && (n != places[i] || e != api.ErrLink) {
			t.Errorf("%s at %d of %s: %d %v, want it to fit: %v", text, places[i], told(l), n, e, ok)
		}
	}
}

func TestNotSound(t *testing.T) {
	refusedAt(t, "a class that is not right", wrong)
	refusedAt(t, "a class without a pool", func(c *api.Class) { c.Pool = nil })
	refusedAt(t, "a class without its name's entry", func(c *api.Class) { c.Name = "other" })
	refusedAt(t, "a method that is not sound", unsound)
	refusedAt(t, "a first method that is not sound", func(c *api.Class) { c.Methods[0].Code.Bytes = []byte{87, 177} })
	refusedAt(t, "a code that is none", func(c *api.Class) { c.Methods[0].Code.Bytes = []byte{0xff} })
	refusedAt(t, "no bytes", func(c *api.Class) { c.Methods[0].Code.Bytes = nil })
	refusedAt(t, "a code without an end", func(c *api.Class) { c.Methods[0].Code.Bytes = []byte{0} })
	refusedAt(t, "a method's type that is none", func(c *api.Class) { methodOf(c, 8, "m", "(V", "return") })
	refusedAt(t, "a field's access", field(1, "f", "I"))
	refusedAt(t, "a field's access", field(40, "f", "I"))
	refusedAt(t, "a method's access", method(1, "m", "()V"))
	fitsAt(t, func(c *api.Class) { c.Methods[0].Code.Bytes = []byte{0, 0, 177} })
	// Soundness is asked with all classes: those of the list that come behind, and the house's.
	l := plainList(3)
	below("c2")(&l[1])
	methodOf(&l[0], 8, "m", "(Lc1;)Lc2;", "42 areturn")
	methodOf(&l[0], 8, "m", "(LIndex;)LThrowable;", "42 areturn")
	fits(t, l)
	below("Object")(&l[1])
	refused(t, l, 0)
}

func TestStaticFields(t *testing.T) {
	a := classOf("a<Object", "8 s I", "8 o La;", "0 f I", "8 l J", "8 x I")
	b := classOf("b<a", "8 l I", "0 x I", "8 f J")
	for _, op := range of("getstatic", "putstatic") {
		for s, ok := range map[string]bool{
			"a s I": true, "a o La;": true, "a l J": true, "b s I": true, "b o La;": true, "c s I": true, // in the class, and above it
			"b l I": true, "b l J": false, "c l I": true, "c l J": false, "a l I": false, // hidden by a nearer one, of another type
			"b x I": false, "c x I": false, "a x I": true, "b f J": true, "b f I": false, "a f J": false, // .. and not static, or the other way round
			"a f I": false, "a s J": false, "a o Lb;": false, "b o Lb;": false, "a o LObject;": false, "a s [I": false, // not static, of another type
			"a none I": false, "Object s I": false, "Index s I": false, "sys out I": false, // not at all
			"none s I": false, "[La; s I": false, "[I s I": false, "La; s I": false, // of a class that there is not
		} {
			uses(t, ok, doing(op, "field "+s), a, b, classOf("c<b"))
		}
	}
}

func TestFields(t *testing.T) {
	a := classOf("a<Object", "0 f I", "0 o La;", "8 s I", "0 l J", "0 x I")
	b := classOf("b<a", "0 l I", "8 x I", "0 s J")
	for _, op := range of("getfield", "putfield") {
		for s, ok := range map[string]bool{
			"a f I": true, "a o La;": true, "a l J": true, "b f I": true, "b o La;": true, "c f I": true,
			"b l I": true, "b l J": false, "c l I": true, "c l J": false, "a l I": false,
			"b x I": false, "c x I": false, "a x I": true, "b s J": true, "b s I": false, "a s J": false,
			"a s I": false, "a f J": false, "a o Lb;": false, "b o Lb;": false, "a o LObject;": false, "a f [I": false,
			"a none I": false, "Object f I": false, "Index f I": false, "sys f I": false,
			"none f I": false, "[La; f I": false, "[I length I": false,
		} {
			uses(t, ok, doing(op, "field "+s), a, b, classOf("c<b"))
		}
	}
}

func TestHouseCalls(t *testing.T) {
	for _, x := range houseCalls() {
		uses(t, true, doing("invokestatic", "method sys "+x.name+" "+x.kind))
		for _, y := range houseCalls() {
			uses(t, link.Call(x.name, y.kind) > 0, doing("invokestatic", "method sys "+x.name+" "+y.kind))
		}
		for _, s := range of("(J)V", "()J", "(I)I", "(Luser;)V", "(LObject;I)V") {
			uses(t, false, doing("invokestatic", "method sys "+x.name+" "+s))
		}
		// They are nobody else's, and no others are called so.
		uses(t, false, doing("invokestatic", "method Object "+x.name+" "+x.kind))
		uses(t, false, doing("invokestatic", "method user "+x.name+" "+x.kind))
		uses(t, false, doing("invokevirtual", "method sys "+x.name+" "+x.kind))
		uses(t, false, doing("invokespecial", "method sys "+x.name+" "+x.kind))
		uses(t, true, doing("invokestatic", "method a "+x.name+" "+x.kind), classOf("a<Object", "8 "+x.name+" "+x.kind))
	}
	for _, s := range of("Out (I)V", "main ()V", "exit ()V", "halt (I)V") {
		uses(t, false, doing("invokestatic", "method sys "+s))
	}
}

func TestStaticMethods(t *testing.T) {
	a := classOf("a<Object", "8 m ()V", "40 n (IJ)La;", "0 v ()V", "32 w (I)I", "8 m (I)V")
	b := classOf("b<a", "40 m ()V", "8 o ()J")
	for s, ok := range map[string]bool{
		"a m ()V": true, "a m (I)V": true, "a n (IJ)La;": true, "b m ()V": true, "b m (I)V": true, "b n (IJ)La;": true, "b o ()J": true, "c m ()V": true, "c n (IJ)La;": true, "c o ()J": true,
		"a o ()J": false, "a v ()V": false, "a w (I)I": false, "b v ()V": false, "c w (I)I": false, // not static
		"a m (J)V": false, "a m ()I": false, "a n (IJ)Lb;": false, "a none ()V": false, "Object m ()V": false, "Null m ()V": false,
		"none m ()V": false, "[La; m ()V": false, "[I n (IJ)La;": false, "La; m ()V": false,
	} {
		uses(t, ok, doing("invokestatic", "method "+s), a, b, classOf("c<b"))
	}
}

func TestMethods(t *testing.T) {
	a := classOf("a<Object", "0 m ()V", "32 n (IJ)La;", "8 v ()V", "40 w (I)I", "0 m (I)V")
	b := classOf("b<a", "32 m ()V", "0 o ()J")
	for _, op := range of("invokevirtual", "invokespecial") {
		for s, ok := range map[string]bool{
			"a m ()V": true, "a m (I)V": true, "a n (IJ)La;": true, "b m ()V": true, "b m (I)V": true, "b n (IJ)La;": true, "b o ()J": true, "c m ()V": true, "c n (IJ)La;": true, "c o ()J": true,
			"a o ()J": false, "a v ()V": false, "a w (I)I": false, "b v ()V": false, "c w (I)I": false, // static
			"a m (J)V": false, "a m ()I": false, "a n (IJ)Lb;": false, "a none ()V": false, "Object m ()V": false, "Null m ()V": false,
			"none m ()V": false, "[La; m ()V": false, "[I m ()V": false, "[[La; n (IJ)La;": false,
		} {
			uses(t, ok, doing(op, "method "+s), a, b, classOf("c<b"))
		}
	}
}

func TestNew(t *testing.T) {
	for _, s := range houseNames() {
		uses(t, s != "sys", doing("new", "class "+s))
	}
	for s, ok := range map[string]bool{"user": true, "a": true, "b": true, "none": false, "[I": false, "[La;": false, "[LObject;": false} {
		uses(t, ok, doing("new", "class "+s), classOf("a<b"), classOf("b<Throwable"))
	}
}

// What is static is told by its number alone, also in a class behind whose number may not be: that class is told (1) just if the one ahead finds what it names.
func TestAccessOfWhatIsFound(t *testing.T) {
	for _, access := range []int{1, 9, 16, 24, 40, 41, 48, 72, -8, 8 + 1<<32} {
		behind := has(classOf("a<Object"), field(access, "f", "I"))
		for op, number := range map[string]int{"getstatic": 0, "putstatic": 0, "getfield": 1, "putfield": 1} {
			refused(t, []api.Class{codeOf(doing(op, "field a f I")), behind}, number)
		}
		if access == 40 { // a method's may be
			continue
		}
		behind = has(classOf("a<Object"), method(access, "m", "()V"))
		for op, number := range map[string]int{"invokestatic": 0, "invokevirtual": 1, "invokespecial": 1} {
			refused(t, []api.Class{codeOf(doing(op, "method a m ()V")), behind}, number)
		}
	}
}

// Other instructions ask for no class of all classes: what is not there may be named.
func TestOthersNameWhatTheyLike(t *testing.T) {
	for _, s := range []string{
		"aconst_null 192 {class none} pop ", "aconst_null 193 {class none} pop ", "iconst_0 189 {class none} pop ", "iconst_0 189 {class sys} pop ", "aconst_null 192 {class [Lnone;} pop ",
		"19 {int 5} pop ", "20 {long 5} pop2 ",
	} {
		uses(t, true, s)
	}
	// Nor does a constant that no instruction names.
	c := classOf("c<Object", aMain)
	for _, s := range []string{"class none", "field none f I", "method a none ()V", "method sys out ()V", "field c f 1", "method c m 1"} {
		put(&c, constant(s))
	}
	fits(t, []api.Class{c})
}

// A code in which what is found stands many times, and at its end one that is not.
func TestEachInstruction(t *testing.T) {
	good := doing("getstatic", "field user s I") + doing("invokestatic", "method user use ()V") + doing("new", "class user")
	for _, bad := range []string{doing("getstatic", "field user s J"), doing("getfield", "field user s I"), doing("putfield", "field user s I"), doing("invokevirtual", "method user use ()V"), doing("invokestatic", "method user use ()I"), doing("new", "class sys")} {
		for _, ahead := range []int{0, 1, 50} {
			for _, behind := range []int{0, 1, 50} {
				text := strings.Repeat(good, ahead) + bad + strings.Repeat(good, behind)
				c := has(codeOf(text), field(api.AStatic, "s", "I"))
				refused(t, []api.Class{c}, 0)
				refused(t, []api.Class{classOf("a<Object", aMain), c}, 1)
				c = has(classOf("user<Object", aMain, "8 use ()V", "0 last ()V: "+text+"return"), field(api.AStatic, "s", "I"))
				refused(t, []api.Class{c}, 0)
			}
		}
	}
	fits(t, []api.Class{has(codeOf(strings.Repeat(good, 100)), field(api.AStatic, "s", "I"))})
}

func TestMainMethod(t *testing.T) {
	for s, ok := range map[string]bool{
		"8 main ()V": true, "40 main ()V": true, "0 main ()V": false, "32 main ()V": false, "8 main ()I": false, "8 main (I)V": false, "8 main ([LObject;)V": false, "8 Main ()V": false,
		"8 main I": false, "8 f I": false,
	} {
		l := []api.Class{classOf("a<Object", s)}
		if ok {
			fits(t, l)
			fits(t, append(l, classOf("b<Object"), classOf("c<a")))
			fits(t, []api.Class{classOf("a<Object", "0 main (I)V", "8 main ()I", s)})
			continue
		}
		refused(t, l, 0)
		refused(t, append(l, classOf("b<Object", aMain)), 0)               // in another class only
		refused(t, append(l, classOf("b<Object"), classOf("c<Object")), 0) // nowhere
	}
	refused(t, []api.Class{classOf("a<b"), classOf("b<Object", aMain)}, 0) // above the first class only
	refused(t, []api.Class{classOf("a<Object"), classOf("b<a", aMain)}, 0) // below it only
	fits(t, []api.Class{classOf("a<b", aMain), classOf("b<Object", "40 main ()V")})
}

// Which number is told: all classes are looked at ahead of the first one that is asked to be sound, and main is asked for last.
func TestOrder(t *testing.T) {
	early := []func(*api.Class){rename("1"), below("none"), field(0, "f", "V"), both(field(0, "f", "I"), field(0, "f", "J")), method(0, "main", "()V")}
	late := []func(*api.Class){wrong, unsound, func(c *api.Class) { methodOf(c, 8, "m", "()V", "new {class none} pop return") }}
	for k := range 5 {
		for j := range 5 {
			for i, f := range early {
				for _, g := range early { // two of the first part: the first one
					l := plainList(5)
					f(&l[k])
					if j != k {
						g(&l[j])
					}
					refused(t, l, min(k, j))
				}
				for _, g := range late { // one of each part: that of the first part
					l := plainList(5)
					f(&l[k])
					g(&l[j])
					l[0].Methods[0].Name = "none"
					if i < 4 || k > 0 { // but where there are no two main any more
						refused(t, l, k)
					}
				}
			}
			for _, f := range late { // two of the second part: the first one
				for _, g := range late {
					l := plainList(5)
					f(&l[k])
					if j != k {
						g(&l[j])
					}
					refused(t, l, min(k, j))
				}
			}
		}
		for _, f := range late { // no main, and one that is asked for ahead of it
			l := plainList(5)
			l[0] = classOf("c0<Object")
			refused(t, l, 0)
			f(&l[k])
			refused(t, l, k)
		}
	}
}

// The house's classes are asked for nothing: they are not in the list, and their numbers are none.
func TestHouseInTheList(t *testing.T) {
	refused(t, link.House(), 0)
	refused(t, append(plainList(2), link.House()...), 2)
}
