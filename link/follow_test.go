package link_test

import (
	"math/rand"
	"slices"
	"strconv"
	"testing"

	"larch/api"
	"larch/code"
	"larch/link"
	"larch/pool"
)

// Tests of what follows: 13.3 to 13.6, with lists that are made at random, and of what programs tell, with each of them.

// pick answers one of a list.
func pick[T any](r *rand.Rand, l []T) T { return l[r.Intn(len(l))] }

// growing is a list that is made at random.
type growing struct {
	*rand.Rand
	list   []api.Class
	static map[string]bool // by names and types: whether methods of that name and type are static
	fault  int             // one in so many is left to chance
}

// chance holds now and then.
func (g *growing) chance() bool { return g.Intn(g.fault) == 0 }

// frame makes the classes, with their supers alone.
func (g *growing) frame(n int) {
	names := g.Perm(n)
	for k := range n {
		super := "Object"
		switch {
		case g.chance():
			super = pick(g.Rand, of("", "none", "sys", "c"+strconv.Itoa(g.Intn(n))))
		case k > 0 && g.Intn(4) > 0:
			super = g.list[g.Intn(k)].Name
		case g.Intn(3) == 0:
			super = pick(g.Rand, houseNames()[:9])
		}
		name := "c" + strconv.Itoa(names[k])
		if g.chance() {
			name = pick(g.Rand, append(houseNames(), "", "1", "c0", "c1"))
		}
		g.list = append(g.list, classOf(name+"<"+super))
	}
	g.Shuffle(n, func(i, k int) { g.list[i], g.list[k] = g.list[k], g.list[i] })
}

// members puts fields and methods into a class, all of them with plain codes.
func (g *growing) members(c *api.Class) {
	met := map[string]bool{}
	for range g.Intn(5) {
		name := pick(g.Rand, of("f", "g", "h", "k"))
		if !met[name] || g.chance() {
			fieldOf(c, pick(g.Rand, []int{0, 8}), name, pick(g.Rand, of("I", "J", "LObject;", "Lc0;", "[I", "[Lc1;")))
		}
		met[name] = true
	}
	for range g.Intn(5) {
		name, desc := pick(g.Rand, of("m", "n", "o")), pick(g.Rand, of("()V", "(I)I", "(JLc0;)J"))
		if !met[name+desc] || g.chance() {
			access := pick(g.Rand, []int{0, 32})
			if g.static[name+desc] != g.chance() {
				access = pick(g.Rand, []int{8, 40})
			}
			methodOf(c, access, name, desc, "")
		}
		met[name+desc] = true
	}
}

// named makes a constant for an instruction, most often one of what is found.
func (g *growing) named(op string) string {
	all := plainAll(g.list)
	class := pick(g.Rand, all)
	if class.Name == "" || g.chance() { // texts of constants have no empty names
		class.Name = pick(g.Rand, of("none", "sys", "[I", "[Lc0;"))
	}
	switch op {
	case "new":
		if class.Name == "sys" && !g.chance() {
			return "class Object"
		}
		return "class " + class.Name
	case "getstatic", "putstatic", "getfield", "putfield":
		return g.field(all, class.Name, op[3:] == "static")
	}
	return g.method(all, class.Name, op == "invokestatic")
}

// field makes a field's constant.
func (g *growing) field(all []api.Class, class string, static bool) string {
	for range 20 {
		name := pick(g.Rand, of("f", "g", "h", "k"))
		if at, k := plainField(all, class, name); at >= 0 {
			f := all[at].Fields[k]
			if plainStaticField(f) == static || g.chance() {
				return "field " + class + " " + name + " " + f.Type
			}
		}
	}
	if g.chance() {
		return "field " + class + " f I"
	}
	return ""
}

// method makes a method's constant.
func (g *growing) method(all []api.Class, class string, static bool) string {
	if static && (class == "sys" || g.Intn(4) == 0) {
		x := pick(g.Rand, houseCalls())
		if g.chance() {
			x.kind = "()V"
		}
		return "method sys " + x.name + " " + x.kind
	}
	for range 20 {
		name, desc := pick(g.Rand, of("m", "n", "o")), pick(g.Rand, of("()V", "(I)I", "(JLc0;)J"))
		if at, k := plainMethod(all, class, name, desc); at >= 0 && plainStaticMethod(all[at].Methods[k]) == static {
			return "method " + class + " " + name + " " + desc
		}
	}
	if g.chance() {
		return "method " + class + " m ()V"
	}
	return ""
}

// calls puts a method into a class that does some instructions with constants.
func (g *growing) calls(c *api.Class) {
	text := ""
	for range g.Intn(6) {
		op := pick(g.Rand, of("getstatic", "putstatic", "getfield", "putfield", "invokevirtual", "invokespecial", "invokestatic", "new"))
		if s := g.named(op); s != "" {
			text += doing(op, s)
		}
	}
	if g.Intn(20) == 0 && g.chance() {
		text += "pop "
	}
	methodOf(c, pick(g.Rand, []int{0, 8}), "calls"+c.Name, "()V", text+"return")
}

// randomList makes a list, most often one that fits together if fault is great.
func randomList(r *rand.Rand, fault int) []api.Class {
	g := &growing{Rand: r, static: map[string]bool{}, fault: fault}
	for _, name := range of("m", "n", "o") {
		for _, desc := range of("()V", "(I)I", "(JLc0;)J") {
			g.static[name+desc] = r.Intn(2) == 0
		}
	}
	g.frame(1 + r.Intn(7))
	for k := range g.list {
		g.members(&g.list[k])
	}
	if !g.chance() {
		methodOf(&g.list[0], 8, "main", "()V", "")
	}
	for k := range g.list {
		g.calls(&g.list[k])
	}
	return g.list
}

// holds holds all that a program tells against the plain reading.
func holds(t *testing.T, p *link.Program, all []api.Class) {
	t.Helper()
	same(t, "Statics", p.Statics(), plainStatics(all))
	names := of("", "none", "[I")
	for _, c := range all {
		names = append(names, c.Name)
	}
	for _, class := range names {
		if at := p.Place(class); at != plainPlace(all, class) {
			t.Fatalf("%s: Place(%s): %d", told(all), class, at)
		}
		same(t, "Fields("+class+")", p.Fields(class), plainFields(all, class))
		same(t, "Zeros("+class+")", p.Zeros(class), plainZeros(all, class))
		for _, name := range of("f", "g", "h", "k", "s", "t", "m") {
			for _, static := range []bool{false, true} {
				if got, want := p.Slot(class, name, static), plainSlot(all, class, name, static); got != want {
					t.Fatalf("%s: Slot(%s, %s, %v): %d, want %d", told(all), class, name, static, got, want)
				}
			}
		}
		for _, name := range of("m", "n", "o", "main", "f") {
			for _, desc := range of("()V", "(I)I", "(J)V", "(JLc0;)J", "I") {
				at, k := p.Find(class, name, desc)
				if i, j := plainMethod(all, class, name, desc); at != i || k != j {
					t.Fatalf("%s: Find(%s, %s, %s): %d %d, want %d %d", told(all), class, name, desc, at, k, i, j)
				}
			}
		}
	}
}

// fitting calls with lists that fit together, and their programs.
func fitting(t *testing.T, seed int64, n int, f func(r *rand.Rand, l []api.Class, p *link.Program)) {
	r := rand.New(rand.NewSource(seed))
	done := 0
	for range n {
		l := randomList(r, 400)
		if p, _, e := makes(t, l); e == api.OK {
			f(r, l, p)
			done++
		}
	}
	if done < n/2 {
		t.Errorf("just %d of %d lists fit together", done, n)
	}
}

func TestRandomLists(t *testing.T) {
	r := rand.New(rand.NewSource(131))
	fit, not, numbers := 0, 0, map[int]int{}
	for k := range 6000 {
		l := randomList(r, []int{8, 40, 200, 1000}[k%4])
		p, n, e := makes(t, l)
		if e == api.OK {
			fit++
			holds(t, p, plainAll(l))
		} else {
			not++
			numbers[n]++
		}
	}
	if fit < 1000 || not < 1000 || len(numbers) < 5 {
		t.Errorf("%d fit, %d do not, with %v", fit, not, numbers)
	}
}

// ups is the names of the classes above a class.
func ups(all []api.Class, name string) []string {
	var l []string
	for _, at := range plainWay(all, name)[1:] {
		l = append(l, all[at].Name)
	}
	return l
}

// 13.3.
func TestFieldsAboveComeFirst(t *testing.T) {
	some := 0
	fitting(t, 133, 1000, func(r *rand.Rand, l []api.Class, p *link.Program) {
		all := p.All()
		for _, c := range all {
			own := p.Fields(c.Name)
			for _, up := range ups(all, c.Name) {
				ahead := p.Fields(up)
				if len(ahead) > len(own) || !slices.Equal(ahead, own[:len(ahead)]) {
					t.Fatalf("%s: the fields of %s are %v, those of %s %v", told(l), up, ahead, c.Name, own)
				}
				some += len(ahead)
			}
			zeros := p.Zeros(c.Name)
			if len(zeros) != len(own) {
				t.Fatalf("%s: %d fields, %d zeros", told(l), len(own), len(zeros))
			}
		}
	})
	if some < 1000 {
		t.Errorf("just %d fields", some)
	}
}

// 13.4.
func TestWhatIsFoundAbove(t *testing.T) {
	found, hidden := 0, 0
	fitting(t, 134, 1000, func(r *rand.Rand, l []api.Class, p *link.Program) {
		all := p.All()
		for _, c := range all {
			way := []string{c.Name}
			for _, up := range ups(all, c.Name) {
				for _, m := range all[p.Place(up)].Methods {
					at, k := p.Find(up, m.Name, m.Type)
					i, j := p.Find(c.Name, m.Name, m.Type)
					switch {
					case at == i && k == j:
						found++
					case i >= 0 && slices.Contains(way, all[i].Name):
						hidden++
					default:
						t.Fatalf("%s: %s of %s is found in %s, but not in %s", told(l), m.Name, m.Type, up, c.Name)
					}
					if isStatic(all[i].Methods[j].Access) != isStatic(m.Access) {
						t.Fatalf("%s: %s is static in just one of %s and %s", told(l), m.Name, up, c.Name)
					}
				}
				for _, f := range all[p.Place(up)].Fields {
					above, here := p.Slot(up, f.Name, f.Access == 8), p.Slot(c.Name, f.Name, f.Access == 8)
					other := p.Slot(c.Name, f.Name, f.Access != 8)
					hides := slices.ContainsFunc(way, func(s string) bool {
						return slices.ContainsFunc(all[p.Place(s)].Fields, func(g api.Field) bool { return g.Name == f.Name })
					})
					if above < 0 || !hides && here != above || hides && here == above || hides && here < 0 && other < 0 {
						t.Fatalf("%s: field %s is at %d in %s, at %d or %d in %s", told(l), f.Name, above, up, here, other, c.Name)
					}
				}
				way = append(way, up)
			}
		}
	})
	if found < 1000 || hidden < 1000 {
		t.Errorf("just %d were found, %d hidden", found, hidden)
	}
}

// leads holds if what an instruction names is found by what a program tells.
func leads(p *link.Program, all []api.Class, op int, x api.Const) bool {
	switch op {
	case 178, 179:
		k := p.Slot(x.Class, x.Name, true)
		return k >= 0 && k < len(p.Statics()) && p.Statics()[k].Name == x.Name && p.Statics()[k].Type == x.Type
	case 180, 181:
		k, l := p.Slot(x.Class, x.Name, false), p.Fields(x.Class)
		return k >= 0 && k < len(l) && l[k].Name == x.Name && l[k].Type == x.Type
	case 184:
		if x.Class == "sys" {
			return link.Call(x.Name, x.Type) > 0
		}
		fallthrough
	case 182, 183:
		at, k := p.Find(x.Class, x.Name, x.Type)
		m, e := p.Method(at, k)
		return e == api.OK && m.Name == x.Name && m.Type == x.Type && isStatic(m.Access) == (op == 184)
	case 187:
		return p.Place(x.Class) >= 0 && x.Class != "sys"
	}
	return true
}

// 13.5, by what the program tells alone.
func TestEachCallFinds(t *testing.T) {
	ops := map[int]int{}
	fitting(t, 135, 1500, func(r *rand.Rand, l []api.Class, p *link.Program) {
		all := p.All()
		for at, c := range all {
			for _, m := range c.Methods {
				instrs, _ := code.Decode(m.Code.Bytes)
				for _, i := range instrs {
					if i.Op < 178 || i.Op > 187 {
						continue
					}
					x, e := p.Const(at, i.A)
					if want, _ := pool.Const(c.Pool, i.A); e != api.OK || x != want || !leads(p, all, i.Op, x) {
						t.Fatalf("%s: %d of %v finds nothing", told(l), i.Op, x)
					}
					ops[i.Op]++
				}
			}
		}
		// And what is called in a class may be called in each one below it.
		for _, c := range all {
			for _, up := range ups(all, c.Name) {
				for _, m := range all[p.Place(up)].Methods {
					if at, _ := p.Find(c.Name, m.Name, m.Type); at < 0 {
						t.Fatalf("%s: %s of %s is not found in %s", told(l), m.Name, up, c.Name)
					}
				}
			}
		}
	})
	for _, op := range []int{178, 179, 180, 181, 182, 183, 184, 187} {
		if ops[op] < 50 {
			t.Errorf("just %d of %d", ops[op], op)
		}
	}
}

// 13.6.
func TestOneMoreBehind(t *testing.T) {
	fitting(t, 136, 1000, func(r *rand.Rand, l []api.Class, p *link.Program) {
		g := &growing{Rand: r, list: slices.Clone(l), static: map[string]bool{}, fault: 1 << 40}
		more := classOf("more<" + pick(r, plainAll(l)).Name)
		if more.Super == "sys" {
			more = classOf("more<Object")
		}
		fieldOf(&more, pick(r, []int{0, 8}), "f", "Lmore;")
		g.list = append(g.list, more)
		g.calls(&g.list[len(l)])
		q := fits(t, g.list)
		same(t, "the statics", q.Statics()[:len(p.Statics())], p.Statics())
		for k, c := range p.All() {
			if q.Place(c.Name) != k || p.Place(c.Name) != k {
				t.Fatalf("%s: %s is at %d, then at %d", told(l), c.Name, p.Place(c.Name), q.Place(c.Name))
			}
			same(t, "the fields", q.Fields(c.Name), p.Fields(c.Name))
			for _, m := range c.Methods {
				at, k := p.Find(c.Name, m.Name, m.Type)
				if i, j := q.Find(c.Name, m.Name, m.Type); i != at || j != k {
					t.Fatalf("%s: %s is at %d %d, then at %d %d", told(l), m.Name, at, k, i, j)
				}
			}
			for _, f := range c.Fields {
				if at := p.Slot(c.Name, f.Name, f.Access == 8); at < 0 || at != q.Slot(c.Name, f.Name, f.Access == 8) {
					t.Fatalf("%s: %s is at %d", told(l), f.Name, at)
				}
			}
		}
		// Not with a name twice, and not with one more that does not fit.
		refused(t, append(slices.Clone(l), pick(r, l)), len(l))
		refused(t, append(slices.Clone(l), classOf(pick(r, houseNames())+"<Object")), len(l))
		for _, bad := range []func(*api.Class){below("none"), below("sys"), below("more"), field(0, "f", "I"), field(0, "g", "V"), unsound, wrong} {
			refused(t, append(slices.Clone(l), has(more, bad)), len(l))
		}
	})
	// Up to as many as there may be.
	var l []api.Class
	for _, c := range plainList(api.MaxClasses) {
		l = append(l, c)
		fits(t, l)
	}
	refused(t, append(l, classOf("more<Object")), 0)
}

// P1: whatever the list, Make answers, and tells a number of it.
func TestWhateverTheList(t *testing.T) {
	r := rand.New(rand.NewSource(137))
	for range 3000 {
		l := randomList(r, 300)
		for range 1 + r.Intn(3) {
			spoil(r, l)
		}
		if p, n, e := makes(t, l); e == api.OK {
			holds(t, p, plainAll(l))
		} else if n < 0 || n >= len(l) {
			t.Fatalf("%s: %d %v", told(l), n, e)
		}
	}
}

// spoil changes something of a list, whatever comes of it.
func spoil(r *rand.Rand, l []api.Class) {
	c := &l[r.Intn(len(l))]
	switch r.Intn(8) {
	case 0:
		c.Name = pick(r, append(houseNames(), "", "c0", "c1", "c2", "é"))
	case 1:
		c.Super = pick(r, append(houseNames(), "", "c0", "c1", "c2", "é"))
	case 2:
		if len(c.Pool) > 0 {
			c.Pool[r.Intn(len(c.Pool))] = api.Entry{Tag: r.Intn(14) - 1, A: r.Intn(9) - 1, B: r.Intn(9) - 1}
		}
	case 3:
		c.Pool = c.Pool[:r.Intn(len(c.Pool)+1)]
	case 4:
		if len(c.Methods) > 0 {
			m := &c.Methods[r.Intn(len(c.Methods))]
			m.Access, m.Type = r.Intn(50)-1, pick(r, of("()V", "(I)I", "I", ""))
		}
	case 5:
		if len(c.Methods) > 0 {
			if b := c.Methods[r.Intn(len(c.Methods))].Code.Bytes; len(b) > 0 {
				b[r.Intn(len(b))] = byte(r.Intn(256))
			}
		}
	case 6:
		c.Fields = append(c.Fields, api.Field{Access: r.Intn(50) - 1, Name: pick(r, of("f", "g", "")), Type: pick(r, of("I", "V", ""))})
	case 7:
		c.Methods = append(c.Methods, api.Method{Access: r.Intn(50) - 1, Name: pick(r, of("m", "main", "")), Type: pick(r, of("()V", "(I)I", ""))})
	}
}
