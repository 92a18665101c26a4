package pool

import (
	"slices"

	"larch/api"
)

// meaning answers what x, an entry of the right pool l, means; a TName, which is no constant, has its two texts.
func meaning(l []api.Entry, x api.Entry) api.Const {
	c := api.Const{Tag: x.Tag}
	switch x.Tag {
	case api.TInt, api.TLong:
		c.N = x.N
	case api.TClass:
		c.Class = l[x.A].Text
	case api.TField, api.TMethod:
		c.Class = l[l[x.A].A].Text
		x = l[x.B]
		fallthrough
	case api.TName:
		c.Name, c.Type = l[x.A].Text, l[x.B].Text
	}
	return c
}

// canMean holds for the constants that an entry of some right pool means.
func canMean(c api.Const) bool {
	own := api.Const{Tag: c.Tag}
	switch c.Tag {
	case api.TInt, api.TLong:
		own.N = c.N
	case api.TField, api.TMethod:
		own.Name, own.Type = c.Name, c.Type
		fallthrough
	case api.TClass:
		own.Class = c.Class
	default:
		return false
	}
	return c == own && fits(c.Tag, c.N) && isText(c.Class) && isText(c.Name) && isText(c.Type)
}

// growing is a right pool that entries are put behind, with the first number of each of its texts.
type growing struct {
	entries []api.Entry
	texts   map[string]int
}

// growingFrom answers a pool of its own with the entries of l.
func growingFrom(l []api.Entry) *growing {
	g := &growing{slices.Clone(l), map[string]int{}}
	for i, x := range l {
		if _, there := g.texts[x.Text]; x.Tag == api.TUtf8 && !there {
			g.texts[x.Text] = i
		}
	}
	return g
}

// number answers the first number that means c; if there is none, c is put behind, with what it needs and is not there.
func (g *growing) number(c api.Const) int {
	for i, x := range g.entries {
		if meaning(g.entries, x) == c {
			return i
		}
	}
	x := api.Entry{Tag: c.Tag, N: c.N}
	switch c.Tag {
	case api.TClass:
		x.A = g.text(c.Class)
	case api.TName:
		x.A = g.text(c.Name)
		x.B = g.text(c.Type)
	case api.TField, api.TMethod:
		x.A = g.number(api.Const{Tag: api.TClass, Class: c.Class})
		x.B = g.number(api.Const{Tag: api.TName, Name: c.Name, Type: c.Type})
	}
	return g.put(x)
}

// text answers the first number of a text, which is put behind if it is not there.
func (g *growing) text(s string) int {
	i, there := g.texts[s]
	if !there {
		i = g.put(api.Entry{Tag: api.TUtf8, Text: s})
		g.texts[s] = i
	}
	return i
}

// put puts an entry behind, with the zero entry of a second number, and answers its number.
func (g *growing) put(x api.Entry) int {
	i := len(g.entries)
	g.entries = append(g.entries, x)
	if numbers(x.Tag) > 1 {
		g.entries = append(g.entries, api.Entry{})
	}
	return i
}
