package class

import "larch/api"

// The texts by which a method's code and its maps are told.
const (
	codeText = "Code"
	mapsText = "StackMapTable"
)

// names is a right pool, with the numbers of its texts and its classes. Entry 0 is neither, so 0 is the number of one that
// is not there.
type names struct {
	pool    []api.Entry
	texts   map[string]int
	classes map[string]int
}

// namesOf answers the names of a right pool.
func namesOf(l []api.Entry) *names {
	n := &names{l, map[string]int{}, map[string]int{}}
	// From the end on, so that of entries that are the same the first one's number stays.
	for i := len(l) - 1; i > 0; i-- {
		switch x := l[i]; x.Tag {
		case api.TUtf8:
			n.texts[x.Text] = i
		case api.TClass:
			n.classes[l[x.A].Text] = i
		}
	}
	return n
}

// hasTexts holds if each of these texts is there.
func (n *names) hasTexts(l ...string) bool {
	for _, s := range l {
		if n.texts[s] == 0 {
			return false
		}
	}
	return true
}

// hasClass holds if the class of that name is there.
func (n *names) hasClass(name string) bool { return n.classes[name] != 0 }

// tagAt answers the tag of entry i, 0 if there is no such entry.
func tagAt(l []api.Entry, i int) int {
	if i < 0 || i >= len(l) {
		return 0
	}
	return l[i].Tag
}
