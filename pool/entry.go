package pool

import "larch/api"

// A text's greatest length, and the least and the greatest byte that it may have.
const (
	maxText   = 255
	leastByte = 33
	mostByte  = 126
)

// isRight holds if entry i of l is as it is in a right pool.
func isRight(l []api.Entry, i int) bool {
	x := l[i]
	if isGap(l, i) {
		return x == api.Entry{}
	}
	return x.Tag != 0 && x == just(x) && isText(x.Text) && leadsRight(l, x) && fits(x.Tag, x.N) && hasRoom(l, i)
}

// isGap holds for the numbers that zero entries have.
func isGap(l []api.Entry, i int) bool { return i == 0 || l[i-1].Tag == api.TLong }

// numbers answers how many numbers an entry takes.
func numbers(tag int) int {
	if tag == api.TLong {
		return 2
	}
	return 1
}

// hasRoom holds if all numbers that entry i takes are numbers of l.
func hasRoom(l []api.Entry, i int) bool { return i+numbers(l[i].Tag) <= len(l) }

// just answers what x has of all that an entry with its tag may have; of a tag that there is none of, nothing.
func just(x api.Entry) api.Entry {
	own := api.Entry{Tag: x.Tag}
	switch x.Tag {
	case api.TUtf8:
		own.Text = x.Text
	case api.TInt, api.TLong:
		own.N = x.N
	case api.TField, api.TMethod, api.TName:
		own.B = x.B
		fallthrough
	case api.TClass:
		own.A = x.A
	default:
		return api.Entry{}
	}
	return own
}

// leadsRight holds if x points to entries of just the tags that it must point to.
func leadsRight(l []api.Entry, x api.Entry) bool {
	switch x.Tag {
	case api.TField, api.TMethod:
		return tagAt(l, x.A) == api.TClass && tagAt(l, x.B) == api.TName
	case api.TName:
		if tagAt(l, x.B) != api.TUtf8 {
			return false
		}
		fallthrough
	case api.TClass:
		return tagAt(l, x.A) == api.TUtf8
	}
	return true
}

// tagAt answers the tag of entry i, 0 if there is no such entry.
func tagAt(l []api.Entry, i int) int {
	if i < 0 || i >= len(l) {
		return 0
	}
	return l[i].Tag
}

// isText holds for texts that an entry can have.
func isText(s string) bool {
	if len(s) > maxText {
		return false
	}
	for i := range len(s) {
		if s[i] < leastByte || s[i] > mostByte {
			return false
		}
	}
	return true
}

// fits holds if an entry with that tag has bytes enough for n.
func fits(tag, n int) bool { return tag != api.TInt || int(int32(n)) == n }
