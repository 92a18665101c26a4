package link

import (
	"slices"

	"larch/api"
)

// Names of the house's classes.
const (
	object    = "Object"
	throwable = "Throwable"
	sys       = "sys"
)

// House answers the house's classes.
func House() []api.Class {
	return []api.Class{
		{Name: object},
		{Name: throwable, Super: object},
		{Name: "Arithmetic", Super: throwable},
		{Name: "Null", Super: throwable},
		{Name: "Index", Super: throwable},
		{Name: "Negative", Super: throwable},
		{Name: "Cast", Super: throwable},
		{Name: "Store", Super: throwable},
		{Name: "Monitor", Super: throwable},
		{Name: sys, Super: object},
	}
}

// Call answers the number of a house's call, 0 if there is none.
func Call(name, kind string) int {
	type call struct{ name, kind string }
	calls := []call{
		{"out", "(I)V"},
		{"in", "()I"},
		{"spawn", "(LObject;)V"},
		{"wait", "(LObject;)V"},
		{"notify", "(LObject;)V"},
		{"yield", "()V"},
	}
	return slices.Index(calls, call{name, kind}) + 1
}
