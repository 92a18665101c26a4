package kind

import (
	"strings"

	"larch/api"
)

func letter(c byte) bool {
	return 'a' <= c && c <= 'z' || 'A' <= c && c <= 'Z'
}

func inName(c byte) bool {
	return letter(c) || '0' <= c && c <= '9' || c == '_' || c == '$' || c == '/'
}

func array(name string) bool {
	return strings.HasPrefix(name, "[")
}

// size answers how many bytes the descriptor takes that s begins with, 0 if it begins with none.
func size(s string) int {
	deep := 0
	for deep < len(s) && s[deep] == '[' {
		deep++
	}
	if deep > mostDeep {
		return 0
	}
	inner := innerSize(s[deep:], deep > 0)
	if inner == 0 {
		return 0
	}
	return deep + inner
}

// innerSize is size without arrays; bytes are there inside of an array alone.
func innerSize(s string, inArray bool) int {
	if s == "" {
		return 0
	}
	switch s[0] {
	case 'I', 'J':
		return 1
	case 'B':
		if inArray {
			return 1
		}
	case 'L':
		end := strings.IndexByte(s, ';')
		if end > 0 && Class(s[1:end]) {
			return end + 1
		}
	}
	return 0
}

// typeOf is the type of what is known to be a descriptor.
func typeOf(s string) api.Type {
	switch s[0] {
	case 'I':
		return api.Type{Kind: api.KInt}
	case 'J':
		return api.Type{Kind: api.KLong}
	case 'L':
		return api.Type{Kind: api.KRef, Name: s[1 : len(s)-1]}
	}
	return api.Type{Kind: api.KRef, Name: s}
}

// spelt is the descriptor that x has, if it has one.
func spelt(x api.Type) string {
	switch {
	case x.Kind == api.KInt:
		return "I"
	case x.Kind == api.KLong:
		return "J"
	case x.Kind == api.KRef && array(x.Name):
		return x.Name
	case x.Kind == api.KRef:
		return "L" + x.Name + ";"
	}
	return ""
}

// arguments answers the types of the descriptors behind the ( that s begins with, and what follows behind them: nothing, if there was no ( .
func arguments(s string) (args []api.Type, rest string) {
	rest, open := strings.CutPrefix(s, "(")
	if !open {
		return nil, ""
	}
	for n := size(rest); n > 0; n = size(rest) {
		args = append(args, typeOf(rest[:n]))
		rest = rest[n:]
	}
	return args, rest
}

// answer is the type of what a method answers, told by what stands behind its arguments.
func answer(s string) (api.Type, api.Errno) {
	back, closed := strings.CutPrefix(s, ")")
	if !closed {
		return api.Type{}, api.ErrType
	}
	if back == "V" {
		return api.Type{}, api.OK
	}
	return Parse(back)
}
