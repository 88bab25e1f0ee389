package term

import (
	"strconv"
	"strings"

	"pigeonhole/api"
	"pigeonhole/whole"
)

// reserved words: atoms of these texts are not plain.
var reserved = []string{
	"after", "and", "andalso", "begin", "case", "div", "end", "fun", "if", "not",
	"of", "or", "orelse", "receive", "rem", "try", "catch", "when", "xor",
}

// Text is t as it is written; nothing, if it is not right.
func Text(t api.Term) string {
	if !Right(t) {
		return ""
	}
	var out strings.Builder
	put := func(parts ...string) {
		for _, part := range parts {
			out.WriteString(part)
		}
	}
	var write func(t api.Term)
	row := func(items []api.Term) {
		for i, item := range items {
			if i > 0 {
				put(",")
			}
			write(item)
		}
	}
	write = func(t api.Term) {
		switch t.Kind {
		case api.Int:
			put(whole.Text(t))
		case api.Atom:
			put(atomText(t.Text))
		case api.Ref:
			put("#Ref<", strconv.Itoa(t.Num), ">")
		case api.Fun:
			put("#Fun<", strconv.Itoa(t.Num), ">")
		case api.Pid:
			put("<", strconv.Itoa(t.Num), ">")
		case api.Tuple:
			put("{")
			row(t.Items)
			put("}")
		case api.List:
			put("[")
			row(t.Items)
			if len(t.Tail) > 0 {
				put("|")
				write(t.Tail[0])
			}
			put("]")
		}
	}
	write(t)
	return out.String()
}

func atomText(s string) string {
	if plain(s) {
		return s
	}
	var out strings.Builder
	out.WriteByte('\'')
	for i := range len(s) {
		out.WriteString(byteText(s[i]))
	}
	out.WriteByte('\'')
	return out.String()
}

// plain says whether an atom of these bytes needs no quotes.
func plain(s string) bool {
	if s == "" || !isLower(s[0]) {
		return false
	}
	for i := range len(s) {
		if !inName(s[i]) {
			return false
		}
	}
	for _, word := range reserved {
		if s == word {
			return false
		}
	}
	return true
}

func isLower(c byte) bool {
	return 'a' <= c && c <= 'z'
}

func inName(c byte) bool {
	return isLower(c) || 'A' <= c && c <= 'Z' || '0' <= c && c <= '9' || c == '_' || c == '@'
}

// byteText is c as it stands between quotes.
func byteText(c byte) string {
	const digits = "0123456789abcdef"
	switch {
	case c == '\\' || c == '\'':
		return string([]byte{'\\', c})
	case c == '\n':
		return `\n`
	case c < 32 || c > 126:
		return string([]byte{'\\', 'x', digits[c>>4], digits[c&15]})
	default:
		return string([]byte{c})
	}
}
