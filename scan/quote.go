package scan

import "pigeonhole/api"

// maxText is how many bytes a text has at most, each escape counting as one.
const maxText = 400

// escapes are those of one byte behind the \, and what they say.
var escapes = [...]struct{ letter, says byte }{
	{'n', '\n'}, {'t', '\t'}, {'\\', '\\'}, {'\'', '\''}, {'"', '"'},
}

// readQuoted is the token that stands between the quote that s begins with and the next such one.
func readQuoted(s string, kind api.TokenKind, most int) found {
	var text []byte
	at := 1
	for at < len(s) && s[at] != s[0] {
		c, size := readInside(s[at:])
		if size == 0 {
			return found{err: api.ErrToken}
		}
		text = append(text, c)
		at += size
	}
	if at == len(s) || len(text) > most {
		return found{err: api.ErrToken}
	}
	return found{kind: kind, text: string(text), size: at + 1}
}

// readInside is the byte that s begins with, as it is said between quotes, and how many bytes say it: 0, if it may not stand there.
func readInside(s string) (byte, int) {
	switch {
	case s[0] < ' ':
		return 0, 0
	case s[0] == '\\':
		return readEscape(s)
	default:
		return s[0], 1
	}
}

// readEscape is the byte that the escape at the beginning of s says, and its size: 0, if there is none.
func readEscape(s string) (byte, int) {
	if len(s) < 2 {
		return 0, 0
	}
	for _, escape := range escapes {
		if escape.letter == s[1] {
			return escape.says, 2
		}
	}
	if s[1] != 'x' || len(s) < 4 {
		return 0, 0
	}
	high, low := hexValue(s[2]), hexValue(s[3])
	if high > 15 || low > 15 {
		return 0, 0
	}
	return high<<4 | low, 4
}

// hexValue is what a digit in base 16 says; above 15, if c is none.
func hexValue(c byte) byte {
	switch {
	case isDigit(c):
		return c - '0'
	case 'a' <= c && c <= 'f':
		return c - 'a' + 10
	case 'A' <= c && c <= 'F':
		return c - 'A' + 10
	default:
		return 255
	}
}
