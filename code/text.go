package code

import (
	"strconv"
	"strings"

	"pigeonhole/api"
	"pigeonhole/term"
)

// Text is i as a text: its word, and the fields that it has, each behind a blank.
func Text(i api.Instr) string {
	f, ok := formOf(i.Op)
	if !ok {
		return "?"
	}
	var text strings.Builder
	text.WriteString(f.word)
	each(i, func(field rune) {
		text.WriteByte(' ')
		text.WriteString(fieldText(i, field))
	})
	return text.String()
}

func fieldText(i api.Instr, field rune) string {
	switch field {
	case 'A':
		return slotText(i.A)
	case 'B':
		return slotText(i.B)
	case 'C':
		return slotText(i.C)
	case 'N':
		return "#" + strconv.Itoa(i.N)
	case 'T':
		return term.Text(api.Term{Kind: api.Atom, Text: i.Text})
	case 'S':
		return rowText(i.Slots)
	}
	return "@" + strconv.Itoa(i.L)
}

func slotText(slot int) string {
	return "s" + strconv.Itoa(slot)
}

func rowText(slots []int) string {
	var text strings.Builder
	text.WriteByte('(')
	for n, slot := range slots {
		if n > 0 {
			text.WriteByte(' ')
		}
		text.WriteString(slotText(slot))
	}
	text.WriteByte(')')
	return text.String()
}
