package value

import (
	"strconv"
	"strings"

	"corollary/api"
)

// text is the text of a valid value.
func text(v api.Value) string {
	var b strings.Builder
	var write func(v api.Value)
	writeList := func(l []api.Value) {
		b.WriteByte('(')
		for i, item := range l {
			if i > 0 {
				b.WriteString(", ")
			}
			write(item)
		}
		b.WriteByte(')')
	}
	write = func(v api.Value) {
		switch v.Kind {
		case api.Bool:
			b.WriteString(strconv.FormatBool(v.N == 1))
		case api.Int:
			b.WriteString(strconv.FormatInt(v.N, 10))
		case api.Big:
			b.WriteString(v.S + "b")
		case api.Text:
			writeQuoted(&b, v.S)
		case api.Tuple:
			writeList(v.L)
		case api.Cons:
			b.WriteString(v.S)
			if len(v.L) > 0 {
				writeList(v.L)
			}
		}
	}
	write(v)
	return b.String()
}

// writeQuoted writes a text in quotes, so that all that is written is visible.
func writeQuoted(b *strings.Builder, s string) {
	const digits = "0123456789abcdef"
	b.WriteByte('"')
	for i := range len(s) {
		switch c := s[i]; {
		case c == '"' || c == '\\':
			b.WriteByte('\\')
			b.WriteByte(c)
		case c == '\n':
			b.WriteString(`\n`)
		case c == '\t':
			b.WriteString(`\t`)
		case c < 0x20 || c > 0x7e:
			b.WriteString(`\x`)
			b.WriteByte(digits[c>>4])
			b.WriteByte(digits[c&15])
		default:
			b.WriteByte(c)
		}
	}
	b.WriteByte('"')
}
