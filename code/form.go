package code

import "corollary/api"

// sign begins the bytes of a number that is 0 or more. Those below 0 are complemented, so that they come before.
const sign = 0x80

// What a byte is combined with: its bits remain, or each becomes the other one.
const (
	plain        byte = 0x00
	complemented byte = 0xff
)

// form is how the values of a Kind are written, and read, behind the Kind.
type form struct {
	write func(v valid, b []byte) []byte
	read  func(r *Reader, levels int) api.Value
}

// formOf is the form of a Kind; of what is none it is without functions.
func formOf(kind uint8) form {
	forms := [...]form{
		api.Bool:  {valid.appendBool, (*Reader).boolean},
		api.Int:   {valid.appendInt, (*Reader).integer},
		api.Big:   {valid.appendBig, (*Reader).big},
		api.Text:  {valid.appendText, (*Reader).text},
		api.Tuple: {valid.appendTuple, (*Reader).tuple},
		api.Cons:  {valid.appendCons, (*Reader).cons},
	}
	if int(kind) >= len(forms) {
		return form{}
	}
	return forms[kind]
}
