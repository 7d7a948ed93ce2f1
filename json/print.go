package json

import (
	"strconv"
	"unicode/utf8"
)

const hexDigits = "0123456789abcdef"

// Print answers the value's text, without blanks.
func Print(v Value) string {
	return string(appendValue(nil, v))
}

// appendValue puts the value's text behind b. What is none of the chapter's
// kinds is null, as nil is: nothing is asked of it, not even its Kind.
func appendValue(b []byte, v Value) []byte {
	switch v := v.(type) {
	case Bool:
		return strconv.AppendBool(b, bool(v))
	case Number:
		return append(b, v...)
	case Text:
		return appendText(b, string(v))
	case List:
		return appendList(b, v)
	case Object:
		return appendObject(b, v)
	}
	return append(b, "null"...)
}

func appendList(b []byte, l List) []byte {
	b = append(b, '[')
	for i, v := range l {
		if i > 0 {
			b = append(b, ',')
		}
		b = appendValue(b, v)
	}
	return append(b, ']')
}

func appendObject(b []byte, o Object) []byte {
	b = append(b, '{')
	for i, m := range o {
		if i > 0 {
			b = append(b, ',')
		}
		b = append(appendText(b, m.Key), ':')
		b = appendValue(b, m.Value)
	}
	return append(b, '}')
}

// appendText puts the text between quotation marks. The range gives U+FFFD for
// a byte that is no UTF-8, which is what is to be written for it.
func appendText(b []byte, s string) []byte {
	b = append(b, '"')
	for _, r := range s {
		switch {
		case r == '"' || r == '\\':
			b = append(b, '\\', byte(r))
		case r < ' ':
			b = append(b, `\u00`...)
			b = append(b, hexDigits[r>>4], hexDigits[r&15])
		default:
			b = utf8.AppendRune(b, r)
		}
	}
	return append(b, '"')
}
