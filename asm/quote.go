package asm

import (
	"strconv"
	"strings"
)

// Quote is a text between quotes.
func Quote(s string) string {
	var b strings.Builder
	b.WriteByte('"')
	for i := range len(s) {
		quoteByte(&b, s[i])
	}
	b.WriteByte('"')
	return b.String()
}

// quoteByte writes a byte as it stands between quotes.
func quoteByte(b *strings.Builder, c byte) {
	const digits = "0123456789abcdef"
	switch {
	case c == '"' || c == '\\':
		b.WriteByte('\\')
		b.WriteByte(c)
	case c == '\n':
		b.WriteString(`\n`)
	case ' ' <= c && c <= '~':
		b.WriteByte(c)
	default:
		b.WriteString(`\x`)
		b.WriteByte(digits[c>>4])
		b.WriteByte(digits[c&15])
	}
}

// Unquote is the text that stands between quotes.
func Unquote(s string) (string, bool) {
	if len(s) < 2 || s[0] != '"' || s[len(s)-1] != '"' {
		return "", false
	}
	var b strings.Builder
	for rest := s[1 : len(s)-1]; rest != ""; {
		c, n := meant(rest)
		if n == 0 {
			return "", false
		}
		b.WriteByte(c)
		rest = rest[n:]
	}
	return b.String(), true
}

// meant is the byte that a text between quotes begins with, and how many bytes stand for it; 0: it begins with none.
func meant(s string) (byte, int) {
	switch s[0] {
	case '"', '\n':
		return 0, 0
	case '\\':
		return escaped(s)
	}
	return s[0], 1
}

// escaped is the same of a text that begins with a backslash.
func escaped(s string) (byte, int) {
	if len(s) < 2 {
		return 0, 0
	}
	switch s[1] {
	case '"', '\\':
		return s[1], 2
	case 'n':
		return '\n', 2
	case 'x':
		return hexed(s)
	}
	return 0, 0
}

// hexed is the same of a text that begins with a backslash and an x.
func hexed(s string) (byte, int) {
	if len(s) < 4 {
		return 0, 0
	}
	n, err := strconv.ParseUint(s[2:4], 16, 8)
	if err != nil {
		return 0, 0
	}
	return byte(n), 4
}
