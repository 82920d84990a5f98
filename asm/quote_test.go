package asm

import (
	"fmt"
	"math/rand"
	"strings"
	"testing"
)

// quotes is Quote by the chapter's words.
func quotes(s string) string {
	out := "\""
	for _, c := range []byte(s) {
		switch {
		case c == 0x22:
			out += "\\\""
		case c == 0x5c:
			out += "\\\\"
		case c == 0x0a:
			out += "\\n"
		case c >= 0x20 && c <= 0x7e:
			out += string([]byte{c})
		default:
			out += fmt.Sprintf("\\x%02x", c)
		}
	}
	return out + "\""
}

// asUnquoted asks that Unquote is what the chapter's words say.
func asUnquoted(t *testing.T, s string) {
	t.Helper()
	got, ok := Unquote(s)
	if want, right := unquoted(s); got != want || ok != right {
		t.Fatalf("Unquote(%q) is %q, %v and not %q, %v", s, got, ok, want, right)
	}
}

func TestQuoteExamples(t *testing.T) {
	if q := Quote("a\"b\\\n\t\xff"); q != `"a\"b\\\n\x09\xff"` {
		t.Error(q)
	}
	for _, c := range []struct {
		s, want string
		ok      bool
	}{
		{`"\x4A\x4b"`, "JK", true}, {`"a`, "", false}, {`""`, "", true}, {`"\t"`, "", false}, {`"a"b"`, "", false},
		{``, "", false}, {`"`, "", false}, {`a"`, "", false}, {`'a'`, "", false}, {` "a"`, "", false}, {`"a" `, "", false},
		{`"\"`, "", false}, {`"\\"`, `\`, true}, {`"\""`, `"`, true}, {`"\"""`, "", false}, {`"\n"`, "\n", true}, {`"\N"`, "", false},
		{`"\x"`, "", false}, {`"\x4"`, "", false}, {`"\x4g"`, "", false}, {`"\xg4"`, "", false}, {`"\X41"`, "", false}, {`"\x041"`, "\x041", true},
		{`"\xfF\xAa"`, "\xff\xaa", true}, {`"\x+1"`, "", false}, {`"\x_1"`, "", false}, {`"\x1_"`, "", false}, {`"\x-0"`, "", false}, {`"\x 1"`, "", false}, {`"\x0x"`, "", false},
		{`"\u0041"`, "", false}, {`"\101"`, "", false}, {`"\'"`, "", false}, {"\"a\nb\"", "", false}, {"\"\\\n\"", "", false},
		{"\"é\xff\r\t\x00 #\"", "é\xff\r\t\x00 #", true},
	} {
		if got, ok := Unquote(c.s); got != c.want || ok != c.ok {
			t.Errorf("Unquote(%q) = %q, %v", c.s, got, ok)
		}
		asUnquoted(t, c.s)
	}
}

// P11.2, P11.4: there and back, of every byte by itself, between two others and ahead of digits.
func TestQuoteBytes(t *testing.T) {
	for c := range 256 {
		for _, s := range []string{string([]byte{byte(c)}), string([]byte{'a', byte(c), '0', 'f'}), string([]byte{byte(c), byte(c)})} {
			thereAndBack(t, s)
		}
		asUnquoted(t, string([]byte{'"', byte(c), '"'}))
		asUnquoted(t, string([]byte{'"', '\\', byte(c), '"'}))
		asUnquoted(t, string([]byte{'"', '\\', 'x', byte(c), '1', '"'}))
		asUnquoted(t, string([]byte{'"', '\\', 'x', '1', byte(c), '"'}))
		asUnquoted(t, string([]byte{byte(c), 'a', '"'}))
		asUnquoted(t, string([]byte{'"', 'a', byte(c)}))
	}
}

// thereAndBack asks that a text is quoted as it must be, and read back.
func thereAndBack(t *testing.T, s string) {
	t.Helper()
	q := Quote(s)
	if q != quotes(s) {
		t.Fatalf("Quote(%q) is %s", s, q)
	}
	if back, ok := Unquote(q); back != s || !ok {
		t.Fatalf("%q comes back as %q, %v", s, back, ok)
	}
	if strings.IndexFunc(q, func(r rune) bool { return r < 0x20 || r > 0x7e }) >= 0 {
		t.Fatalf("Quote(%q) has other bytes", s)
	}
	if words, ok := wordsOf(q); !ok || len(words) != 1 || words[0] != q {
		t.Fatalf("Quote(%q) is no word", s)
	}
}

// P11.2, P11.4: texts of any bytes.
func TestQuoteSome(t *testing.T) {
	r := rand.New(rand.NewSource(2))
	thereAndBack(t, "")
	for range 20000 {
		thereAndBack(t, someBytes(r, 20))
	}
}

// P11.3: all short texts out of bytes that matter, and spoilt ones.
func TestUnquoteSome(t *testing.T) {
	var all func(s string, left int)
	all = func(s string, left int) {
		asUnquoted(t, s)
		asUnquoted(t, "\""+s+"\"")
		if left == 0 {
			return
		}
		for _, c := range []byte("\"\\nx4Ag\n\xff") {
			all(s+string([]byte{c}), left-1)
		}
	}
	all("", 5)
	r := rand.New(rand.NewSource(3))
	for range 20000 {
		s := someBytes(r, 12)
		q := someQuoted(r, s)
		if back, ok := Unquote(q); back != s || !ok {
			t.Fatalf("%s is %q, %v and not %q", q, back, ok, s)
		}
		asUnquoted(t, spoiltByte(r, q))
	}
}
