package pct_test

import (
	"fmt"
	"math/rand"
	"strings"
	"testing"
	"unsafe"

	"countersign/api"
	"countersign/pct"
)

const plainSigns = "ABCDEFGHIJKLMNOPQRSTUVWXYZabcdefghijklmnopqrstuvwxyz0123456789-._~"

var forms = []bool{false, true}

// sign is how the document has the byte c written.
func sign(c byte, form bool) string {
	if strings.IndexByte(plainSigns, c) >= 0 {
		return string([]byte{c})
	}
	if form && c == 32 {
		return "+"
	}
	return fmt.Sprintf("%%%02X", c)
}

// enc is Enc as the document words it.
func enc(s string, form bool) string {
	var b strings.Builder
	for i := range len(s) {
		b.WriteString(sign(s[i], form))
	}
	return b.String()
}

// A book has all bytes by their signs.
type book map[string]byte

func newBook(form bool) book {
	b := book{}
	for c := range 256 {
		b[sign(byte(c), form)] = byte(c)
	}
	return b
}

// dec is Dec by looking signs up. None of them is the front of another: those of one byte are no percent sign.
func (b book) dec(s string) (string, api.Errno) {
	var out []byte
	for s != "" {
		n := 1
		if s[0] == '%' {
			n = min(3, len(s))
		}
		c, is := b[s[:n]]
		if !is {
			return "", api.ErrForm
		}
		out, s = append(out, c), s[n:]
	}
	return string(out), api.OK
}

// texts are those that are written in the tests: of no byte, of each one, of each two, and of many.
func texts() []string {
	l := []string{""}
	for a := range 256 {
		l = append(l, string([]byte{byte(a)}))
		for b := range 256 {
			l = append(l, string([]byte{byte(a), byte(b)}))
		}
	}
	r := rand.New(rand.NewSource(7))
	for range 5000 {
		b := make([]byte, r.Intn(40))
		r.Read(b)
		l = append(l, string(b))
	}
	return append(l, "%41", "%2541", "a+b c", "caf\u00e9 \u65e5\u672c \U0001f600", "\ufffd\xff\xfe", "\xe6\x97z", strings.Repeat(" ~\x00", 1000))
}

// readings calls try on texts that may have been written or not: each of one byte, of two, each percent sign with two
// bytes, and each short text of the signs at which reading may go wrong.
func readings(try func(string)) {
	for a := range 256 {
		try(string([]byte{byte(a)}))
		for b := range 256 {
			try(string([]byte{byte(a), byte(b)}))
			try(string([]byte{'%', byte(a), byte(b)}))
			try(string([]byte{'a', '%', byte(a), byte(b), '.'}))
		}
	}
	tryAll("", 6, try)
}

func tryAll(front string, more int, try func(string)) {
	try(front)
	if more == 0 {
		return
	}
	for _, s := range []string{"%", "+", " ", "2", "5", "0", "F", "f", "/", "\xff"} {
		tryAll(front+s, more-1, try)
	}
}

func TestExamples(t *testing.T) {
	if got := pct.Enc("a b/", true); got != "a+b%2F" {
		t.Errorf("Enc: %q", got)
	}
	if got, e := pct.Dec("%61", false); got != "" || e != api.ErrForm {
		t.Errorf("Dec: %q, %v", got, e)
	}
}

// P701: bytes around each bound, their signs spelt out.
func TestEncOfSomeBytes(t *testing.T) {
	for _, c := range []struct{ s, plain, form string }{
		{"", "", ""},
		{plainSigns, plainSigns, plainSigns},
		{" ", "%20", "+"},
		{"+", "%2B", "%2B"},
		{"%", "%25", "%25"},
		{"%20", "%2520", "%2520"},
		{"@[\x60{/:,", "%40%5B%60%7B%2F%3A%2C", "%40%5B%60%7B%2F%3A%2C"},
		{"\x00\x1f\x7f\x80\xff", "%00%1F%7F%80%FF", "%00%1F%7F%80%FF"},
		{"\xe1\xb0\xad", "%E1%B0%AD", "%E1%B0%AD"},
		{"\u00e9", "%C3%A9", "%C3%A9"},
		{"a  b\r\n", "a%20%20b%0D%0A", "a++b%0D%0A"},
		{"!*'()", "%21%2A%27%28%29", "%21%2A%27%28%29"},
	} {
		if got := pct.Enc(c.s, false); got != c.plain {
			t.Errorf("Enc(%q, false): %q", c.s, got)
		}
		if got := pct.Enc(c.s, true); got != c.form {
			t.Errorf("Enc(%q, true): %q", c.s, got)
		}
	}
}

// P701, P702: every text is written as the document words it, and read again.
func TestThereAndBack(t *testing.T) {
	for _, form := range forms {
		for _, s := range texts() {
			w := pct.Enc(s, form)
			if w != enc(s, form) {
				t.Errorf("Enc(%q, %v): %q", s, form, w)
			}
			if got, e := pct.Dec(w, form); got != s || e != api.OK {
				t.Errorf("Dec(%q, %v): %q, %v", w, form, got, e)
			}
		}
	}
}

// P702: what Enc does not write is refused, and nothing is answered beside that; all else is read.
func TestDecOfEachReading(t *testing.T) {
	for _, form := range forms {
		b := newBook(form)
		taken, refused := 0, 0
		readings(func(s string) {
			got, e := pct.Dec(s, form)
			if want, fault := b.dec(s); got != want || e != fault {
				t.Errorf("Dec(%q, %v): %q, %v", s, form, got, e)
			}
			if e == api.OK {
				taken++
				if w := pct.Enc(got, form); w != s {
					t.Errorf("Dec(%q, %v): %q, which is written %q", s, form, got, w)
				}
			} else {
				refused++
			}
		})
		if taken < 1000 || refused < 1000 {
			t.Errorf("form %v: %d taken, %d refused", form, taken, refused)
		}
	}
}

// P702: wrong inputs, with either form, at the front, in the middle and at the end.
func TestDecRefuses(t *testing.T) {
	wrong := []string{
		"%", "%2", "%%", "%g0", "%0g", "%G0", "%0G", "%2f", "%fF", "%Ff", "%ff", "%+1", "% 1", "%-1", "%0x", "%\x00\x00", "%:0", "%@0", "%/0",
		"%41", "%5A", "%61", "%7A", "%30", "%39", "%2D", "%2E", "%5F", "%7E",
		" ", "/", "&", "=", "\x00", "\x7f", "\x80", "\xff", "\u00e9", "%u0041", "%\uff10\uff11",
	}
	for _, form := range forms {
		for _, w := range wrong {
			for _, s := range []string{w, "a%2F" + w, w + "/"} {
				if got, e := pct.Dec(s, form); got != "" || e != api.ErrForm {
					t.Errorf("Dec(%q, %v): %q, %v", s, form, got, e)
				}
			}
		}
	}
}

// P702: a blank and a plus sign, the only ones at which the forms differ.
func TestDecOfBlanks(t *testing.T) {
	for _, c := range []struct {
		s    string
		form bool
		want string
		e    api.Errno
	}{
		{"+", true, " ", api.OK}, {"%20", true, "", api.ErrForm}, {"%2B", true, "+", api.OK}, {" ", true, "", api.ErrForm},
		{"+", false, "", api.ErrForm}, {"%20", false, " ", api.OK}, {"%2B", false, "+", api.OK}, {" ", false, "", api.ErrForm},
		{"a+b+%2B", true, "a b +", api.OK}, {"a+b", false, "", api.ErrForm}, {"a%20b%20%2B", false, "a b +", api.OK}, {"a+b%20c", true, "", api.ErrForm},
		{"", true, "", api.OK}, {"", false, "", api.OK},
	} {
		if got, e := pct.Dec(c.s, c.form); got != c.want || e != c.e {
			t.Errorf("Dec(%q, %v): %q, %v", c.s, c.form, got, e)
		}
	}
}

// P703: unlike texts are written unlike.
func TestUnlike(t *testing.T) {
	for _, form := range forms {
		from := map[string]string{}
		for _, s := range texts() {
			w := pct.Enc(s, form)
			if other, is := from[w]; is && other != s {
				t.Errorf("form %v: %q and %q are both written %q", form, s, other, w)
			}
			from[w] = s
		}
	}
}

// P1, P3: a text of many bytes is written and read, the same each time.
func TestLong(t *testing.T) {
	b := make([]byte, 1<<20)
	for i := range b {
		b[i] = byte(i * 7)
	}
	s := string(b)
	for _, form := range forms {
		w := pct.Enc(s, form)
		if w != pct.Enc(s, form) || w != enc(s, form) {
			t.Errorf("form %v: written otherwise", form)
		}
		for range 2 {
			if got, e := pct.Dec(w, form); got != s || e != api.OK {
				t.Errorf("form %v: read otherwise: %v", form, e)
			}
			if got, e := pct.Dec(w+"%", form); got != "" || e != api.ErrForm {
				t.Errorf("form %v, with a percent sign behind: %d bytes, %v", form, len(got), e)
			}
		}
	}
}

// P2: an answer is new memory, though it has the same bytes.
func TestNewMemory(t *testing.T) {
	for _, form := range forms {
		for _, s := range []string{"plain-text", strings.Clone("a")} {
			read, e := pct.Dec(s, form)
			for i, got := range []string{pct.Enc(s, form), read} {
				if got != s || e != api.OK || unsafe.StringData(got) == unsafe.StringData(s) {
					t.Errorf("%d: %q of %q, %v: it shares memory with what was handed in", i, got, s, e)
				}
			}
		}
	}
}
