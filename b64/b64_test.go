package b64_test

import (
	"bytes"
	"encoding/base64"
	"fmt"
	"math/rand"
	"strconv"
	"strings"
	"testing"
	"unsafe"

	"countersign/api"
	"countersign/b64"
)

// alphabet has the signs as the document counts them up.
var alphabet = upTo('A', 'Z') + upTo('a', 'z') + upTo('0', '9') + "-_"

func upTo(first, last byte) string {
	var s string
	for c := first; c <= last; c++ {
		s += string(rune(c))
	}
	return s
}

// enc is Enc as the document words it, by the bits spelt out; noughts stand for those that lack.
func enc(b []byte) string {
	var bits, out strings.Builder
	for _, c := range b {
		fmt.Fprintf(&bits, "%08b", c)
	}
	bits.WriteString([]string{"", "0000", "00"}[len(b)%3])
	for s := bits.String(); s != ""; s = s[6:] {
		n, _ := strconv.ParseUint(s[:6], 2, 8)
		out.WriteByte(alphabet[n])
	}
	return out.String()
}

// dec is Dec by the library: strict on the bits that lack, and with the ends of lines, which the library passes over, refused.
func dec(s string) ([]byte, api.Errno) {
	b, err := base64.RawURLEncoding.Strict().DecodeString(s)
	if err != nil || strings.ContainsAny(s, "\r\n") {
		return nil, api.ErrForm
	}
	return b, api.OK
}

// lists are those that are written in the tests: of no byte, of each one, of each two, and of more.
func lists() [][]byte {
	l := [][]byte{nil}
	for a := range 256 {
		l = append(l, []byte{byte(a)})
		for b := range 256 {
			l = append(l, []byte{byte(a), byte(b)})
		}
	}
	for i := range 24 {
		for _, c := range []byte{0, 255} {
			l = append(l, bytes.Repeat([]byte{c}, 3+i))
		}
		one := [3]byte{}
		one[i/8] = 1 << (i % 8)
		l = append(l, one[:])
	}
	r := rand.New(rand.NewSource(8))
	for range 5000 {
		b := make([]byte, 3+r.Intn(40))
		r.Read(b)
		l = append(l, b)
	}
	return l
}

// readings calls try on texts that may have been written or not: each of one byte, of two, each byte at each place among
// signs, all of up to six signs at which reading may go wrong, and long ones with one byte changed, lost or brought in.
func readings(try func(string)) {
	for a := range 256 {
		for b := range 256 {
			try(string([]byte{byte(a), byte(b)}))
			try("AQ" + string([]byte{byte(a), byte(b)}))
		}
		for size := 1; size <= 9; size++ {
			for i := range size {
				s := []byte(strings.Repeat("A", size))
				s[i] = byte(a)
				try(string(s))
			}
		}
	}
	tryAll("", 6, try)
	r := rand.New(rand.NewSource(80))
	for range 5000 {
		b := make([]byte, r.Intn(30))
		r.Read(b)
		s := enc(b)
		i := r.Intn(len(s) + 1)
		try(s[:i])
		try(s[:i] + string(alphabet[r.Intn(64)]) + s[min(i+1, len(s)):])
		try(s[:i] + string(alphabet[r.Intn(64)]) + s[i:])
		try(s[:i] + string([]byte{byte(r.Intn(256))}) + s[i:])
	}
}

func tryAll(front string, more int, try func(string)) {
	try(front)
	if more == 0 {
		return
	}
	for _, s := range []string{"A", "B", "E", "Q", "g", "w", "_", "=", "\n"} {
		tryAll(front+s, more-1, try)
	}
}

func refused(t *testing.T, s string) {
	t.Helper()
	if got, e := b64.Dec(s); got != nil || e != api.ErrForm {
		t.Errorf("Dec(%q): %v, %v", s, got, e)
	}
}

func TestExamples(t *testing.T) {
	if got := b64.Enc([]byte{255}); got != "_w" {
		t.Errorf("Enc: %q", got)
	}
	refused(t, "_x")
}

// P801, P802: lists of each number of bytes left over, their signs spelt out.
func TestSomeBytes(t *testing.T) {
	for _, c := range []struct{ b, s string }{
		{"", ""},
		{"\x00", "AA"}, {"\x00\x00", "AAA"}, {"\x00\x00\x00", "AAAA"}, {"\x00\x00\x00\x00", "AAAAAA"},
		{"\xff", "_w"}, {"\xff\xff", "__8"}, {"\xff\xff\xff", "____"}, {"\xff\xff\xff\xff", "_____w"},
		{"\x01", "AQ"}, {"\x00\x01", "AAE"}, {"\x00\x00\x01", "AAAB"},
		{"\x80", "gA"}, {"\xfb\xff\xbf", "-_-_"}, {"\xf8", "-A"}, {"\xfc", "_A"},
		{"f", "Zg"}, {"fo", "Zm8"}, {"foo", "Zm9v"}, {"foob", "Zm9vYg"}, {"fooba", "Zm9vYmE"}, {"foobar", "Zm9vYmFy"},
		{"\x69\xb7\x1d\x79\xf8\x21\x8a\x39\x25\x9a\x7a\x29\xaa\xbb\x2d\xba\xfc\x31\xcb\x30\x01\x08\x31\x05\x18\x72\x09\x28\xb3\x0d\x38\xf4\x11\x49\x35\x15\x59\x76\x19\xd3\x5d\xb7\xe3\x9e\xbb\xf3\xdf\xbf",
			"abcdefghijklmnopqrstuvwxyzABCDEFGHIJKLMNOPQRSTUVWXYZ0123456789-_"},
	} {
		if got := b64.Enc([]byte(c.b)); got != c.s {
			t.Errorf("Enc(%q): %q", c.b, got)
		}
		if got, e := b64.Dec(c.s); string(got) != c.b || e != api.OK {
			t.Errorf("Dec(%q): %q, %v", c.s, got, e)
		}
	}
}

// P801: each number has its sign, at each of the four places.
func TestEachSign(t *testing.T) {
	if len(alphabet) != 64 {
		t.Fatalf("%d signs", len(alphabet))
	}
	for n := range 64 {
		for place := range 4 {
			bits := n << (18 - 6*place)
			want := []byte("AAAA")
			want[place] = alphabet[n]
			if got := b64.Enc([]byte{byte(bits >> 16), byte(bits >> 8), byte(bits)}); got != string(want) {
				t.Errorf("%d at %d: %q", n, place, got)
			}
		}
	}
}

// P801: so many signs, and no sign behind the last bytes.
func TestHowMany(t *testing.T) {
	for n := range 200 {
		want := n / 3 * 4
		if n%3 > 0 {
			want += n%3 + 1
		}
		if got := b64.Enc(make([]byte, n)); got != strings.Repeat("A", want) {
			t.Errorf("of %d bytes: %q", n, got)
		}
	}
}

// P801, P802: every list is written as the document words it, and read again.
func TestThereAndBack(t *testing.T) {
	for _, b := range lists() {
		s := b64.Enc(b)
		if s != enc(b) {
			t.Errorf("Enc(%v): %q", b, s)
		}
		if got, e := b64.Dec(s); !bytes.Equal(got, b) || e != api.OK {
			t.Errorf("Dec(%q): %v, %v", s, got, e)
		}
	}
}

// P802: what Enc does not write is refused, and nothing is answered beside that; all else is read.
func TestDecOfEachReading(t *testing.T) {
	taken, refused := 0, 0
	readings(func(s string) {
		got, e := b64.Dec(s)
		if want, fault := dec(s); !bytes.Equal(got, want) || e != fault {
			t.Errorf("Dec(%q): %v, %v", s, got, e)
		}
		if e == api.OK {
			taken++
			if w := b64.Enc(got); w != s {
				t.Errorf("Dec(%q): %v, which is written %q", s, got, w)
			}
		} else {
			refused++
			if got != nil {
				t.Errorf("Dec(%q): %v, %v", s, got, e)
			}
		}
	})
	if taken < 1000 || refused < 1000 {
		t.Errorf("%d taken, %d refused", taken, refused)
	}
}

// P802: wrong inputs, alone and behind whole groups.
func TestDecRefuses(t *testing.T) {
	for _, w := range []string{
		"A", "_", "=", "AAAAA", "Zm9vY", "____-",
		"_x", "AB", "Ah", "AP", "__9", "__-", "AAB", "AAC", "Zh", "Zm9", "Zn9",
		"Zg==", "Zg=", "Zm8=", "AA==", "AAA=", "====", "Zm9v=", "Zm9v====",
		"a+b/", "a+", "/A", "A.AA", "A~AA", "A,AA", "A:AA", "A@AA", "A[AA", "A\x60AA", "A{AA", "A^AA",
		"A A", " AA", "AA ", "AA\n", "AA\r\n", "Zm9v\n", "Zm\n9v", "\nZm9v", "AA\tA",
		"\x00", "AAA\x00", "\x00\x00\x00\x00", "AAA\xff", "\xff\xff\xff\xff", "\x80AAA", "\u00e9\u00e9", "AA\u00e9", "\uff21\uff21",
	} {
		refused(t, w)
		refused(t, "Zm9v"+w)
		refused(t, "-_-_Zm9v"+w)
	}
}

// P802: of two signs the last four bits lack, of three the last two; each but 0 is refused.
func TestBitsThatLack(t *testing.T) {
	for n, sign := range alphabet {
		for lack, front := range map[int]string{15: "A", 3: "__", 0: "Zm9"} {
			for _, ahead := range []string{"", "AAAA", "____"} {
				s := ahead + front + string(sign)
				got, e := b64.Dec(s)
				if n&lack != 0 {
					refused(t, s)
				} else if e != api.OK || enc(got) != s {
					t.Errorf("Dec(%q): %v, %v", s, got, e)
				}
			}
		}
	}
}

// P803: unlike bytes are written unlike.
func TestUnlike(t *testing.T) {
	from := map[string]string{}
	for _, b := range lists() {
		s := b64.Enc(b)
		if other, is := from[s]; is && other != string(b) {
			t.Errorf("%q and %q are both written %q", b, other, s)
		}
		from[s] = string(b)
	}
}

// P1, P3: many bytes are written and read, the same each time.
func TestLong(t *testing.T) {
	for more := range 3 {
		b := make([]byte, 1<<20+more)
		for i := range b {
			b[i] = byte(i * 7 >> 3)
		}
		s := b64.Enc(b)
		if s != b64.Enc(b) || s != base64.RawURLEncoding.EncodeToString(b) {
			t.Errorf("%d bytes: written otherwise", len(b))
		}
		for range 2 {
			if got, e := b64.Dec(s); !bytes.Equal(got, b) || e != api.OK {
				t.Errorf("%d bytes: read otherwise: %v", len(b), e)
			}
			refused(t, s[:len(s)-1]+"\n")
		}
	}
}

// P2: what is handed in is not changed, nor what stands ahead of it and behind it in the same memory.
func TestHandedInStays(t *testing.T) {
	all := []byte("0123456789abcdefghijklmnopqrstuvwxyz")
	was := string(all)
	for from := range 12 {
		for to := from; to < 24; to++ {
			b := all[from:to]
			if got := b64.Enc(b); got != enc([]byte(was[from:to])) || string(all) != was {
				t.Fatalf("from %d to %d: %q, and then %q", from, to, got, all)
			}
		}
	}
}

// P2: an answer is new memory, its spare room too.
func TestNewMemory(t *testing.T) {
	for n := 1; n < 12; n++ {
		b := bytes.Repeat([]byte{'Z'}, n)
		s := b64.Enc(b)
		want := strings.Clone(s)
		one, _ := b64.Dec(s)
		two, _ := b64.Dec(s)
		clear(one[:cap(one)])
		clear(b)
		if s != want || string(two) != strings.Repeat("Z", n) {
			t.Errorf("%d bytes: %q, %q", n, s, two)
		}
		if &one[0] == &two[0] || unsafe.StringData(s) == unsafe.StringData(b64.Enc(two)) {
			t.Errorf("%d bytes: two answers share memory", n)
		}
	}
}

// P2: no list and an empty one are the same.
func TestOfNothing(t *testing.T) {
	for _, b := range [][]byte{nil, {}, make([]byte, 0, 9)} {
		if got := b64.Enc(b); got != "" {
			t.Errorf("Enc of nothing: %q", got)
		}
	}
	if got, e := b64.Dec(""); len(got) != 0 || e != api.OK {
		t.Errorf("Dec of nothing: %v, %v", got, e)
	}
}
