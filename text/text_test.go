package text_test

import (
	"math"
	"math/rand"
	"strings"
	"testing"
	"unicode/utf8"
	"unsafe"

	"countersign/api"
	"countersign/text"
)

// kind is a question that a text is asked, beside its answer as the document words it, worked out byte by byte.
type kind struct {
	name string
	is   func(string) bool
	want func(string) bool
}

func kinds() []kind {
	return []kind{
		{"Valid", text.Valid, valid},
		{"Name", text.Name, name},
		{"Word", text.Word, word},
		{"Token", text.Token, token},
		{"Seen", text.Seen, seen},
	}
}

const (
	letters    = "ABCDEFGHIJKLMNOPQRSTUVWXYZabcdefghijklmnopqrstuvwxyz"
	wordSigns  = letters + "0123456789-._~"
	tokenSigns = letters + "0123456789!#$%&'*+-.^_|~\x60"
)

func valid(s string) bool { return utf8.ValidString(s) && !strings.Contains(s, "\xef\xbf\xbd") }

func name(s string) bool {
	if !valid(s) {
		return false
	}
	runes := []rune(s)
	for _, r := range runes {
		if r < 33 || 127 <= r && r <= 160 {
			return false
		}
	}
	return len(runes) >= 1 && len(runes) <= 24
}

func word(s string) bool { return len(s) >= 1 && len(s) <= 128 && of(s, wordSigns) }

func token(s string) bool { return len(s) >= 1 && of(s, tokenSigns) }

func seen(s string) bool {
	for i := range len(s) {
		if s[i] < 32 || s[i] > 126 {
			return false
		}
	}
	return true
}

// of says whether each byte of s is one of signs.
func of(s, signs string) bool {
	for i := range len(s) {
		if strings.IndexByte(signs, s[i]) < 0 {
			return false
		}
	}
	return true
}

// fold is Fold by a map of the letters.
func fold(s string) string {
	b := []byte(s)
	for i, c := range b {
		if at := strings.IndexByte(letters[:26], c); at >= 0 {
			b[i] = letters[26+at]
		}
	}
	return string(b)
}

// front is Clip by taking runes off one by one.
func front(s string, n int) string {
	end := 0
	for ; n > 0 && end < len(s); n-- {
		_, size := utf8.DecodeRuneInString(s[end:])
		end += size
	}
	return s[:end]
}

// parts are pieces at which a text may go wrong: signs around each bound, runes of each length, and bytes that are no
// UTF-8 (cut off, overlong, of surrogates, above the last rune, alone).
func parts() []string {
	return []string{
		"a", "z", "A", "Z", "0", "9", "-", ".", "_", "~", "!", "%", "|", "\x60", "@", "[", "{", "/", ":", "\"", "(", ",", "\\",
		" ", "\x00", "\n", "\x1f", "\x7f",
		"\u0080", "\u0085", "\u009f", "\u00a0", "\u00a1", "\u00c9", "\u00e9", "\u07ff", "\u0800", "\u212a", "\u65e5", "\ud7ff",
		"\ue000", "\ufeff", "\ufffc", "\ufffd", "\ufffe", "\uffff", "\U00010000", "\U0001f600", "\U0010ffff",
		"\x80", "\xbf", "\xc0\x80", "\xc1\xbf", "\xc3", "\xe0\x9f\xbf", "\xe6\x97", "\xed\xa0\x80", "\xed\xbf\xbf", "\xef\xbf",
		"\xf0\x8f\xbf\xbf", "\xf0\x9f\x98", "\xf4\x90\x80\x80", "\xf5\x80\x80\x80", "\xfe", "\xff",
	}
}

// samples are the texts on which the promises are tried: each byte, each pair of bytes, each pair of parts, texts of many
// parts, and texts around the greatest lengths.
func samples() []string {
	l := []string{""}
	for a := range 256 {
		l = append(l, string([]byte{byte(a)}))
		for b := range 256 {
			l = append(l, string([]byte{byte(a), byte(b)}))
		}
	}
	for _, a := range parts() {
		for _, b := range parts() {
			l = append(l, a+b)
		}
		for _, n := range []int{23, 24, 25, 127, 128, 129, 1000} {
			l = append(l, strings.Repeat(a, n), strings.Repeat("a", n-1)+a, a+strings.Repeat("a", n-1))
		}
	}
	r := rand.New(rand.NewSource(6))
	for range 20000 {
		s := ""
		for range r.Intn(30) {
			s += parts()[r.Intn(len(parts()))]
		}
		l = append(l, s)
	}
	return l
}

func TestExamples(t *testing.T) {
	if got := text.Clip("\u00e9b", 1); got != "\xc3\xa9" {
		t.Errorf("Clip: %q", got)
	}
	if text.Word("a b") {
		t.Error("Word(\"a b\")")
	}
}

// P601, P602: every question is answered as the document words it.
func TestKinds(t *testing.T) {
	for _, s := range samples() {
		for _, k := range kinds() {
			if got := k.is(s); got != k.want(s) {
				t.Errorf("%s(%q): %v", k.name, s, got)
			}
		}
	}
}

// P601: what is no UTF-8, or has U+FFFD, is not Valid; no bytes are.
func TestValid(t *testing.T) {
	for _, s := range []string{"", "a", "\x00", "\x7f", "\u0080", "\ufffc", "\ufffe", "\ud7ff", "\ue000", "\U0010ffff", "a\u00e9\u65e5\U0001f600"} {
		if !text.Valid(s) {
			t.Errorf("Valid(%q): no", s)
		}
	}
	for _, s := range []string{"\ufffd", "a\ufffdb", "\x80", "\xff", "a\xe6\x97", "\xe6\x97z", "\xc0\x80", "\xed\xa0\x80", "\xf4\x90\x80\x80"} {
		if text.Valid(s) {
			t.Errorf("Valid(%q): yes", s)
		}
	}
}

// P601: a Name of one rune is any that is Valid, but for those below 33, and from 127 to 160.
func TestNameOfEachRune(t *testing.T) {
	for r := rune(0); r <= utf8.MaxRune; r++ {
		want := r >= 33 && (r < 127 || r > 160) && r != 0xfffd && utf8.ValidRune(r)
		if got := text.Name(string(r)); got != want {
			t.Errorf("Name of U+%04X: %v", r, got)
		}
	}
}

// P601: a Name is counted by runes, not by bytes.
func TestNameLength(t *testing.T) {
	if api.MaxName != 24 {
		t.Fatalf("MaxName: %d", api.MaxName)
	}
	for _, sign := range []string{"a", "\u00e9", "\u65e5", "\U0001f600"} {
		for n := range 30 {
			if got := text.Name(strings.Repeat(sign, n)); got != (1 <= n && n <= 24) {
				t.Errorf("Name of %d times %q: %v", n, sign, got)
			}
		}
	}
}

// P601: Runes counts as Go's range does.
func TestRunes(t *testing.T) {
	for _, c := range []struct {
		s    string
		want int
	}{
		{"", 0}, {"a", 1}, {"\u00e9b", 2}, {"\ufffd", 1}, {"\U0001f600\u65e5x", 3}, {"e\u0301", 2},
		{"\xff\xfea", 3}, {"\xe6\x97z", 3}, {"\xed\xa0\x80", 3}, {"\xf0\x9f\x98", 3}, {"\xc0\x80", 2},
	} {
		if got := text.Runes(c.s); got != c.want {
			t.Errorf("Runes(%q): %d", c.s, got)
		}
	}
	for _, s := range samples() {
		if got := text.Runes(s); got != utf8.RuneCountInString(s) {
			t.Errorf("Runes(%q): %d", s, got)
		}
	}
}

// P601, P603: Clip answers the bytes of the first n runes, which are a front; all, where there are no more.
func TestClip(t *testing.T) {
	for _, c := range []struct {
		s    string
		n    int
		want string
	}{
		{"", 0, ""}, {"", 1, ""}, {"", -1, ""}, {"abc", 2, "ab"}, {"abc", 3, "abc"}, {"abc", 4, "abc"}, {"abc", 0, ""}, {"abc", -1, ""},
		{"abc", math.MinInt, ""}, {"abc", math.MaxInt, "abc"}, {"\xff\xfea", 2, "\xff\xfe"}, {"\xe6\x97z", 1, "\xe6"},
		{"\U0001f600\u65e5x", 2, "\U0001f600\u65e5"}, {"a\ufffdb", 2, "a\ufffd"},
	} {
		if got := text.Clip(c.s, c.n); got != c.want {
			t.Errorf("Clip(%q, %d): %q", c.s, c.n, got)
		}
	}
	for _, s := range samples() {
		all := text.Runes(s)
		for _, n := range []int{math.MinInt, -1, 0, 1, 2, all / 2, all - 1, all, all + 1, math.MaxInt} {
			got := text.Clip(s, n)
			if got != front(s, n) || !strings.HasPrefix(s, got) {
				t.Errorf("Clip(%q, %d): %q", s, n, got)
			}
			if text.Runes(got) != min(max(n, 0), all) {
				t.Errorf("Clip(%q, %d): %q, which has %d runes", s, n, got, text.Runes(got))
			}
		}
	}
}

// P602: a Word has from 1 to MaxWord bytes.
func TestWordLength(t *testing.T) {
	if api.MaxWord != 128 {
		t.Fatalf("MaxWord: %d", api.MaxWord)
	}
	for _, sign := range strings.Split(wordSigns, "") {
		for _, n := range []int{0, 1, 2, 127, 128, 129, 5000} {
			if got := text.Word(strings.Repeat(sign, n)); got != (1 <= n && n <= 128) {
				t.Errorf("Word of %d times %q: %v", n, sign, got)
			}
		}
	}
}

// P602: a Token has a byte at least, and no greatest length; what is Seen may have none.
func TestTokenAndSeenLength(t *testing.T) {
	for _, n := range []int{0, 1, 128, 129, 100000} {
		s := strings.Repeat("!", n)
		if got := text.Token(s); got != (n > 0) {
			t.Errorf("Token of %d bytes: %v", n, got)
		}
		if !text.Seen(s) {
			t.Errorf("Seen of %d bytes: no", n)
		}
		if text.Token(s+" ") || text.Seen(s+"\x7f") {
			t.Errorf("a wrong byte behind %d", n)
		}
	}
}

// P602: Fold makes A to Z small and leaves all else, bytes that are no UTF-8 and letters beyond ASCII too.
func TestFold(t *testing.T) {
	for _, c := range [][2]string{
		{"", ""}, {"Host", "host"}, {"AZaz@[\x60{", "azaz@[\x60{"}, {"Content-Type9", "content-type9"},
		{"\u00c9\u0130\u212aK", "\u00c9\u0130\u212ak"}, {"\xffA\xc3\x41\xe6\x97Z", "\xffa\xc3\x61\xe6\x97z"}, {"\xc1\xda", "\xc1\xda"},
	} {
		if got := text.Fold(c[0]); got != c[1] {
			t.Errorf("Fold(%q): %q", c[0], got)
		}
	}
	for _, s := range samples() {
		if got := text.Fold(s); got != fold(s) {
			t.Errorf("Fold(%q): %q", s, got)
		}
	}
}

// P603: each Word is a Token, and Seen, and Valid.
func TestWordIsMore(t *testing.T) {
	words := 0
	for _, s := range append(samples(), strings.Split(wordSigns, "")...) {
		if !text.Word(s) {
			continue
		}
		words++
		if !text.Token(s) || !text.Seen(s) || !text.Valid(s) {
			t.Errorf("the Word %q: Token %v, Seen %v, Valid %v", s, text.Token(s), text.Seen(s), text.Valid(s))
		}
	}
	if words < 1000 {
		t.Errorf("tried %d words", words)
	}
}

// P3: the same call answers the same.
func TestTwice(t *testing.T) {
	for _, s := range samples() {
		for _, k := range kinds() {
			if k.is(s) != k.is(s) {
				t.Errorf("%s(%q) twice", k.name, s)
			}
		}
		if text.Fold(s) != text.Fold(s) || text.Runes(s) != text.Runes(s) || text.Clip(s, 1) != text.Clip(s, 1) {
			t.Errorf("%q twice", s)
		}
	}
}

// P2: an answer is new memory, all of the text or a front of it.
func TestNewMemory(t *testing.T) {
	s := strings.Repeat("small \u00e9", 10)
	for i, got := range []string{text.Fold(s), text.Clip(s, 20), text.Clip(s, text.Runes(s)), text.Clip(s, math.MaxInt)} {
		if !strings.HasPrefix(s, got) || unsafe.StringData(got) == unsafe.StringData(s) {
			t.Errorf("%d: %q shares memory with what was handed in", i, got)
		}
	}
}
