package query_test

import (
	"fmt"
	"math/rand"
	"net/url"
	"regexp"
	"slices"
	"strconv"
	"strings"
	"testing"
	"unsafe"

	"countersign/api"
	"countersign/query"
)

const plainSigns = "ABCDEFGHIJKLMNOPQRSTUVWXYZabcdefghijklmnopqrstuvwxyz0123456789-._~"

// sign is how a form has the byte c written.
func sign(c byte) string {
	switch {
	case strings.IndexByte(plainSigns, c) >= 0:
		return string([]byte{c})
	case c == ' ':
		return "+"
	}
	return fmt.Sprintf("%%%02X", c)
}

// written is s as a form has it.
func written(s string) string {
	var b strings.Builder
	for i := range len(s) {
		b.WriteString(sign(s[i]))
	}
	return b.String()
}

// print is Print as the document words it.
func print(l []api.Field) string {
	var parts []string
	for _, f := range l {
		parts = append(parts, written(f.Name)+"="+written(f.Value))
	}
	return strings.Join(parts, "&")
}

// A reader has the rules that a part is held against.
type reader struct{ part *regexp.Regexp }

func newReader() reader {
	var signs []string
	for c := range 256 {
		signs = append(signs, regexp.QuoteMeta(sign(byte(c))))
	}
	one := "(?:" + strings.Join(signs, "|") + ")"
	return reader{regexp.MustCompile("^(" + one + "+)=(" + one + "*)$")}
}

// parse is Parse as the document words it; the library reads what the rules let through.
func (r reader) parse(s string) ([]api.Field, api.Errno) {
	if s == "" {
		return nil, api.OK
	}
	parts := strings.Split(s, "&")
	if len(parts) > 24 {
		return nil, api.ErrMany
	}
	var l []api.Field
	names := map[string]bool{}
	for _, part := range parts {
		m := r.part.FindStringSubmatch(part)
		if m == nil {
			return nil, api.ErrForm
		}
		name, err := url.QueryUnescape(m[1])
		value, also := url.QueryUnescape(m[2])
		if err != nil || also != nil {
			panic(part)
		}
		if names[name] {
			return nil, api.ErrTwice
		}
		names[name] = true
		l = append(l, api.Field{Name: name, Value: value})
	}
	return l, api.OK
}

func clip(s string) string {
	if len(s) > 80 {
		return fmt.Sprintf("%q.. (%d bytes)", s[:80], len(s))
	}
	return strconv.Quote(s)
}

// parses holds Parse of s against what it must answer.
func parses(t *testing.T, s string, want []api.Field, fault api.Errno) {
	t.Helper()
	got, e := query.Parse(s)
	if e != fault || !slices.Equal(got, want) {
		t.Errorf("Parse(%s): %d fields, %v, not %d, %v: %s", clip(s), len(got), e, len(want), fault, clip(fmt.Sprint(got)))
	}
}

func refuses(t *testing.T, s string, fault api.Errno) {
	t.Helper()
	parses(t, s, nil, fault)
}

// both holds Print of l against s, and Parse of s against l.
func both(t *testing.T, l []api.Field, s string) {
	t.Helper()
	if got := query.Print(l); got != s {
		t.Errorf("Print: %s, not %s", clip(got), clip(s))
	}
	parses(t, s, l, api.OK)
}

// fields makes fields of names and values by turns.
func fields(texts ...string) []api.Field {
	var l []api.Field
	for i := 0; i < len(texts); i += 2 {
		l = append(l, api.Field{Name: texts[i], Value: texts[i+1]})
	}
	return l
}

// numbered makes n fields of unlike Names.
func numbered(n int) []api.Field {
	var l []api.Field
	for i := range n {
		l = append(l, api.Field{Name: "n" + strconv.Itoa(i), Value: strconv.Itoa(i)})
	}
	return l
}

// allBytes has each byte once.
func allBytes() string {
	b := make([]byte, 256)
	for i := range b {
		b[i] = byte(i)
	}
	return string(b)
}

func TestExamples(t *testing.T) {
	parses(t, "a=1&b=", fields("a", "1", "b", ""), api.OK)
	refuses(t, "a", api.ErrForm)
}

// P1001, P1002: by hand, both ways.
func TestByHand(t *testing.T) {
	for _, c := range []struct {
		s string
		l []api.Field
	}{
		{"", nil},
		{"", []api.Field{}},
		{"a=", fields("a", "")},
		{"a=1", fields("a", "1")},
		{"a=1&b=2", fields("a", "1", "b", "2")},
		{"b=2&a=1", fields("b", "2", "a", "1")},
		{"a=&b=&c=", fields("a", "", "b", "", "c", "")},
		{"a=1&b=1&A=1", fields("a", "1", "b", "1", "A", "1")},
		{"a=a&aa=a&+a=a&a+=a&%00=a", fields("a", "a", "aa", "a", " a", "a", "a ", "a", "\x00", "a")},
		{"+=+", fields(" ", " ")},
		{"%2B=%2B", fields("+", "+")},
		{"%25=%2541", fields("%", "%41")},
		{"%3D=%3D%3D&%26=%26", fields("=", "==", "&", "&")},
		{"a%3D1%26b=2", fields("a=1&b", "2")},
		{"redirect_uri=https%3A%2F%2Fc1%2Fback%3Fx%3D1%26y&scope=a+b", fields("redirect_uri", "https://c1/back?x=1&y", "scope", "a b")},
		{"code=~AgAAAAE~&-._~=-._~", fields("code", "~AgAAAAE~", "-._~", "-._~")},
		{"%FF=%80&%C3%A9=%F0%9F%98%80&%EF%BF%BD=%0D%0A", fields("\xff", "\x80", "\u00e9", "\U0001f600", "\ufffd", "\r\n")},
		{"%3B=%3B&%2C=%22%27", fields(";", ";", ",", "\"'")},
	} {
		both(t, c.l, c.s)
	}
}

// P1001: whatever the fields are, they are printed: of no Name, of Names alike, and more than are read.
func TestPrintAny(t *testing.T) {
	for _, c := range []struct {
		l []api.Field
		s string
	}{
		{fields("", ""), "="},
		{fields("", "1", "", ""), "=1&="},
		{fields("a", "1", "a", "1", "a", "2"), "a=1&a=1&a=2"},
		{fields("", "", "a", "", "", ""), "=&a=&="},
		{make([]api.Field, 30), strings.Repeat("=&", 29) + "="},
	} {
		if got := query.Print(c.l); got != c.s {
			t.Errorf("Print of %d fields: %s, not %s", len(c.l), clip(got), clip(c.s))
		}
	}
	if got, want := query.Print(numbered(99)), print(numbered(99)); got != want {
		t.Errorf("Print of 99 fields: %s, not %s", clip(got), clip(want))
	}
}

// P1001, P1002: each byte in a Name and in a Value.
func TestEachByte(t *testing.T) {
	for c := range 256 {
		b := string([]byte{byte(c)})
		both(t, fields(b, b), sign(byte(c))+"="+sign(byte(c)))
		both(t, fields("x"+b+"y", b+b, "z", b), "x"+sign(byte(c))+"y="+sign(byte(c))+sign(byte(c))+"&z="+sign(byte(c)))
	}
	all := allBytes()
	both(t, fields(all, all, all+all, ""), written(all)+"="+written(all)+"&"+written(all+all)+"=")
}

// P1002: what is no form at all, alone, ahead of a field, behind one, and between two.
func TestRefusesForm(t *testing.T) {
	wrong := []string{
		"a", "ab", "+", "%3D", "a%3D1", "=", "=1", "==", "=a=", "a==", "a=1=", "a=1=2", "a==1", "a=b=c=d",
		"%=1", "a%=1", "a%2=1", "a%zz=1", "%61=1", "%2f=1", "%3d=1", "%20=1", " =1", "a b=1", "a/b=1", "\xff=1", "\u00e9=1", "a;b=1", "?a=1", "\x00=1",
		"a=%", "a=%2", "a=%zz", "a=%61", "a=%2f", "a=%20", "a= ", "a=b c", "a=/", "a=\xff", "a=\u00e9", "a=1;b=2", "a=1#", "a=1\n", "a=\x00",
		"%=%", "a%41=b", "a=b%41", "a[]=1", "a=[1]", "a=1,2", "=%", "%=",
	}
	for _, w := range wrong {
		for _, s := range []string{w, "x=1&" + w, w + "&y=2", "x=1&" + w + "&y=2", w + "&" + w} {
			refuses(t, s, api.ErrForm)
		}
	}
	for _, s := range []string{"&", "&&", "a=1&", "&a=1", "a=1&&b=2", "&a=1&", "a&=1", "a=1&b", "b&a=1", "a&a", "a=1& b=2", "a=1 &b=2", "a=1&amp;b=2"} {
		refuses(t, s, api.ErrForm)
	}
}

// P1002: a Name for the second time, wherever, whatever the Values are.
func TestRefusesTwice(t *testing.T) {
	for _, s := range []string{
		"a=1&a=1", "a=1&a=2", "a=&a=", "a=1&b=2&a=3", "b=2&a=1&a=1", "a=1&b=1&c=1&b=1&d=1", "+=1&+=2", "%00=&%00=", "%FF=1&x=2&%FF=1", "a=1&a=1&a=1",
		"a+b=1&a+b=2", "a=1&%3D=1&%3D=1",
	} {
		refuses(t, s, api.ErrTwice)
	}
	for n := 2; n <= 24; n++ {
		l := numbered(n)
		for i := range n - 1 {
			l[n-1].Name = l[i].Name
			refuses(t, print(l), api.ErrTwice)
		}
	}
	parses(t, "a=a&A=a&b=a&a%00=a&a.=a", fields("a", "a", "A", "a", "b", "a", "a\x00", "a", "a.", "a"), api.OK)
}

// P1002, P5: the first part in which something is wrong tells, and in one part its form ahead of its Name's twin.
func TestFirstFault(t *testing.T) {
	for _, c := range []struct {
		s string
		e api.Errno
	}{
		{"a=1&a=2&b", api.ErrTwice}, {"a=1&a=2&%=1", api.ErrTwice}, {"a=1&a=2&=1", api.ErrTwice}, {"a=1&a=2&", api.ErrTwice}, {"a=1&b=2&a=3&a=%", api.ErrTwice},
		{"a=1&b&a=2", api.ErrForm}, {"a=1&%=1&a=2", api.ErrForm}, {"a=1&=1&a=2", api.ErrForm}, {"a=1&&a=2", api.ErrForm}, {"a&a=1&a=1", api.ErrForm}, {"a=%&a=1&a=1", api.ErrForm},
		{"a=1&a=%", api.ErrForm}, {"a=1&a= ", api.ErrForm}, {"a=1&a=1=1", api.ErrForm}, {"a=1&a", api.ErrForm}, {"a=1&%61=1", api.ErrForm}, {"a=1&a=%61", api.ErrForm},
	} {
		refuses(t, c.s, c.e)
	}
}

// P1002: how many parts there may be, and that their number tells ahead of all else.
func TestMany(t *testing.T) {
	if api.MaxPairs != 24 {
		t.Fatal(api.MaxPairs)
	}
	for n := range 25 {
		both(t, numbered(n), print(numbered(n)))
	}
	for _, n := range []int{25, 26, 48, 49, 1000} {
		refuses(t, print(numbered(n)), api.ErrMany)
	}
	for _, part := range []string{"", "a", "=", "=1", "%", "a=1", "a=%"} {
		fault := api.ErrForm
		if part == "a=1" {
			fault = api.ErrTwice
		}
		refuses(t, strings.Repeat(part+"&", 23)+part, fault)
		refuses(t, strings.Repeat(part+"&", 24)+part, api.ErrMany)
		refuses(t, print(numbered(23))+"&"+part+"&"+part, api.ErrMany)
	}
	refuses(t, print(numbered(24))+"&", api.ErrMany)
	refuses(t, "&"+print(numbered(24)), api.ErrMany)
	refuses(t, print(numbered(23))+"&", api.ErrForm)
	refuses(t, print(numbered(23))+"&n0=", api.ErrTwice)
	parses(t, print(numbered(23))+"&n=%26%26", append(numbered(23), api.Field{Name: "n", Value: "&&"}), api.OK)
}

// P1002: each short text of the signs at which reading may go wrong.
func TestEachReading(t *testing.T) {
	r := newReader()
	taken, refused := 0, map[api.Errno]int{}
	var try func(front string, more int)
	try = func(front string, more int) {
		want, fault := r.parse(front)
		parses(t, front, want, fault)
		if fault == api.OK {
			taken++
			if got := query.Print(want); got != front {
				t.Errorf("%q is printed %q", front, got)
			}
		}
		refused[fault]++
		if more == 0 {
			return
		}
		for _, s := range []string{"&", "=", "a", "b", "+", "%26", "%", " "} {
			try(front+s, more-1)
		}
	}
	try("", 6)
	try("a=&", 5)
	if taken < 1000 || refused[api.ErrForm] < 1000 || refused[api.ErrTwice] < 100 {
		t.Errorf("%d taken, %v", taken, refused)
	}
}

// P1002: printed fields with a byte changed, lost or brought in, and texts drawn from pieces.
func TestDrawn(t *testing.T) {
	r := newReader()
	draw := rand.New(rand.NewSource(1002))
	faults := map[api.Errno]int{}
	try := func(s string) {
		want, fault := r.parse(s)
		parses(t, s, want, fault)
		faults[fault]++
	}
	of := []string{"&", "&", "=", "=", "a", "b", "a=", "b=1", "+", "%00", "%FF", "%3D", "%", "%61", "\xff", "c=%26", "&d=", "~AgAAAAE~", "&a=", "&e=x", "a=1&", "b=&"}
	for range 20000 {
		var s strings.Builder
		for range draw.Intn(9) {
			s.WriteString(of[draw.Intn(len(of))])
		}
		try(s.String())
	}
	const some = "&=+%aA01 \xff;"
	for range 300 {
		s := query.Print(drawn(draw, 1+draw.Intn(25)))
		try(s)
		for range 30 {
			i := draw.Intn(len(s))
			b := string(some[draw.Intn(len(some))])
			try(s[:i] + s[i+1:])
			try(s[:i] + b + s[i:])
			try(s[:i] + b + s[i+1:])
		}
	}
	for _, e := range []api.Errno{api.OK, api.ErrForm, api.ErrTwice, api.ErrMany} {
		if faults[e] < 100 {
			t.Errorf("%v: %d times", e, faults[e])
		}
	}
}

// drawn makes n fields of unlike Names, none empty, of whatever bytes.
func drawn(draw *rand.Rand, n int) []api.Field {
	var l []api.Field
	names := map[string]bool{"": true}
	for len(l) < n {
		name, value := make([]byte, 1+draw.Intn(3)), make([]byte, draw.Intn(6))
		draw.Read(name)
		draw.Read(value)
		if !names[string(name)] {
			names[string(name)] = true
			l = append(l, api.Field{Name: string(name), Value: string(value)})
		}
	}
	return l
}

// P1003: what is printed of fields with unlike Names is parsed, and is those fields.
func TestPrintedIsParsed(t *testing.T) {
	draw := rand.New(rand.NewSource(1003))
	for range 5000 {
		l := drawn(draw, draw.Intn(25))
		both(t, l, print(l))
	}
	for _, s := range []string{"%41", "a b", "a+b", "&a=1", "=", "a=1&b=2", "%", "\r\n", allBytes(), strings.Repeat("&=", 99)} {
		both(t, fields(s, s, s+"x", "", "x"+s, s), print(fields(s, s, s+"x", "", "x"+s, s)))
	}
	both(t, fields("a=1&b", "2&c=3", "a", "1", "b", "2"), "a%3D1%26b=2%26c%3D3&a=1&b=2")
}

// P1002: what is printed of an empty Name, of Names alike, or of more fields than may be, is not.
func TestPrintedAndRefused(t *testing.T) {
	refuses(t, query.Print(fields("", "")), api.ErrForm)
	refuses(t, query.Print(fields("a", "1", "", "2")), api.ErrForm)
	refuses(t, query.Print(fields("a", "1", "b", "", "a", "2")), api.ErrTwice)
	refuses(t, query.Print(numbered(25)), api.ErrMany)
}

// P1002: the Value of the first field of a Name.
func TestGet(t *testing.T) {
	l := fields("a", "1", "b", "", "a", "2", "", "none", "A", "3", "b", "4", "a ", "5", "\xff", "\x00", "", "no")
	for _, c := range []struct {
		name, value string
		is          bool
	}{
		{"a", "1", true}, {"b", "", true}, {"", "none", true}, {"A", "3", true}, {"a ", "5", true}, {"\xff", "\x00", true},
		{"c", "", false}, {"B", "", false}, {"aa", "", false}, {" a", "", false}, {"a+", "", false}, {"%FF", "", false}, {"\ufffd", "", false}, {"1", "", false}, {"\x00", "", false},
	} {
		if got, is := query.Get(l, c.name); got != c.value || is != c.is {
			t.Errorf("Get(%q): %q, %v", c.name, got, is)
		}
	}
	for _, none := range [][]api.Field{nil, {}, l[:0], l[3:3]} {
		for _, name := range []string{"", "a"} {
			if got, is := query.Get(none, name); got != "" || is {
				t.Errorf("Get(%q) of no fields: %q, %v", name, got, is)
			}
		}
	}
	if got, is := query.Get(l[:2], "A"); got != "" || is {
		t.Errorf("Get looked into the spare room: %q, %v", got, is)
	}
	long := numbered(1000)
	for _, f := range long {
		if got, is := query.Get(long, f.Name); got != f.Value || !is {
			t.Errorf("Get(%q): %q, %v", f.Name, got, is)
		}
	}
}

// P1: long texts of whatever bytes, and many fields.
func TestLong(t *testing.T) {
	const n = 1 << 20
	long := strings.Repeat("x", n)
	both(t, fields(long, long, long+"y", "", long+"z", long), long+"="+long+"&"+long+"y=&"+long+"z="+long)
	refuses(t, long, api.ErrForm)
	refuses(t, strings.Repeat("=", n), api.ErrForm)
	refuses(t, strings.Repeat("a=", n), api.ErrForm)
	refuses(t, strings.Repeat("%", n), api.ErrForm)
	refuses(t, long+"=%", api.ErrForm)
	refuses(t, long+"=&"+long+"=", api.ErrTwice)
	refuses(t, strings.Repeat("&", n), api.ErrMany)
	refuses(t, strings.Repeat("a=1&", n), api.ErrMany)
	many := numbered(100000)
	if got, want := query.Print(many), print(many); got != want {
		t.Errorf("Print of many fields: %s", clip(got))
	}
}

// P1: any text of two bytes, alone and as a Value.
func TestAnyBytes(t *testing.T) {
	r := newReader()
	for a := range 256 {
		for b := range 256 {
			two := string([]byte{byte(a), byte(b)})
			for _, s := range []string{two, "a=" + two} {
				want, fault := r.parse(s)
				parses(t, s, want, fault)
			}
		}
	}
}

// P2: the fields that are handed in, and their spare room, stay.
func TestFieldsStay(t *testing.T) {
	l := fields("a b", "1 2", "a b", "x&y", "spare", "%", "", "")
	was := slices.Clone(l)
	query.Print(l[:2])
	query.Get(l[:2], "a b")
	query.Get(l[:2], "spare")
	if !slices.Equal(l, was) {
		t.Error("what was handed in was changed")
	}
}

// P2: answers are new memory, spare room too: none is shared with what was handed in, nor by two answers.
func TestAnswersAreNew(t *testing.T) {
	b := []byte("abc=12345&bcd=23456&a+b=c%26d&empty=")
	s := unsafe.String(&b[0], len(b))
	want := fields("abc", "12345", "bcd", "23456", "a b", "c&d", "empty", "")
	first, e := query.Parse(s)
	second, also := query.Parse(s)
	if e != api.OK || also != api.OK {
		t.Fatal(e, also)
	}
	places := map[*api.Field]bool{}
	for _, l := range [][]api.Field{first, second} {
		room := l[:cap(l)]
		for i := range room {
			if places[&room[i]] {
				t.Error("two answers share memory")
			}
			places[&room[i]] = true
		}
	}
	clear(b)
	if !slices.Equal(first, want) || !slices.Equal(second, want) {
		t.Errorf("an answer changed with the text that was handed in: %v, %v", first, second)
	}
}

// P2: what Get and Print answer does not hang on the texts that were handed in.
func TestTextsAreNew(t *testing.T) {
	name, value := []byte("name"), []byte("value")
	l := fields(unsafe.String(&name[0], len(name)), unsafe.String(&value[0], len(value)))
	got, is := query.Get(l, "name")
	printed := query.Print(l)
	clear(name)
	clear(value)
	if got != "value" || !is || printed != "name=value" {
		t.Errorf("%q, %v, %q", got, is, printed)
	}
}

// P3
func TestSameAnswers(t *testing.T) {
	l := drawn(rand.New(rand.NewSource(3)), 24)
	s := print(l)
	for range 20 {
		both(t, l, s)
		refuses(t, s+"&x=", api.ErrMany)
		refuses(t, "a=1&a=1", api.ErrTwice)
		refuses(t, "a", api.ErrForm)
		parses(t, "", nil, api.OK)
		if got, is := query.Get(l, l[7].Name); got != l[7].Value || !is {
			t.Errorf("Get: %q, %v", got, is)
		}
	}
}
