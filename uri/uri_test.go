package uri_test

import (
	"fmt"
	"math/rand"
	"regexp"
	"runtime"
	"slices"
	"strconv"
	"strings"
	"testing"
	"unsafe"

	"countersign/api"
	"countersign/query"
	"countersign/uri"
)

const (
	hostSigns  = "abcdefghijklmnopqrstuvwxyz0123456789-."
	plainSigns = "ABCDEFGHIJKLMNOPQRSTUVWXYZabcdefghijklmnopqrstuvwxyz0123456789-._~"
)

var (
	hosts = regexp.MustCompile(`\A[a-z0-9.-]{1,64}\z`)
	paths = regexp.MustCompile(`\A/[A-Za-z0-9._~/-]*\z`)
)

// target and print are Target and Print as the document words them, of what may be or not.
func target(u api.URI) string {
	if len(u.Query) == 0 {
		return u.Path
	}
	return u.Path + "?" + query.Print(u.Query)
}

func print(u api.URI) string { return "https://" + u.Host + target(u) }

// may is May as the document words it.
func may(u api.URI) bool {
	names := map[string]bool{"": true}
	for _, f := range u.Query {
		if names[f.Name] {
			return false
		}
		names[f.Name] = true
	}
	return hosts.MatchString(u.Host) && paths.MatchString(u.Path) && len(u.Query) <= 24 && len(print(u)) <= 1024
}

// split is Split as the document words it.
func split(s string) (string, []api.Field, api.Errno) {
	if len(s) > 1024 {
		return "", nil, api.ErrBig
	}
	front, behind := s, ""
	if i := strings.IndexByte(s, '?'); i >= 0 {
		front, behind = s[:i], s[i+1:]
		if behind == "" {
			return "", nil, api.ErrForm
		}
	}
	if !paths.MatchString(front) {
		return "", nil, api.ErrForm
	}
	l, e := query.Parse(behind)
	if e != api.OK {
		return "", nil, e
	}
	return front, l, api.OK
}

// parse is Parse as the document words it.
func parse(s string) (api.URI, api.Errno) {
	if len(s) > 1024 {
		return api.URI{}, api.ErrBig
	}
	if len(s) < 8 || s[:8] != "https://" {
		return api.URI{}, api.ErrForm
	}
	rest := s[8:]
	i := strings.IndexByte(rest, '/')
	if i < 0 || !hosts.MatchString(rest[:i]) {
		return api.URI{}, api.ErrForm
	}
	path, l, e := split(rest[i:])
	if e != api.OK {
		return api.URI{}, e
	}
	return api.URI{Host: rest[:i], Path: path, Query: l}, api.OK
}

func same(a, b api.URI) bool {
	return a.Host == b.Host && a.Path == b.Path && slices.Equal(a.Query, b.Query)
}

func clip(s string) string {
	if len(s) > 80 {
		return fmt.Sprintf("%q.. (%d bytes)", s[:80], len(s))
	}
	return strconv.Quote(s)
}

func told(u api.URI) string { return clip(fmt.Sprint(u)) }

// parses holds Parse of s against what it must answer.
func parses(t *testing.T, s string, want api.URI, fault api.Errno) {
	t.Helper()
	if got, e := uri.Parse(s); e != fault || !same(got, want) {
		t.Errorf("Parse(%s): %s, %v, not %s, %v", clip(s), told(got), e, told(want), fault)
	}
}

func refuses(t *testing.T, s string, fault api.Errno) {
	t.Helper()
	parses(t, s, api.URI{}, fault)
}

// splits holds Split of s against what it must answer.
func splits(t *testing.T, s, path string, l []api.Field, fault api.Errno) {
	t.Helper()
	gotPath, got, e := uri.Split(s)
	if e != fault || gotPath != path || !slices.Equal(got, l) {
		t.Errorf("Split(%s): %s, %s, %v, not %s, %d fields, %v", clip(s), clip(gotPath), clip(fmt.Sprint(got)), e, clip(path), len(l), fault)
	}
}

func splitsNot(t *testing.T, s string, fault api.Errno) {
	t.Helper()
	splits(t, s, "", nil, fault)
}

// both holds all calls against u, which may be, and its target.
func both(t *testing.T, u api.URI, target string) {
	t.Helper()
	s := "https://" + u.Host + target
	if !uri.May(u) {
		t.Errorf("May(%s): no", told(u))
	}
	if got := uri.Target(u); got != target {
		t.Errorf("Target(%s): %s, not %s", told(u), clip(got), clip(target))
	}
	if got := uri.Print(u); got != s {
		t.Errorf("Print(%s): %s, not %s", told(u), clip(got), clip(s))
	}
	parses(t, s, u, api.OK)
	splits(t, target, u.Path, u.Query, api.OK)
}

// mayNot holds the calls against u, which may not be.
func mayNot(t *testing.T, u api.URI) {
	t.Helper()
	if uri.May(u) {
		t.Errorf("May(%s): yes", told(u))
	}
	if got := uri.Target(u); got != "" {
		t.Errorf("Target(%s): %s, not nothing", told(u), clip(got))
	}
	if got := uri.Print(u); got != "" {
		t.Errorf("Print(%s): %s, not nothing", told(u), clip(got))
	}
}

// asWorded holds the calls against u, whatever it is, as the document words them. It answers whether u may be.
func asWorded(t *testing.T, u api.URI) bool {
	t.Helper()
	if !may(u) {
		mayNot(t, u)
		return false
	}
	both(t, u, target(u))
	return true
}

// read holds Parse and Split of s against the document's words. It answers Parse's error.
func read(t *testing.T, s string) api.Errno {
	t.Helper()
	u, fault := parse(s)
	parses(t, s, u, fault)
	path, l, e := split(s)
	splits(t, s, path, l, e)
	if fault == api.OK {
		if got := uri.Print(u); got != s {
			t.Errorf("%s is printed %s", clip(s), clip(got))
		}
	}
	return fault
}

// fields makes fields of names and values by turns.
func fields(texts ...string) []api.Field {
	var l []api.Field
	for i := 0; i < len(texts); i += 2 {
		l = append(l, api.Field{Name: texts[i], Value: texts[i+1]})
	}
	return l
}

// of makes a URI of a Host, a Path, and names and values by turns.
func of(host, path string, texts ...string) api.URI {
	return api.URI{Host: host, Path: path, Query: fields(texts...)}
}

// numbered makes n fields of unlike Names.
func numbered(n int) []api.Field {
	var l []api.Field
	for i := range n {
		l = append(l, api.Field{Name: "n" + strconv.Itoa(i), Value: strconv.Itoa(i)})
	}
	return l
}

func TestExamples(t *testing.T) {
	parses(t, "https://as/par?a=b", of("as", "/par", "a", "b"), api.OK)
	refuses(t, "https://as", api.ErrForm)
}

// P1101, P1102, P1103: by hand, both ways.
func TestByHand(t *testing.T) {
	for _, c := range []struct {
		target string
		u      api.URI
	}{
		{"/", of("as", "/")},
		{"/", api.URI{Host: "as", Path: "/", Query: []api.Field{}}},
		{"/", of("a", "/")},
		{"/", of("-", "/")},
		{"/", of(".", "/")},
		{"/", of("..", "/")},
		{"/", of("0", "/")},
		{"/", of("c-1.example.org", "/")},
		{"/", of(hostSigns, "/")},
		{"//", of("as", "//")},
		{"///", of("as", "///")},
		{"/par", of("as", "/par")},
		{"/par/", of("as", "/par/")},
		{"//as/par", of("as", "//as/par")},
		{"/../.", of("as", "/../.")},
		{"/" + plainSigns, of("as", "/"+plainSigns)},
		{"/~AgAAAAE~/-_.~", of("as", "/~AgAAAAE~/-_.~")},
		{"/?a=", of("as", "/", "a", "")},
		{"/?a=b", of("as", "/", "a", "b")},
		{"//?a=b", of("as", "//", "a", "b")},
		{"/par?a=b&b=a&A=b", of("as", "/par", "a", "b", "b", "a", "A", "b")},
		{"/?%2F=%2F&%3F=%3F&%23=%23", of("as", "/", "/", "/", "?", "?", "#", "#")},
		{"/?+=+&%2B=%2B&%25=%2541", of("as", "/", " ", " ", "+", "+", "%", "%41")},
		{"/?%3D=%3D&%26=%26&%00=%FF", of("as", "/", "=", "=", "&", "&", "\x00", "\xff")},
		{"/auth?request_uri=https%3A%2F%2Fas%2Fpar%3Fx%3D1%26y&scope=a+b", of("as", "/auth", "request_uri", "https://as/par?x=1&y", "scope", "a b")},
		{"/back?code=~AgAAAAE~&iss=https%3A%2F%2Fas", of("c1", "/back", "code", "~AgAAAAE~", "iss", "https://as")},
		{"/?https%3A%2F%2Fas%2F=%C3%A9", of("as", "/", "https://as/", "\u00e9")},
	} {
		both(t, c.u, c.target)
	}
}

// P1101: a Host, of each length about the edges and of each byte, wherever it stands.
func TestHost(t *testing.T) {
	for n := range 70 {
		host := strings.Repeat("h", n)
		if n >= 1 && n <= 64 {
			both(t, of(host, "/p", "a", "b"), "/p?a=b")
			continue
		}
		mayNot(t, of(host, "/p", "a", "b"))
		refuses(t, "https://"+host+"/p?a=b", api.ErrForm)
	}
	for c := range 256 {
		b := string([]byte{byte(c)})
		for _, host := range []string{b, b + "h", "h" + b, "h" + b + "h", strings.Repeat("h", 63) + b, b + strings.Repeat("h", 63)} {
			if strings.Contains(hostSigns, b) {
				both(t, of(host, "/"), "/")
				continue
			}
			mayNot(t, of(host, "/"))
			mayNot(t, of(host, "/", "a", "b"))
			if b != "/" || host[0] == '/' {
				refuses(t, "https://"+host+"/", api.ErrForm)
			}
		}
	}
	for _, host := range []string{"", "As", "AS", "a_s", "as:443", "u@as", "as/", "/as", "/", "a/s", "as?", "as#", "a s", " as", "as ", "as\n", "[::1]", "%61s", "\u00e9", "\uff41s", "as\x00", "https://as", "as/x?a=b", strings.Repeat("a.", 33)} {
		mayNot(t, of(host, "/"))
		mayNot(t, of(host, "/", "a", "b"))
		mayNot(t, of(host, ""))
	}
}

// P1101, P1102: a Path, of each byte, wherever it stands.
func TestPath(t *testing.T) {
	for c := range 256 {
		b := string([]byte{byte(c)})
		for _, path := range []string{"/" + b, "/" + b + "p", "/p" + b, "/p" + b + "q", "//" + b + "/", "/p/" + b} {
			if b == "/" || strings.Contains(plainSigns, b) {
				both(t, of("as", path), path)
				both(t, of("as", path, "a", "b"), path+"?a=b")
				continue
			}
			mayNot(t, of("as", path))
			mayNot(t, of("as", path, "a", "b"))
			if b != "?" {
				refuses(t, "https://as"+path, api.ErrForm)
				refuses(t, "https://as"+path+"?a=b", api.ErrForm)
				splitsNot(t, path, api.ErrForm)
				splitsNot(t, path+"?a=b", api.ErrForm)
			}
		}
		if b != "/" {
			for _, path := range []string{b, b + "/", b + b} {
				mayNot(t, of("as", path))
				mayNot(t, of("as", path, "a", "b"))
				splitsNot(t, path, api.ErrForm)
				splitsNot(t, path+"?a=b", api.ErrForm)
			}
		}
	}
	for _, path := range []string{"", "p", "p/", "/ ", "/a b", "/%20", "/%2F", "/%", "/+", "/a=b", "/a&b", "/?", "/?a=b", "/a?a=b", "/#", "/a;b", "/a,b", "/a:b", "/@", "/!", "/*", "*", "/\u00e9", "/\ufffd", "/\xc3", "/\x00", "/\n", "\n/", " /", "https://as/"} {
		mayNot(t, of("as", path))
		mayNot(t, of("as", path, "a", "b"))
	}
}

// P1101: no Name empty, none twice.
func TestQuery(t *testing.T) {
	for _, l := range [][]api.Field{
		fields("", ""), fields("", "x"), fields("a", "b", "", ""), fields("", "b", "a", ""), fields("", "", "", ""),
		fields("a", "b", "a", "b"), fields("a", "", "a", ""), fields("a", "1", "a", "2"), fields("a", "1", "b", "1", "a", "2"), fields("b", "1", "a", "1", "a", "2"), fields(" ", "", " ", "1"), fields("\xff", "", "b", "", "\xff", ""),
	} {
		mayNot(t, api.URI{Host: "as", Path: "/", Query: l})
		mayNot(t, api.URI{Host: "as", Path: "/par", Query: l})
	}
	for c := range 256 {
		b := string([]byte{byte(c)})
		asWorded(t, of("as", "/", b, ""))
		asWorded(t, of("as", "/par", "x"+b, b+b, b+"x", b, "y", ""))
	}
	both(t, of("as", "/", "a", "a", "A", "a", "aa", "a", "a ", "a", "a+", "a", "a\x00", "a"), "/?a=a&A=a&aa=a&a+=a&a%2B=a&a%00=a")
}

// P1101, P1102: how many fields there may be.
func TestMany(t *testing.T) {
	for n := range 60 {
		u := api.URI{Host: "as", Path: "/", Query: numbered(n)}
		if n <= 24 {
			both(t, u, target(u))
			continue
		}
		mayNot(t, u)
		refuses(t, print(u), api.ErrMany)
		splitsNot(t, target(u), api.ErrMany)
	}
	for n := 2; n <= 24; n++ {
		for i := range n - 1 {
			u := api.URI{Host: "as", Path: "/", Query: numbered(n)}
			u.Query[n-1].Name = u.Query[i].Name
			mayNot(t, u)
			refuses(t, print(u), api.ErrTwice)
			splitsNot(t, target(u), api.ErrTwice)
			u.Query[n-1].Name = ""
			mayNot(t, u)
			u.Query[n-1].Name = "n"
			both(t, u, target(u))
		}
	}
	mayNot(t, api.URI{Host: "as", Path: "/", Query: make([]api.Field, 25)})
	mayNot(t, api.URI{Host: "as", Path: "/", Query: make([]api.Field, 10000)})
}

// P1101: what is written is at most MaxURI bytes, by whichever piece it grows.
func TestLength(t *testing.T) {
	if api.MaxURI != 1024 {
		t.Fatal(api.MaxURI)
	}
	host := strings.Repeat("h", 64)
	for _, u := range []api.URI{of("as", "/"), of(host, "/"), of("as", "/", "a", "b"), of(host, "/par/", "a", "b", "c", "d"), of("as", "/", " ", "+"), of("a", "/", "\xff", "/?")} {
		for more := -3; more <= 3; more++ {
			left := 1024 + more - len(print(u))
			grown := []api.URI{u, u, u, u}
			grown[0].Path += strings.Repeat("p", left)
			grown[1].Path += strings.Repeat("/", left)
			if len(u.Query) > 0 {
				grown[2].Query, grown[3].Query = slices.Clone(u.Query), slices.Clone(u.Query)
				grown[2].Query[len(u.Query)-1].Value += strings.Repeat("%", left/3) + strings.Repeat(" ", left%3)
				grown[3].Query[0].Name += strings.Repeat("&", left/3) + strings.Repeat("x", left%3)
			} else {
				grown = grown[:2]
			}
			for _, g := range grown {
				if len(print(g)) != 1024+more {
					t.Fatal(len(print(g)))
				}
				if more <= 0 {
					both(t, g, target(g))
					continue
				}
				mayNot(t, g)
				refuses(t, print(g), api.ErrBig)
			}
		}
	}
	for _, u := range []api.URI{of("as", "/", "a", strings.Repeat("%", 337)), of("as", "/", "a", strings.Repeat("%", 338)), of("as", "/", strings.Repeat("\xff", 500), ""), of(strings.Repeat("h", 1000), "/"), of(strings.Repeat("h", 1100), "/")} {
		asWorded(t, u)
	}
}

// P1102: what is no target, or begins otherwise, or has no Host.
func TestRefusesForm(t *testing.T) {
	for _, s := range []string{
		"", "/", "/par", "//as/par", "as/par", "as", "h", "https", "https:", "https:/", "https:/as/", "https:as/", "https//as/", "https://", "https:///", "https:////", "https:///as/", "https://?", "https://?a=b", "https://#/",
		"http://as/", "HTTPS://as/", "Https://as/", "httpss://as/", "ftp://as/", "://as/", " https://as/", "\nhttps://as/", "https ://as/", "https: //as/", "https:\\\\as\\", "xhttps://as/", "https://https://as/",
		"https://as", "https://as?a=b", "https://as?a=b/", "https://as?/", "https://as#/", "https://as:443/", "https://u@as/", "https://u:p@as/", "https://As/", "https://a_s/", "https://a s/", "https:// as/", "https://as /", "https://%61s/", "https://\u00e9/", "https://[::1]/", "https://a~/", "https://*/",
		"https://as/?", "https://as//?", "https://as/par?", "https://as/??", "https://as/??a=b", "https://as/?a=b?", "https://as/?a=b?c=d", "https://as/?a=1?2", "https://as/?a=b/", "https://as/?/=b",
		"https://as/#", "https://as/#x", "https://as/par#?a=b", "https://as/?a=b#x", "https://as/?#", "https://as/a b", "https://as/%41", "https://as/+", "https://as/a=b", "https://as/a&b=c", "https://as/\u00e9", "https://as/\x00", "https://as/\n", "https://as/par ", "https://as/ ?a=b", "https://as/par\r\n",
		"https://as/?a", "https://as/?=", "https://as/?=b", "https://as/?&", "https://as/?a=b&", "https://as/?&a=b", "https://as/?a=%", "https://as/?%61=b", "https://as/?a= ", "https://as/?a=b=c", "https://as/?%", "https://as/?a=1&a",
	} {
		refuses(t, s, api.ErrForm)
	}
	for _, s := range []string{
		"", "?", "?a=b", "a", "a/", "a?a=b", "*", " /", "/ ", "/a b", "/?", "//?", "/par?", "/??", "/??a=b", "/?a=b?", "/?a=b?c=d", "/?a=b/", "/#", "/?a=b#", "/%41", "/+", "/a=b", "/a&a=b", "/\u00e9", "/\xff", "/\x00",
		"/?a", "/?=", "/?=b", "/?&", "/?a=b&", "/?&a=b", "/?a=%", "/?%61=b", "/?a= ", "/?a=b=c", "https://as/", "https:/", "as/par", "/?a=1&a",
	} {
		splitsNot(t, s, api.ErrForm)
	}
}

// P1102, P5: the first error in its order tells.
func TestFirstFault(t *testing.T) {
	many, twice := "?"+strings.Repeat("&", 24), "?a=1&a=2"
	for _, query := range []string{many, twice, "?", "?a", "?a=b", ""} {
		fault := map[string]api.Errno{many: api.ErrMany, twice: api.ErrTwice, "?": api.ErrForm, "?a": api.ErrForm}[query]
		refuses(t, "http://as/"+query, api.ErrForm)
		refuses(t, "https://As/"+query, api.ErrForm)
		refuses(t, "https:///"+query, api.ErrForm)
		refuses(t, "https://as"+query, api.ErrForm)
		refuses(t, "https://as/ "+query, api.ErrForm)
		splitsNot(t, "/ "+query, api.ErrForm)
		splitsNot(t, "a"+query, api.ErrForm)
		splitsNot(t, query, api.ErrForm)
		if query != "" && query != "?a=b" {
			refuses(t, "https://as/"+query, fault)
			splitsNot(t, "/"+query, fault)
		}
		for _, front := range []string{"https://as/", "http://as/", "https://As/", "https:///", "https://as/ ", "", "/"} {
			refuses(t, front+strings.Repeat("x", 1025)+query, api.ErrBig)
			splitsNot(t, front+strings.Repeat("x", 1025)+query, api.ErrBig)
		}
	}
	refuses(t, "https://as/?a=1&a=2&b", api.ErrTwice)
	refuses(t, "https://as/?a=1&b&a=2", api.ErrForm)
	for _, sign := range []string{"x", " ", "/", "?", "&", "h", "\xff", "\x00"} {
		refuses(t, strings.Repeat(sign, 1024), api.ErrForm)
		refuses(t, strings.Repeat(sign, 1025), api.ErrBig)
		splitsNot(t, strings.Repeat(sign, 1025), api.ErrBig)
		if sign != "/" {
			splitsNot(t, strings.Repeat(sign, 1024), api.ErrForm)
		}
	}
	splits(t, strings.Repeat("/", 1024), strings.Repeat("/", 1024), nil, api.OK)
	splits(t, "/?a="+strings.Repeat("b", 1020), "/", fields("a", strings.Repeat("b", 1020)), api.OK)
	splitsNot(t, "/?a="+strings.Repeat("b", 1021), api.ErrBig)
	splitsNot(t, "/?a="+strings.Repeat("b", 1019)+"=", api.ErrForm)
}

// P1102: each short text of the signs at which reading may go wrong.
func TestEachReading(t *testing.T) {
	faults := map[api.Errno]int{}
	var try func(front string, more int)
	try = func(front string, more int) {
		faults[read(t, front)]++
		if more == 0 {
			return
		}
		for _, s := range []string{"/", "?", "a", "=", "&", "%", " ", "B"} {
			try(front+s, more-1)
		}
	}
	try("", 5)
	try("https://", 6)
	try("https://a/?a=&", 5)
	try("https://a/", 5)
	try("https:", 3)
	if faults[api.OK] < 500 || faults[api.ErrForm] < 1000 || faults[api.ErrTwice] < 100 {
		t.Error(faults)
	}
}

// P1101: each URI of short pieces at which it may go wrong, so that one piece may look like another.
func TestEachURI(t *testing.T) {
	short := []string{""}
	for i := 0; i < len(short) && len(short[i]) < 3; i++ {
		for _, s := range []string{"/", "?", "a", "=", "%", "B"} {
			short = append(short, short[i]+s)
		}
	}
	is := 0
	for _, l := range [][]api.Field{nil, fields("a", ""), fields("", ""), fields("a", "", "a", ""), fields("/", "?", "a", "=")} {
		for _, host := range short {
			for _, path := range short {
				if asWorded(t, api.URI{Host: host, Path: path, Query: l}) {
					is++
				}
			}
		}
	}
	if is < 60 {
		t.Errorf("%d may be", is)
	}
}

// drawn makes a URI that is mostly one that may be.
func drawn(draw *rand.Rand) api.URI {
	text := func(signs string, n int) string {
		b := make([]byte, n)
		for i := range b {
			b[i] = signs[draw.Intn(len(signs))]
		}
		return string(b)
	}
	u := api.URI{Host: text(hostSigns, 1+draw.Intn(66)), Path: "/" + text(plainSigns+"//////", draw.Intn(30))}
	for range draw.Intn(26) {
		name, value := make([]byte, draw.Intn(9)+draw.Intn(2)), make([]byte, draw.Intn(9))
		draw.Read(name)
		draw.Read(value)
		u.Query = append(u.Query, api.Field{Name: string(name), Value: string(value)})
	}
	return u
}

// P1101, P1103: drawn URIs, and such with a byte brought in.
func TestDrawnURIs(t *testing.T) {
	draw := rand.New(rand.NewSource(1101))
	is, no := 0, 0
	for range 5000 {
		u := drawn(draw)
		v := u
		piece := &v.Host
		if draw.Intn(2) == 0 {
			piece = &v.Path
		}
		i := draw.Intn(len(*piece) + 1)
		*piece = (*piece)[:i] + string("/?=&#: A%+\x00a"[draw.Intn(12)]) + (*piece)[i:]
		for _, one := range []api.URI{u, v} {
			if asWorded(t, one) {
				is++
			} else {
				no++
			}
		}
	}
	if is < 1000 || no < 1000 {
		t.Error(is, no)
	}
}

// P1102: printed addresses with a byte changed, lost or brought in, and texts drawn from pieces.
func TestDrawnTexts(t *testing.T) {
	draw := rand.New(rand.NewSource(1102))
	faults := map[api.Errno]int{}
	pieces := []string{"https://", "https://as", "https://as/", "/", "/", "?", "?", "as", "par", "a=b", "&", "a=1&b=2", "&c=", "?a=1&a=", "?x=", "%2F", "%", "=", "#", ":", " ", "A", "\xff", "~AgAAAAE~", strings.Repeat("&x=", 20), strings.Repeat("p", 600)}
	for range 20000 {
		s := ""
		if draw.Intn(3) > 0 {
			s = "https://as/"
		}
		for range draw.Intn(8) {
			s += pieces[draw.Intn(len(pieces))]
		}
		faults[read(t, s)]++
	}
	const some = "/?&=+%:#aA0 \xff"
	for range 500 {
		s := print(drawn(draw))
		read(t, s)
		for range 20 {
			i := draw.Intn(len(s))
			b := string(some[draw.Intn(len(some))])
			for _, changed := range []string{s[:i] + s[i+1:], s[:i] + b + s[i:], s[:i] + b + s[i+1:], s[i:], s[:i]} {
				faults[read(t, changed)]++
			}
		}
	}
	for _, e := range []api.Errno{api.OK, api.ErrForm, api.ErrTwice, api.ErrMany, api.ErrBig} {
		if faults[e] < 100 {
			t.Errorf("%v: %d times", e, faults[e])
		}
	}
}

// P1: long texts and lists of whatever bytes.
func TestLong(t *testing.T) {
	const n = 1 << 20
	for _, sign := range []string{"/", "?", "a", "%", "\xff", "&", "a=1&"} {
		long := strings.Repeat(sign, n)
		for _, front := range []string{"", "/", "https://", "https://as/", "https://as/?", "https://as/?a="} {
			refuses(t, front+long, api.ErrBig)
			splitsNot(t, front+long, api.ErrBig)
		}
		mayNot(t, of(long, "/"))
		mayNot(t, of("as", "/"+long))
		mayNot(t, of("as", "/", long, ""))
		mayNot(t, of("as", "/", "a", "", "b", long))
	}
	mayNot(t, api.URI{Host: "as", Path: "/", Query: numbered(100000)})
	mayNot(t, api.URI{Host: "as", Path: "/", Query: make([]api.Field, n)})
}

// P1: what is far too long is not written out to see so.
func TestLittleMemory(t *testing.T) {
	long := strings.Repeat("%", 1<<20)
	u := api.URI{Host: "as", Path: "/"}
	for range 20 {
		u.Query = append(u.Query, api.Field{Name: long, Value: long})
	}
	var ahead, behind runtime.MemStats
	runtime.ReadMemStats(&ahead)
	mayNot(t, u)
	mayNot(t, api.URI{Host: "as", Path: "/" + long[:100], Query: u.Query[:1]})
	mayNot(t, of("as", "/", "a", "", "b", "", "c", long))
	runtime.ReadMemStats(&behind)
	if used := behind.TotalAlloc - ahead.TotalAlloc; used > 1<<20 {
		t.Errorf("%d bytes of memory", used)
	}
}

// P1: any text of two bytes, as each piece.
func TestAnyBytes(t *testing.T) {
	for a := range 256 {
		for b := range 256 {
			two := string([]byte{byte(a), byte(b)})
			for _, s := range []string{two, "/" + two, "https://" + two + "/", "https://as" + two, "https://as/?" + two} {
				read(t, s)
			}
			asWorded(t, of(two, "/"))
			asWorded(t, of("as", two))
		}
	}
}

// P2: the fields that are handed in, and their spare room, stay.
func TestFieldsStay(t *testing.T) {
	l := fields("a b", "1 2", "c", "x&y", "spare", "%", "", "")
	was := slices.Clone(l)
	for _, n := range []int{0, 2, 3, 4} {
		u := api.URI{Host: "as", Path: "/par", Query: l[:n]}
		uri.May(u)
		uri.Print(u)
		uri.Target(u)
		if !slices.Equal(l, was) || u.Host != "as" || u.Path != "/par" {
			t.Error("what was handed in was changed")
		}
	}
	both(t, api.URI{Host: "as", Path: "/", Query: l[:0]}, "/")
	both(t, api.URI{Host: "as", Path: "/", Query: l[:1]}, "/?a+b=1+2")
}

// P2: no two answers share memory, their spare room too.
func TestAnswersAreNew(t *testing.T) {
	places := map[*api.Field]bool{}
	for range 3 {
		u, e := uri.Parse("https://as/par?a=1&b=2&c=3")
		_, l, also := uri.Split("/par?a=1&b=2&c=3")
		if e != api.OK || also != api.OK {
			t.Fatal(e, also)
		}
		for _, room := range [][]api.Field{u.Query[:cap(u.Query)], l[:cap(l)]} {
			for i := range room {
				if places[&room[i]] {
					t.Error("two answers share memory")
				}
				places[&room[i]] = true
			}
		}
	}
}

// P2: what is answered does not hang on the texts that were handed in.
func TestTextsAreNew(t *testing.T) {
	whole := func(b []byte) string { return unsafe.String(&b[0], len(b)) }
	for _, query := range []string{"", "?abc=12345&b=c%26d"} {
		b, c := []byte("https://as/par"+query), []byte("/par"+query)
		want, _ := parse(string(b))
		u, e := uri.Parse(whole(b))
		path, l, also := uri.Split(whole(c))
		clear(b)
		clear(c)
		if e != api.OK || also != api.OK || u.Host != "as" || !same(u, want) || path != "/par" || !slices.Equal(l, want.Query) {
			t.Errorf("an answer changed with the text that was handed in: %v, %v, %q, %v, %v", u, e, path, l, also)
		}
		host, way, name, value := []byte("as"), []byte("/par"), []byte("abc"), []byte("12345")
		v := of(whole(host), whole(way))
		if query != "" {
			v.Query = fields(whole(name), whole(value), "b", "c&d")
		}
		target, printed := uri.Target(v), uri.Print(v)
		for _, b := range [][]byte{host, way, name, value} {
			clear(b)
		}
		if target != "/par"+query || printed != "https://as/par"+query {
			t.Errorf("an answer changed with what was handed in: %q, %q", target, printed)
		}
	}
}

// P3
func TestSameAnswers(t *testing.T) {
	u := of("as", "/par", "a", "b", "c", "d e")
	for range 20 {
		both(t, u, "/par?a=b&c=d+e")
		mayNot(t, of("As", "/par"))
		refuses(t, "https://as", api.ErrForm)
		refuses(t, "https://as/?a=1&a=1", api.ErrTwice)
		refuses(t, strings.Repeat("x", 1025), api.ErrBig)
		splitsNot(t, "/?", api.ErrForm)
	}
}
