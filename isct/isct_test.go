package isct

import (
	"bytes"
	"math/rand"
	"regexp"
	"slices"
	"strings"
	"testing"

	"glebe/api"
)

var (
	uncounted = regexp.MustCompile(`\A(?:[ \t\r\n]|#[^\n]*)*`)
	word      = regexp.MustCompile(`\A[-A-Za-z0-9.:_/]+`)
	mark      = regexp.MustCompile(`\A[{};,]`)
	whole     = regexp.MustCompile(`\A"(?:[ !#-\[\]-~]|\\["\\])*"`)
	begun     = regexp.MustCompile(`\A"(?:[ !#-\[\]-~]|\\["\\])*\\?`)
)

// tokensByPattern cuts by patterns: a second way, to hold the package's answers against.
func tokensByPattern(b []byte) ([]api.Tok, api.Err) {
	if len(b) > 1000000 {
		return nil, api.Err{Kind: 2, At: 1000000}
	}
	var all []api.Tok
	at := len(uncounted.Find(b))
	for at < len(b) {
		tok, length := signByPattern(b[at:])
		if length == 0 {
			return nil, api.Err{Kind: 1, At: at + len(begun.Find(b[at:]))}
		}
		if len(tok.Text) > 255 {
			return nil, api.Err{Kind: 2, At: at}
		}
		tok.At = at
		all = append(all, tok)
		at += length
		at += len(uncounted.Find(b[at:]))
	}
	return all, api.Err{}
}

// signByPattern answers the first sign of b, and how many bytes it is, 0 of none.
func signByPattern(b []byte) (api.Tok, int) {
	if found := word.Find(b); found != nil {
		return api.Tok{Kind: 2, Text: string(found)}, len(found)
	}
	if found := whole.Find(b); found != nil {
		inner := string(found[1 : len(found)-1])
		return api.Tok{Kind: 3, Text: strings.NewReplacer(`\\`, `\`, `\"`, `"`).Replace(inner)}, len(found)
	}
	if found := mark.Find(b); found != nil {
		return api.Tok{Kind: 4, Text: string(found)}, len(found)
	}
	return api.Tok{}, 0
}

func checkTokens(t *testing.T, b []byte) {
	t.Helper()
	want, wantErr := tokensByPattern(b)
	if got, e := Tokens(b); !slices.Equal(got, want) || e != wantErr {
		t.Fatalf("Tokens(%.80q) = %.200v, %v, want %.200v, %v", b, got, e, want, wantErr)
	}
}

// refuse asks for an Err, and for no sign beside it.
func refuse(t *testing.T, s string, want api.Err) {
	t.Helper()
	if got, e := Tokens([]byte(s)); len(got) != 0 || e != want {
		t.Errorf("Tokens(%.80q) = %.200v, %v, want none, %v", s, got, e, want)
	}
}

// short are all texts of up to 5 bytes of which each is one that begins, ends or breaks something.
func short() [][]byte {
	all := [][]byte{nil}
	from := 0
	for range 5 {
		to := len(all)
		for _, b := range all[from:to] {
			for _, c := range []byte("\"\\a;#\n\r!") {
				all = append(all, append(slices.Clone(b), c))
			}
		}
		from = to
	}
	return all
}

// pieces are what noise is made of.
var pieces = []string{
	"subnet", "10.0.0.0", "2001:db8::/32", "a", "Z", "-", "_", "/", "{", "}", ";", ",", " ", "\t", "\r\n", "\n", "\n", "\r", "# c\n", "#", "\"t\"", "\"", "\"", "\\", "\\\"", "\\\\", "'", "=", "!", "\x00", "\x7f", "\x80", "\xff", "é", "\v",
	strings.Repeat("w", 127), strings.Repeat("W", 128), "\"" + strings.Repeat("x", 255) + "\"", "\"" + strings.Repeat("y", 256) + "\"", strings.Repeat("z", 256),
}

// noise is texts of such pieces; most of them are taken from the first ones, so that many are read to their end.
func noise() [][]byte {
	source := rand.New(rand.NewSource(8))
	all := make([][]byte, 50000)
	for i := range all {
		for range source.Intn(12) {
			from := 21
			if source.Intn(10) == 0 {
				from = len(pieces)
			}
			all[i] = append(all[i], pieces[source.Intn(from)]...)
		}
	}
	return all
}

// Promise 8.1: ordinary signs with their places, and what does not count between them.
func TestTokens(t *testing.T) {
	for _, x := range []struct {
		s    string
		want []api.Tok
	}{
		{"", nil},
		{" \t\r\n\n\r", nil},
		{"#", nil},
		{"# a; \"b {\x00\xff!\\", nil},
		{"a;", []api.Tok{{Kind: 2, Text: "a"}, {Kind: 4, Text: ";", At: 1}}},
		{"option domain-name \"x.y\";", []api.Tok{{Kind: 2, Text: "option"}, {Kind: 2, Text: "domain-name", At: 7}, {Kind: 3, Text: "x.y", At: 19}, {Kind: 4, Text: ";", At: 24}}},
		{"subnet6 2001:DB8::/32 {\r\n\trange6 ::1;\r\n}", []api.Tok{{Kind: 2, Text: "subnet6"}, {Kind: 2, Text: "2001:DB8::/32", At: 8}, {Kind: 4, Text: "{", At: 22}, {Kind: 2, Text: "range6", At: 26}, {Kind: 2, Text: "::1", At: 33}, {Kind: 4, Text: ";", At: 36}, {Kind: 4, Text: "}", At: 39}}},
		{"{},;", []api.Tok{{Kind: 4, Text: "{"}, {Kind: 4, Text: "}", At: 1}, {Kind: 4, Text: ",", At: 2}, {Kind: 4, Text: ";", At: 3}}},
		{"1,2", []api.Tok{{Kind: 2, Text: "1"}, {Kind: 4, Text: ",", At: 1}, {Kind: 2, Text: "2", At: 2}}},
		{"1970/01/01 00:00:00", []api.Tok{{Kind: 2, Text: "1970/01/01"}, {Kind: 2, Text: "00:00:00", At: 11}}},
		{"a\tb\rc\nd e", []api.Tok{{Kind: 2, Text: "a"}, {Kind: 2, Text: "b", At: 2}, {Kind: 2, Text: "c", At: 4}, {Kind: 2, Text: "d", At: 6}, {Kind: 2, Text: "e", At: 8}}},
		{"a#b\nc", []api.Tok{{Kind: 2, Text: "a"}, {Kind: 2, Text: "c", At: 4}}},
		{"a;# b\r\n# c\n\n#\nd#", []api.Tok{{Kind: 2, Text: "a"}, {Kind: 4, Text: ";", At: 1}, {Kind: 2, Text: "d", At: 14}}},
		{"# a\rb", nil},
		{"# a\rb\nc", []api.Tok{{Kind: 2, Text: "c", At: 6}}},
		{"## a # b\n#", nil},
		{"\"a\"# b", []api.Tok{{Kind: 3, Text: "a"}}},
		{"\"# a\"b", []api.Tok{{Kind: 3, Text: "# a"}, {Kind: 2, Text: "b", At: 5}}},
	} {
		if got, e := Tokens([]byte(x.s)); !slices.Equal(got, x.want) || e != (api.Err{}) {
			t.Errorf("Tokens(%q) = %v, %v, want %v", x.s, got, e, x.want)
		}
	}
}

// Promise 8.1: what a text stands for, and that signs may touch each other.
func TestTexts(t *testing.T) {
	for _, x := range []struct {
		s    string
		want []api.Tok
	}{
		{`""`, []api.Tok{{Kind: 3}}},
		{`""""`, []api.Tok{{Kind: 3}, {Kind: 3, At: 2}}},
		{`" "`, []api.Tok{{Kind: 3, Text: " "}}},
		{`"\""`, []api.Tok{{Kind: 3, Text: `"`}}},
		{`"\\"`, []api.Tok{{Kind: 3, Text: `\`}}},
		{`"\\\""`, []api.Tok{{Kind: 3, Text: `\"`}}},
		{`"\"\\"`, []api.Tok{{Kind: 3, Text: `"\`}}},
		{`"\\""\\"`, []api.Tok{{Kind: 3, Text: `\`}, {Kind: 3, Text: `\`, At: 4}}},
		{`"\\\\n"`, []api.Tok{{Kind: 3, Text: `\\n`}}},
		{`a"b"c;"d"`, []api.Tok{{Kind: 2, Text: "a"}, {Kind: 3, Text: "b", At: 1}, {Kind: 2, Text: "c", At: 4}, {Kind: 4, Text: ";", At: 5}, {Kind: 3, Text: "d", At: 6}}},
		{`"{};,#!'=~"`, []api.Tok{{Kind: 3, Text: "{};,#!'=~"}}},
	} {
		if got, e := Tokens([]byte(x.s)); !slices.Equal(got, x.want) || e != (api.Err{}) {
			t.Errorf("Tokens(%q) = %v, %v, want %v", x.s, got, e, x.want)
		}
	}
}

// Promise 8.1: ESyntax where something stands that can't, and where b ends in a text.
func TestSyntax(t *testing.T) {
	for _, x := range []struct {
		s  string
		at int
	}{
		{"!", 0}, {"\x00", 0}, {"\\", 0}, {"'a'", 0}, {"(", 0}, {"+1", 0}, {"*", 0}, {"\v", 0}, {"\f", 0}, {"\x7f", 0}, {"\x80", 0}, {"\xff", 0}, {"é", 0}, {"\u00a0", 0}, {"\ufeffa", 0},
		{"a !", 2}, {"a!", 1}, {"a=b", 1}, {"a\\b", 1}, {"aé", 1}, {"a;\x80", 2}, {"{ } @ !", 4}, {"# !\n!", 4}, {"a\n\n!", 3}, {"\"a\"\\", 3},
		{`"`, 1}, {`"a`, 2}, {`a "`, 3}, {`"""`, 3}, {`"a" "`, 5}, {`"a\`, 3}, {`"a\"`, 4}, {`"a\\\"`, 6}, {`"\`, 2}, {`"\\`, 3}, {`";#`, 3},
		{`"a\b"`, 3}, {`"\n"`, 2}, {`"\'"`, 2}, {`"\ "`, 2}, {`"\\\a"`, 4}, {"\"\\\n\"", 2}, {"\"\\\x80\"", 2}, {"\"\\", 2},
		{"\"\n\"", 1}, {"\"a\tb\"", 2}, {"\"a\rb\"", 2}, {"\"ab\x00\"", 3}, {"\"\x1f\"", 1}, {"\"\x7f\"", 1}, {"\"a\xff\"", 2}, {"\"aé\"", 2}, {"\"a\n! \"", 2}, {"\"a\n", 2}, {"a # b\n\"c\n", 8},
	} {
		refuse(t, x.s, api.Err{Kind: 1, At: x.at})
	}
}

// Promise 8.1: each byte by itself, in and beside a word, in a text, behind a `\` and in what does not count.
func TestEachByte(t *testing.T) {
	for c := range 256 {
		for _, form := range []string{"?", "a?b", "a ?", "?;", "??", "\"?\"", "\"a?b\"", "\"a?", "\"\\?\"", "\"\\?", "\"\\\\?\"", "#?\nb", "#a?", "\"a\"?\"b\"", "\n?\n", "?\"a\"", "{?}"} {
			checkTokens(t, []byte(strings.ReplaceAll(form, "?", string([]byte{byte(c)}))))
		}
	}
}

// Promise 8.1: 255 bytes of a word or a text are taken, 256 are not; those of a text are counted as it stands for.
func TestLimitOfOne(t *testing.T) {
	for _, n := range []int{254, 255, 256, 257, 512, 100000} {
		plain, slashes, quotes := strings.Repeat("a", n), strings.Repeat(`\\`, n), strings.Repeat(`\"`, n)
		for _, x := range []struct {
			s    string
			want api.Tok
		}{
			{plain, api.Tok{Kind: 2, Text: plain}},
			{" " + plain + " ;", api.Tok{Kind: 2, Text: plain, At: 1}},
			{"\"" + plain + "\"", api.Tok{Kind: 3, Text: plain}},
			{"  \"" + slashes + "\"", api.Tok{Kind: 3, Text: strings.Repeat(`\`, n), At: 2}},
			{"\"" + quotes + "\"", api.Tok{Kind: 3, Text: strings.Repeat(`"`, n)}},
		} {
			if n > 255 {
				refuse(t, x.s, api.Err{Kind: 2, At: x.want.At})
				continue
			}
			if got, e := Tokens([]byte(x.s)); len(got) == 0 || got[0] != x.want || e != (api.Err{}) {
				t.Errorf("Tokens(%.80q) of %d = %.200v, %v", x.s, n, got, e)
			}
		}
	}
	if got, e := Tokens([]byte("a # " + strings.Repeat("c", 100000) + "\n" + strings.Repeat(";", 1000))); len(got) != 1001 || e != (api.Err{}) {
		t.Errorf("a long comment and many signs are %d signs, %v", len(got), e)
	}
}

// Promise 8.1: which of two errors is told: that of a length, where its word or text ends.
func TestLimitIsToldAtTheEnd(t *testing.T) {
	long := strings.Repeat("a", 256)
	for _, x := range []struct {
		s    string
		want api.Err
	}{
		{long + "!", api.Err{Kind: 2}},
		{long + "\xff", api.Err{Kind: 2}},
		{long + "\"", api.Err{Kind: 2}},
		{long + " " + long, api.Err{Kind: 2}},
		{"! " + long, api.Err{Kind: 1}},
		{"; !" + long, api.Err{Kind: 1, At: 2}},
		{"a \"b\n\" " + long, api.Err{Kind: 1, At: 4}},
		{"\"" + long, api.Err{Kind: 1, At: 257}},
		{"\"" + long + "\\", api.Err{Kind: 1, At: 258}},
		{"\"" + long + "\n\"", api.Err{Kind: 1, At: 257}},
		{"\"" + long + "\\a\"", api.Err{Kind: 1, At: 258}},
		{"\"" + long + "\"!", api.Err{Kind: 2}},
		{"\"" + long + "\"\"", api.Err{Kind: 2}},
		{"a;\"" + long + "\" !", api.Err{Kind: 2, At: 2}},
		{"\"" + long[1:] + "\"" + long, api.Err{Kind: 2, At: 257}},
	} {
		refuse(t, x.s, x.want)
	}
}

// Promise 8.1: scan.Long is asked first, whatever else is wrong.
func TestLimitOfAll(t *testing.T) {
	for _, c := range []string{" ", "\n", "a", "!", "\"", "#", ";", "\xff", "\\"} {
		refuse(t, strings.Repeat(c, 1000001), api.Err{Kind: 2, At: 1000000})
		refuse(t, strings.Repeat(c, 2000000), api.Err{Kind: 2, At: 1000000})
	}
	refuse(t, strings.Repeat("a", 256)+strings.Repeat("!", 999745), api.Err{Kind: 2, At: 1000000})
	for _, s := range []string{strings.Repeat(" ", 1000000), strings.Repeat("#", 1000000), strings.Repeat("\r\n", 500000)} {
		if got, e := Tokens([]byte(s)); len(got) != 0 || e != (api.Err{}) {
			t.Errorf("Tokens(%.10q) = %d signs, %v, want none", s, len(got), e)
		}
	}
	for _, s := range []string{strings.Repeat(";", 1000000), strings.Repeat("a ", 500000), strings.Repeat(`""`, 500000), strings.Repeat("#\n", 499999) + "a;", strings.Repeat(strings.Repeat("b", 255)+"{", 3906), strings.Repeat("a", 1000000), strings.Repeat(`\`, 1000000), `"` + strings.Repeat(`\\`, 499999), strings.Repeat(" ", 999999) + "!", strings.Repeat(" ", 999999) + `"`} {
		checkTokens(t, []byte(s))
	}
}

// Promises 8.1 and 8.2: every short text of what begins, ends or breaks something, and noise.
func TestAnyText(t *testing.T) {
	for _, b := range append(short(), noise()...) {
		checkTokens(t, b)
	}
}

// Promise 8.2 (W1): any bytes are signs or an error with a place within them, never both, and signs stand one behind the other where they say.
func TestOneOrTheOther(t *testing.T) {
	read, refused := 0, 0
	for _, b := range append(short(), noise()...) {
		all, e := Tokens(b)
		if e.Kind != 0 {
			refused++
			if len(all) != 0 || e.At < 0 || e.At > len(b) || e.Kind != api.ESyntax && e.Kind != api.ELimit {
				t.Fatalf("Tokens(%q) = %v, %v", b, all, e)
			}
			continue
		}
		read++
		end := 0
		for _, tok := range all {
			form := tok.Text
			if tok.Kind == api.KText {
				form = Quote(tok.Text)
			}
			if e.At != 0 || tok.At < end || !bytes.HasPrefix(b[tok.At:], []byte(form)) {
				t.Fatalf("Tokens(%q) tells %v, %v", b, tok, e)
			}
			end = tok.At + len(form)
		}
	}
	if read < 10000 || refused < 10000 {
		t.Errorf("%d texts were read, %d refused", read, refused)
	}
}

// Promise 8.1: Quote's form, the two signs that need a `\`, and what is left out.
func TestQuote(t *testing.T) {
	for s, want := range map[string]string{
		"": `""`, " ": `" "`, "a": `"a"`, "x.example": `"x.example"`, "a b": `"a b"`, `"`: `"\""`, `\`: `"\\"`, `\"`: `"\\\""`, `"\`: `"\"\\"`, `\n`: `"\\n"`, `a"b\c`: `"a\"b\\c"`, "# {};,'~": `"# {};,'~"`,
		"\n": `""`, "a\nb": `"ab"`, "\x00\x1f\x7f\x80\xff": `""`, "é": `""`, "aéb": `"ab"`, "a\xffb": `"ab"`, "\\\n\"": `"\\\""`, "\u2028x": `"x"`,
	} {
		if got := Quote(s); got != want {
			t.Errorf("Quote(%q) = %q, want %q", s, got, want)
		}
	}
	for c := range 256 {
		want := ""
		switch {
		case c == '"' || c == '\\':
			want = `\` + string(rune(c))
		case c >= 32 && c <= 126:
			want = string(rune(c))
		}
		if got := Quote(string([]byte{byte(c)})); got != `"`+want+`"` {
			t.Errorf("Quote of the byte %d = %q", c, got)
		}
		if got := Quote(string([]byte{'a', byte(c), 'b'})); got != `"a`+want+`b"` {
			t.Errorf("Quote of the byte %d between a and b = %q", c, got)
		}
	}
}

// Promises 8.1 and 8.2: what Quote tells is one text of all that can stand in it.
func TestQuoteIsRead(t *testing.T) {
	unreadable := regexp.MustCompile(`[^ -~]`)
	for _, b := range append(short(), noise()...) {
		want := unreadable.ReplaceAllString(string(b), "")
		all, e := Tokens([]byte(Quote(string(b))))
		if len(want) > 255 {
			if len(all) != 0 || e != (api.Err{Kind: 2}) {
				t.Fatalf("Quote(%.80q) is read as %.200v, %v", b, all, e)
			}
			continue
		}
		if len(all) != 1 || all[0] != (api.Tok{Kind: 3, Text: want}) || e != (api.Err{}) {
			t.Fatalf("Quote(%q) is read as %v, %v, want %q", b, all, e, want)
		}
	}
}

// The room behind b is not looked at.
func TestRoom(t *testing.T) {
	if got, e := Tokens([]byte(`"a"`)[:2]); len(got) != 0 || e != (api.Err{Kind: 1, At: 2}) {
		t.Errorf("Tokens = %v, %v, want ESyntax at 2", got, e)
	}
	if got, e := Tokens([]byte(`"a\"`)[:3]); len(got) != 0 || e != (api.Err{Kind: 1, At: 3}) {
		t.Errorf("Tokens = %v, %v, want ESyntax at 3", got, e)
	}
	for _, x := range [][]byte{[]byte("ab!")[:1], []byte("a# \nb")[:3]} {
		if got, e := Tokens(x); !slices.Equal(got, []api.Tok{{Kind: 2, Text: "a"}}) || e != (api.Err{}) {
			t.Errorf("Tokens = %v, %v, want a word, a", got, e)
		}
	}
}

// What is handed in is not changed, nor the room behind it, and what is answered shares none of it.
func TestMemory(t *testing.T) {
	room := []byte("word \"te\\\"xt\" {;,} # c\n room")
	was := slices.Clone(room)
	b := room[:23]
	all, e := Tokens(b)
	want := []api.Tok{{Kind: 2, Text: "word"}, {Kind: 3, Text: `te"xt`, At: 5}, {Kind: 4, Text: "{", At: 14}, {Kind: 4, Text: ";", At: 15}, {Kind: 4, Text: ",", At: 16}, {Kind: 4, Text: "}", At: 17}}
	if !slices.Equal(all, want) || e != (api.Err{}) || !bytes.Equal(room, was) {
		t.Fatalf("Tokens = %v, %v, and what is handed in has become %q", all, e, room)
	}
	again, _ := Tokens(b)
	for i := range room {
		room[i] = 'x'
	}
	again = again[:cap(again)]
	for i := range again {
		again[i] = api.Tok{}
	}
	if !slices.Equal(all, want) {
		t.Errorf("the signs have become %v, want %v", all, want)
	}
}

// Promise 8.3: a panic names its call here, rather than ending the run.
func TestNoCallPanics(t *testing.T) {
	try := func(name string, b []byte, call func()) {
		defer func() {
			if fault := recover(); fault != nil {
				t.Errorf("%s of %.80q panics: %v", name, b, fault)
			}
		}()
		call()
	}
	texts := append(short(), noise()...)
	texts = append(texts, nil, []byte{}, make([]byte, 1000001), bytes.Repeat([]byte{'"'}, 1000001), bytes.Repeat([]byte{'\\'}, 3000000))
	for _, b := range texts {
		try("Tokens", b, func() { Tokens(b) })
		try("Quote", b, func() { Quote(string(b)) })
	}
}
