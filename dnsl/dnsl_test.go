package dnsl

import (
	"bytes"
	"math/rand"
	"slices"
	"strings"
	"testing"

	"glebe/api"
)

// walk goes from byte to byte of the whole text, by what it is in: a second way, to hold the package's answers against.
type walk struct {
	in     string
	all    []api.Row
	lineAt int
	key    []byte
	parts  []api.Tok
	text   []byte
	partAt int
}

// endPart answers the kind of error where the part is too long.
func (w *walk) endPart(next int) int {
	if len(w.text) > 255 {
		return 2
	}
	w.parts = append(w.parts, api.Tok{Kind: 6, Text: string(w.text), At: w.partAt})
	w.text, w.partAt = nil, next
	return 0
}

// endLine answers the kind of error where the line can't end.
func (w *walk) endLine() int {
	if w.in == "key" {
		return 1
	}
	if w.in == "parts" {
		if kind := w.endPart(0); kind != 0 {
			return kind
		}
		w.all = append(w.all, api.Row{Key: string(w.key), Parts: w.parts, At: w.lineAt})
	}
	w.in, w.key, w.parts = "line's begin", nil, nil
	return 0
}

// step answers the kind of error where c can't stand.
func (w *walk) step(c byte, i int) int {
	if w.in == "line's begin" {
		w.lineAt = i
	}
	switch {
	case w.in == "comment":
	case w.in == "line's begin" && c == '#':
		w.in = "comment"
	case w.in == "parts" && c == ',':
		return w.endPart(i + 1)
	case w.in == "parts" && c >= 32 && c <= 126:
		w.text = append(w.text, c)
	case w.in == "key" && c == '=':
		w.in, w.partAt = "parts", i+1
	case w.in != "parts" && (c >= 'a' && c <= 'z' || c == '-'):
		w.in = "key"
		w.key = append(w.key, c)
	default:
		return 1
	}
	return 0
}

// answer puts an error where it belongs.
func (w *walk) answer(kind, i int) ([]api.Row, api.Err) {
	switch kind {
	case 0:
		return w.all, api.Err{}
	case 2:
		i = w.partAt
	}
	return nil, api.Err{Kind: kind, At: i}
}

func parseByWalk(b []byte) ([]api.Row, api.Err) {
	if len(b) > 1000000 {
		return nil, api.Err{Kind: 2, At: 1000000}
	}
	w := &walk{in: "line's begin"}
	for i, c := range b {
		kind := 0
		if c == 10 || c == 13 && i+1 < len(b) && b[i+1] == 10 {
			kind = w.endLine()
		} else {
			kind = w.step(c, i)
		}
		if kind != 0 {
			return w.answer(kind, i)
		}
	}
	return w.answer(w.endLine(), len(b))
}

func sameRow(a, b api.Row) bool {
	return a.Key == b.Key && a.At == b.At && slices.Equal(a.Parts, b.Parts)
}

func same(a, b []api.Row) bool {
	return slices.EqualFunc(a, b, sameRow)
}

func checkParse(t *testing.T, b []byte) {
	t.Helper()
	want, wantErr := parseByWalk(b)
	if got, e := Parse(b); !same(got, want) || e != wantErr {
		t.Fatalf("Parse(%.80q) = %.200v, %v, want %.200v, %v", b, got, e, want, wantErr)
	}
}

// refuse asks for an Err, and for no row beside it.
func refuse(t *testing.T, s string, want api.Err) {
	t.Helper()
	if got, e := Parse([]byte(s)); len(got) != 0 || e != want {
		t.Errorf("Parse(%.80q) = %.200v, %v, want none, %v", s, got, e, want)
	}
}

// row gives each of its parts the kind of a part, for short tables.
func row(key string, at int, parts ...api.Tok) api.Row {
	for i := range parts {
		parts[i].Kind = 6
	}
	return api.Row{Key: key, Parts: parts, At: at}
}

// short are all texts of up to 6 bytes of which each is one that begins, ends or breaks something.
func short() [][]byte {
	all := [][]byte{nil}
	from := 0
	for range 6 {
		to := len(all)
		for _, b := range all[from:to] {
			for _, c := range []byte("a=,#\n\r\t") {
				all = append(all, append(slices.Clone(b), c))
			}
		}
		from = to
	}
	return all
}

// lines are what noise is made of; the first ones are right.
var lines = []string{
	"", "#", "# any\x00\r\xff", "#a=\t", "a=", "-=,", "a-b=1,2", "dhcp-range=10.0.0.1,10.0.0.9,255.255.255.0,3600", "dhcp-option=option:router,10.0.0.1", "z= =\"#\",~", "a==", "a=" + strings.Repeat("w", 255) + ",", strings.Repeat("k", 300) + "=k",
	"a", "-", "=", "=a", " ", " a=1", "\r", "a\r=", "a=\r", "A=1", "a1=1", "a#=1", "a_b=", "a\t=", "a=\t", "a=1,\x00", "a=é", "a=\xff", "a=\x7f", "a\x80=", "a=" + strings.Repeat("x", 256), "a=1," + strings.Repeat("y", 256) + ",\t", "a=" + strings.Repeat("z", 257) + "\t",
}

// noise is texts of such lines; most of them are taken from the first ones, so that many are read to their end.
func noise() [][]byte {
	source := rand.New(rand.NewSource(10))
	ends := []string{"\n", "\n", "\r\n", "\n\n", ""}
	all := make([][]byte, 40000)
	for i := range all {
		for range source.Intn(8) {
			from := 13
			if source.Intn(10) == 0 {
				from = len(lines)
			}
			all[i] = append(all[i], lines[source.Intn(from)]...)
			all[i] = append(all[i], ends[source.Intn(len(ends))]...)
		}
	}
	return all
}

// Promise 10.1: ordinary rows with the places of their parts, and both line ends.
func TestParse(t *testing.T) {
	for _, x := range []struct {
		s    string
		want []api.Row
	}{
		{"", nil},
		{"a=1,2", []api.Row{row("a", 0, api.Tok{Text: "1", At: 2}, api.Tok{Text: "2", At: 4})}},
		{"a=1\n", []api.Row{row("a", 0, api.Tok{Text: "1", At: 2})}},
		{"a=1\r\n", []api.Row{row("a", 0, api.Tok{Text: "1", At: 2})}},
		{"a=1\nb=2", []api.Row{row("a", 0, api.Tok{Text: "1", At: 2}), row("b", 4, api.Tok{Text: "2", At: 6})}},
		{"a=1\r\nb=2\r\n", []api.Row{row("a", 0, api.Tok{Text: "1", At: 2}), row("b", 5, api.Tok{Text: "2", At: 7})}},
		{"dhcp-range=10.0.0.1,10.0.0.9,255.0.0.0", []api.Row{row("dhcp-range", 0, api.Tok{Text: "10.0.0.1", At: 11}, api.Tok{Text: "10.0.0.9", At: 20}, api.Tok{Text: "255.0.0.0", At: 29})}},
		{"b=1\na=2\nb=1", []api.Row{row("b", 0, api.Tok{Text: "1", At: 2}), row("a", 4, api.Tok{Text: "2", At: 6}), row("b", 8, api.Tok{Text: "1", At: 10})}},
		{"abcdefghijklm-nopqrstuvwxyz=", []api.Row{row("abcdefghijklm-nopqrstuvwxyz", 0, api.Tok{At: 28})}},
		{"-=x\n--=\na-=\n-a=", []api.Row{row("-", 0, api.Tok{Text: "x", At: 2}), row("--", 4, api.Tok{At: 7}), row("a-", 8, api.Tok{At: 11}), row("-a", 12, api.Tok{At: 15})}},
		{"a= b , c ", []api.Row{row("a", 0, api.Tok{Text: " b ", At: 2}, api.Tok{Text: " c ", At: 6})}},
		{"a==,b=c", []api.Row{row("a", 0, api.Tok{Text: "=", At: 2}, api.Tok{Text: "b=c", At: 4})}},
		{"a=#b,\"c,d\",'\\~", []api.Row{row("a", 0, api.Tok{Text: "#b", At: 2}, api.Tok{Text: "\"c", At: 5}, api.Tok{Text: "d\"", At: 8}, api.Tok{Text: "'\\~", At: 11})}},
	} {
		if got, e := Parse([]byte(x.s)); !same(got, x.want) || e != (api.Err{}) {
			t.Errorf("Parse(%q) = %v, %v, want %v", x.s, got, e, x.want)
		}
	}
}

// Promise 10.1: empty lines, and those that begin with a #, whatever bytes stand in them, are no rows.
func TestNoRows(t *testing.T) {
	for _, s := range []string{"\n", "\r\n", "\n\n\r\n\n", "#", "#\n", "#\r\n", "# a=1\n", "#a=1", "##", "#\t\x00\x1f\x7f\x80\xff\u00e9", "#\r", "#\ra=1", "# a\r\r\n", "\n#\n\n#a", "#" + strings.Repeat("a", 100000) + "\n"} {
		if got, e := Parse([]byte(s)); len(got) != 0 || e != (api.Err{}) {
			t.Errorf("Parse(%.80q) = %v, %v, want none", s, got, e)
		}
		want := []api.Row{row("b", len(s)+1, api.Tok{Text: "2", At: len(s) + 3})}
		if got, e := Parse([]byte(s + "\nb=2")); !same(got, want) || e != (api.Err{}) {
			t.Errorf("Parse(%.80q, a line feed, b=2) = %v, %v, want %v", s, got, e, want)
		}
	}
	want := []api.Row{row("a", 2, api.Tok{Text: "1", At: 4}), row("b", 8, api.Tok{Text: "#", At: 10})}
	if got, e := Parse([]byte("#\na=1\n\r\nb=#\n#")); !same(got, want) || e != (api.Err{}) {
		t.Errorf("rows between others = %v, %v, want %v", got, e, want)
	}
}

// Promise 10.1: parts may be empty; there is one at least.
func TestEmptyParts(t *testing.T) {
	for _, x := range []struct {
		s    string
		want []api.Row
	}{
		{"a=", []api.Row{row("a", 0, api.Tok{At: 2})}},
		{"a=\n", []api.Row{row("a", 0, api.Tok{At: 2})}},
		{"a=\r\n", []api.Row{row("a", 0, api.Tok{At: 2})}},
		{"a=,", []api.Row{row("a", 0, api.Tok{At: 2}, api.Tok{At: 3})}},
		{"a=,\r\n", []api.Row{row("a", 0, api.Tok{At: 2}, api.Tok{At: 3})}},
		{"a=,,", []api.Row{row("a", 0, api.Tok{At: 2}, api.Tok{At: 3}, api.Tok{At: 4})}},
		{"a=b,", []api.Row{row("a", 0, api.Tok{Text: "b", At: 2}, api.Tok{At: 4})}},
		{"a=,b", []api.Row{row("a", 0, api.Tok{At: 2}, api.Tok{Text: "b", At: 3})}},
		{"a=b,,c\nd=", []api.Row{row("a", 0, api.Tok{Text: "b", At: 2}, api.Tok{At: 4}, api.Tok{Text: "c", At: 5}), row("d", 7, api.Tok{At: 9})}},
		{"a= ", []api.Row{row("a", 0, api.Tok{Text: " ", At: 2})}},
	} {
		if got, e := Parse([]byte(x.s)); !same(got, x.want) || e != (api.Err{}) {
			t.Errorf("Parse(%q) = %v, %v, want %v", x.s, got, e, x.want)
		}
	}
}

// Promise 10.1: ESyntax where something stands that can't, and at the line's end, without its 13, where that comes too early.
func TestSyntax(t *testing.T) {
	for _, x := range []struct {
		s  string
		at int
	}{
		{"=", 0}, {"=1", 0}, {"==", 0}, {" ", 0}, {" a=1", 0}, {"\ta=1", 0}, {",", 0}, {"A=1", 0}, {"1=1", 0}, {"_a=", 0}, {"\"a\"=", 0}, {";a", 0}, {" #", 0}, {"\ufeffa=1", 0}, {"é=", 0}, {"\x00", 0}, {"\xff", 0},
		{"a =1", 1}, {"a1=1", 1}, {"aB=", 1}, {"ab_c=", 2}, {"a.b=", 1}, {"a#=1", 1}, {"a,b=1", 1}, {"a\t=", 1}, {"aé=", 1}, {"a\x80=", 1}, {"a:1", 1}, {"abc d", 3},
		{"a", 1}, {"abc-d", 5}, {"-", 1}, {"a\n", 1}, {"ab\r\n", 2}, {"a\n=1", 1}, {"a\r\n=1", 1}, {"a\nb=1", 1}, {"#\nab\n", 4}, {"a=1\nb", 5}, {"a=1\r\nbc\r\n", 7}, {"\n\na", 3},
		{"a=\t", 2}, {"a=1\t", 3}, {"a=1,\x7f", 4}, {"a=\x1f", 2}, {"a=\x00,", 2}, {"a=é", 2}, {"a=1,bé,\t", 5}, {"a=\xff", 2}, {"a=b\x80\xff", 3}, {"a=\xc3", 2}, {"a=\xe2\x82", 2}, {"a=1\nb=\v", 6}, {"a=\t\nb=\t", 2}, {"a=1\n=\nc", 4},
		{"\r", 0}, {"\r\r\n", 0}, {"\ra=1", 0}, {"a\r", 1}, {"a\r=1", 1}, {"a=\r", 2}, {"a=1\r", 3}, {"a=1\r\r\n", 3}, {"a=1\rb=2", 3}, {"a=1,\r,", 4}, {"a=1\n\r", 4}, {"\n\r#", 1},
	} {
		refuse(t, x.s, api.Err{Kind: 1, At: x.at})
	}
}

// Promise 10.1: each byte by itself, in and beside a key and a part, and at each line end.
func TestEachByte(t *testing.T) {
	for c := range 256 {
		for _, form := range []string{"?", "??", "a?", "?a", "a?=1", "?a=1", "?=1", "a?b=1", "a=?", "a=b?", "a=?b", "a=b?c", "a=1,?", "a=?,1", "a=??", "#?", "?#", "\n?", "?\n", "?\r\n", "\r?", "a=1\n?", "a=1\n?=2", "a=1?\n", "a=1?b=2", "a=1\r?", "a=1,2\r\nb=?\r\n", "a?\n", "a?\r\n"} {
			checkParse(t, []byte(strings.ReplaceAll(form, "?", string([]byte{byte(c)}))))
		}
	}
}

// Promise 10.1: 255 bytes of a part are taken, 256 are not; a key, a row and a comment have any length.
func TestLimitOfPart(t *testing.T) {
	for _, n := range []int{254, 255, 256, 257, 512, 100000} {
		long := strings.Repeat("x", n)
		for _, y := range []struct {
			s  string
			i  int
			at int
		}{{"a=" + long, 0, 2}, {"a=1," + long + "\r\n", 1, 4}, {"#\nab=1,," + long + ",2\nc=", 2, 8}} {
			if n > 255 {
				refuse(t, y.s, api.Err{Kind: 2, At: y.at})
				continue
			}
			want := api.Tok{Kind: 6, Text: long, At: y.at}
			if got, e := Parse([]byte(y.s)); len(got) == 0 || len(got[0].Parts) <= y.i || got[0].Parts[y.i] != want || e != (api.Err{}) {
				t.Errorf("Parse(%.80q) of %d = %.200v, %v", y.s, n, got, e)
			}
		}
		want := []api.Row{row(strings.Repeat("k", n), 0, api.Tok{Text: "1", At: n + 1})}
		if got, e := Parse([]byte(want[0].Key + "=1")); !same(got, want) || e != (api.Err{}) {
			t.Errorf("Parse of a key of %d = %.200v, %v", n, got, e)
		}
	}
	got, e := Parse([]byte("a=" + strings.Repeat(strings.Repeat("b", 255)+",", 3000)))
	if len(got) != 1 || len(got[0].Parts) != 3001 || e != (api.Err{}) {
		t.Errorf("a row of many parts is %d rows, %v", len(got), e)
	}
}

// Promise 10.1: which of two errors is told: that of a length, where its part ends.
func TestLimitIsToldAtTheEnd(t *testing.T) {
	long := strings.Repeat("x", 256)
	for _, y := range []struct {
		s    string
		want api.Err
	}{
		{"a=" + long + "\t", api.Err{Kind: 1, At: 258}},
		{"a=" + long + "x\xff,", api.Err{Kind: 1, At: 259}},
		{"a=" + long + "é\n", api.Err{Kind: 1, At: 258}},
		{"a=" + long + "\r", api.Err{Kind: 1, At: 258}},
		{"a=" + long + "\r\r\n", api.Err{Kind: 1, At: 258}},
		{"a=" + long + "\r\n\t", api.Err{Kind: 2, At: 2}},
		{"a=" + long + "\n=", api.Err{Kind: 2, At: 2}},
		{"a=" + long + ",\t", api.Err{Kind: 2, At: 2}},
		{"a=" + long + "," + long, api.Err{Kind: 2, At: 2}},
		{"a=\t," + long, api.Err{Kind: 1, At: 2}},
		{"a=\t" + long, api.Err{Kind: 1, At: 2}},
		{"=" + long, api.Err{Kind: 1, At: 0}},
		{"a\nb=" + long, api.Err{Kind: 1, At: 1}},
		{"a=" + long[1:] + "\nb=1," + long + "\nc", api.Err{Kind: 2, At: 262}},
	} {
		refuse(t, y.s, y.want)
	}
}

// Promise 10.1: scan.Long is asked first, whatever else is wrong.
func TestLimitOfAll(t *testing.T) {
	for _, c := range []string{" ", "\n", "\r", "a", "=", ",", "#", "\t", "\xff"} {
		refuse(t, strings.Repeat(c, 1000001), api.Err{Kind: 2, At: 1000000})
		refuse(t, strings.Repeat(c, 2000000), api.Err{Kind: 2, At: 1000000})
	}
	refuse(t, "a="+strings.Repeat("x", 256)+strings.Repeat("\t", 999743), api.Err{Kind: 2, At: 1000000})
	for _, s := range []string{strings.Repeat("\n", 1000000), strings.Repeat("\r\n", 500000), strings.Repeat("#", 1000000), strings.Repeat("#\n", 500000), strings.Repeat("a", 1000000), strings.Repeat("a", 999999) + "=", "a=" + strings.Repeat(",", 999998), strings.Repeat("-=\n", 333333), strings.Repeat("b=1,\r\n", 166666), "a=" + strings.Repeat("x", 999998), "a=" + strings.Repeat(",", 999997) + "\t", strings.Repeat("\n", 999999) + "\r", strings.Repeat("\n", 999999) + "a"} {
		checkParse(t, []byte(s))
	}
}

// Promises 10.1 and 10.2: every short text of what begins, ends or breaks something, and noise.
func TestAnyText(t *testing.T) {
	for _, b := range append(short(), noise()...) {
		checkParse(t, b)
	}
}

// formOf is a row as it stands in a text.
func formOf(r api.Row) string {
	form := r.Key
	between := "="
	for _, p := range r.Parts {
		form += between + p.Text
		between = ","
	}
	return form
}

// Promise 10.2 (W1): any bytes are rows or an error with a place within them, never both; rows and parts stand where they say, with nothing but empty lines and comments between.
func TestOneOrTheOther(t *testing.T) {
	read, refused := 0, 0
	for _, b := range append(short(), noise()...) {
		all, e := Parse(b)
		if e.Kind != 0 {
			refused++
			if len(all) != 0 || e.At < 0 || e.At > len(b) || e.Kind != api.ESyntax && e.Kind != api.ELimit {
				t.Fatalf("Parse(%q) = %v, %v", b, all, e)
			}
			continue
		}
		read++
		if e.At != 0 {
			t.Fatalf("Parse(%q) = %v, %v", b, all, e)
		}
		rest := slices.Clone(b)
		for _, r := range all {
			form := formOf(r)
			if len(r.Parts) == 0 || !bytes.HasPrefix(b[r.At:], []byte(form)) || r.At > 0 && b[r.At-1] != 10 {
				t.Fatalf("Parse(%q) tells %v", b, r)
			}
			at := r.At + len(r.Key) + 1
			for _, p := range r.Parts {
				if p.Kind != api.KPart || p.At != at {
					t.Fatalf("Parse(%q) tells %v in %v, want it at %d", b, p, r, at)
				}
				at += len(p.Text) + 1
			}
			copy(rest[r.At:], bytes.Repeat([]byte{0}, len(form)))
		}
		for line := range bytes.SplitSeq(rest, []byte{10}) {
			line = bytes.TrimSuffix(line, []byte{13})
			if len(line) > 0 && line[0] != '#' && len(bytes.Trim(line, "\x00")) > 0 {
				t.Fatalf("Parse(%q) = %v, and leaves %q", b, all, line)
			}
		}
	}
	if read < 5000 || refused < 10000 {
		t.Errorf("%d texts were read, %d refused", read, refused)
	}
}

// behind are rows as they would stand so many bytes further on.
func behind(all []api.Row, by int) []api.Row {
	moved := slices.Clone(all)
	for i := range moved {
		moved[i].At += by
		moved[i].Parts = slices.Clone(moved[i].Parts)
		for k := range moved[i].Parts {
			moved[i].Parts[k].At += by
		}
	}
	return moved
}

// Promise 10.2 (W1): what a line tells does not hang on what stands ahead of it or behind it: two texts, one behind the other in either order, are the rows of both.
func TestAnyOrder(t *testing.T) {
	texts := noise()[:4000]
	for i := range texts {
		one, two := slices.Concat(texts[i], []byte{10}), slices.Concat(texts[len(texts)-1-i], []byte{10})
		oneRows, e := Parse(one)
		twoRows, f := Parse(two)
		if e.Kind != 0 || f.Kind != 0 {
			continue
		}
		if got, e := Parse(slices.Concat(one, two)); !same(got, slices.Concat(oneRows, behind(twoRows, len(one)))) || e.Kind != 0 {
			t.Fatalf("Parse(%q, %q) = %v, %v", one, two, got, e)
		}
		if got, e := Parse(slices.Concat(two, one)); !same(got, slices.Concat(twoRows, behind(oneRows, len(two)))) || e.Kind != 0 {
			t.Fatalf("Parse(%q, %q) = %v, %v", two, one, got, e)
		}
	}
}

// Promise 10.1: Print tells Keys and Texts alone, with commas between the parts and a line feed behind each row.
func TestPrint(t *testing.T) {
	for _, x := range []struct {
		l    []api.Row
		want string
	}{
		{nil, ""},
		{[]api.Row{}, ""},
		{[]api.Row{row("a", 0, api.Tok{Text: "1"})}, "a=1\n"},
		{[]api.Row{row("a", 0, api.Tok{Text: "1"}, api.Tok{Text: "2"})}, "a=1,2\n"},
		{[]api.Row{row("b", 0, api.Tok{Text: "1"}), row("a", 0, api.Tok{Text: "2"}), row("b", 0, api.Tok{Text: "1"})}, "b=1\na=2\nb=1\n"},
		{[]api.Row{row("a", 9, api.Tok{Text: "2", At: 8}, api.Tok{Text: "1", At: -1})}, "a=2,1\n"},
		{[]api.Row{{Key: "a", Parts: []api.Tok{{Text: "1"}, {Kind: 4, Text: "2", At: 7}, {Kind: -1, Text: "3"}}}}, "a=1,2,3\n"},
		{[]api.Row{row("a", 0, api.Tok{})}, "a=\n"},
		{[]api.Row{row("a", 0, api.Tok{}, api.Tok{}), row("b", 0, api.Tok{}, api.Tok{Text: "x"}, api.Tok{})}, "a=,\nb=,x,\n"},
		{[]api.Row{{Key: "a"}, {Key: "b", Parts: []api.Tok{}}}, "a=\nb=\n"},
		{[]api.Row{{}}, "=\n"},
		{[]api.Row{row("dhcp-option", 0, api.Tok{Text: "option:router"}, api.Tok{Text: "10.0.0.1"})}, "dhcp-option=option:router,10.0.0.1\n"},
		{[]api.Row{row("A b=", 0, api.Tok{Text: "1,\"2\""}, api.Tok{Text: "\n\r\t\x00\xff"})}, "A b==1,\"2\",\n\r\t\x00\xff\n"},
	} {
		if got := string(Print(x.l)); got != x.want {
			t.Errorf("Print(%v) = %q, want %q", x.l, got, x.want)
		}
	}
}

// Promises 10.1 and 10.2: what is read, told again, is read as the same, and told from it is the same once more.
func TestPrintIsRead(t *testing.T) {
	for _, b := range append(short(), noise()...) {
		all, e := Parse(b)
		if e.Kind != 0 {
			continue
		}
		want := ""
		for _, r := range all {
			want += formOf(r) + "\n"
		}
		told := Print(all)
		if string(told) != want {
			t.Fatalf("Print(%v) = %q, want %q", all, told, want)
		}
		again, e := Parse(told)
		if e != (api.Err{}) || len(again) != len(all) {
			t.Fatalf("Print(%v) = %q is read as %v, %v", all, told, again, e)
		}
		for i, r := range again {
			if formOf(r) != formOf(all[i]) || len(r.Parts) != len(all[i].Parts) {
				t.Fatalf("Print(%v) = %q is read as %v", all, told, again)
			}
		}
	}
}

// Promise 10.1: rows are told as they stand, however long they are and however many.
func TestPrintMuch(t *testing.T) {
	long := strings.Repeat("x", 2000000)
	if got := string(Print([]api.Row{row(long, 0, api.Tok{Text: long}, api.Tok{Text: long})})); got != long+"="+long+","+long+"\n" {
		t.Errorf("Print of a long row is %d bytes", len(got))
	}
	many := slices.Repeat([]api.Row{row("a", 0, api.Tok{Text: "1"}, api.Tok{})}, 300000)
	if got := string(Print(many)); got != strings.Repeat("a=1,\n", 300000) {
		t.Errorf("Print of many rows is %d bytes", len(got))
	}
	parts := slices.Repeat([]api.Tok{{Text: "1"}}, 300000)
	if got := string(Print([]api.Row{row("a", 0, parts...)})); got != "a="+strings.Repeat("1,", 299999)+"1\n" {
		t.Errorf("Print of many parts is %d bytes", len(got))
	}
}

// The room behind b is not looked at.
func TestRoom(t *testing.T) {
	for _, x := range []struct {
		s    string
		n    int
		want api.Err
	}{{"a=1", 1, api.Err{Kind: 1, At: 1}}, {"a=1\r\n", 4, api.Err{Kind: 1, At: 3}}, {"a=1,", 3, api.Err{}}, {"a=1\t", 3, api.Err{}}, {"a=11", 3, api.Err{}}, {"a=1\n=", 4, api.Err{}}} {
		got, e := Parse([]byte(x.s)[:x.n])
		read := same(got, []api.Row{row("a", 0, api.Tok{Text: "1", At: 2})})
		if e != x.want || read != (e.Kind == 0) {
			t.Errorf("Parse of %d bytes of %q = %v, %v, want %v", x.n, x.s, got, e, x.want)
		}
	}
}

// What is handed in to Parse is not changed, nor the room behind it, and what is answered shares none of it, and no two rows share any.
func TestMemory(t *testing.T) {
	room := []byte("# x\na=1,2\r\nb-c=3,,4\nd= room")
	was := slices.Clone(room)
	b := room[:22]
	want := []api.Row{row("a", 4, api.Tok{Text: "1", At: 6}, api.Tok{Text: "2", At: 8}), row("b-c", 11, api.Tok{Text: "3", At: 15}, api.Tok{At: 17}, api.Tok{Text: "4", At: 18}), row("d", 20, api.Tok{At: 22})}
	all, e := Parse(b)
	if !same(all, want) || e != (api.Err{}) || !bytes.Equal(room, was) {
		t.Fatalf("Parse = %v, %v, and what is handed in has become %q", all, e, room)
	}
	again, _ := Parse(b)
	for i := range room {
		room[i] = 'x'
	}
	for i := range again {
		spare := again[i].Parts[:cap(again[i].Parts)]
		for k := range spare {
			spare[k] = api.Tok{Text: "y"}
		}
		if i+1 < len(again) && !sameRow(again[i+1], want[i+1]) {
			t.Fatalf("a row shares memory with the one ahead of it: %v", again[i+1])
		}
	}
	for i := range again[:cap(again)] {
		again[:cap(again)][i] = api.Row{Key: "y"}
	}
	if !same(all, want) {
		t.Errorf("the rows have become %v, want %v", all, want)
	}
}

// What is handed in to Print is not changed, nor the room behind its lists, and what is answered is new.
func TestPrintMemory(t *testing.T) {
	parts := []api.Tok{{Kind: 6, Text: "1", At: 2}, {Kind: 6, At: 4}, {Text: "room"}}
	rows := []api.Row{{Key: "a", Parts: parts[:2], At: 3}, {Key: "b"}, {Key: "room"}}
	wasParts, wasRows := slices.Clone(parts), slices.Clone(rows)
	l := rows[:2]
	told := Print(l)
	want := "a=1,\nb=\n"
	if string(told) != want || !slices.Equal(parts, wasParts) || !same(rows, wasRows) {
		t.Fatalf("Print = %q, and what is handed in has become %v, %v", told, rows, parts)
	}
	again := Print(l)
	again = again[:cap(again)]
	for i := range again {
		again[i] = 'x'
	}
	parts[0].Text = "y"
	if string(told) != want {
		t.Errorf("what is told has become %q", told)
	}
}

// Promise 10.3: a panic names its call here, rather than ending the run.
func TestNoCallPanics(t *testing.T) {
	try := func(name string, b []byte, call func()) {
		defer func() {
			if fault := recover(); fault != nil {
				t.Errorf("%s of %.80q panics: %v", name, b, fault)
			}
		}()
		call()
	}
	texts := append(short(), noise()...)
	texts = append(texts, nil, []byte{}, make([]byte, 1000001), bytes.Repeat([]byte{','}, 1000001), bytes.Repeat([]byte{13}, 3000000))
	for _, b := range texts {
		try("Parse", b, func() { Parse(b) })
		try("Print", b, func() {
			Print([]api.Row{{}, {Key: string(b), At: -1}, {Parts: []api.Tok{{Text: string(b)}, {Kind: -1, At: -1}}}})
		})
	}
	try("Print", nil, func() { Print(nil) })
}
