package csvr

import (
	"bytes"
	"encoding/csv"
	"math/rand"
	"slices"
	"strings"
	"testing"

	"glebe/api"
)

// walk goes from byte to byte, by what it is in: a second way, to hold the package's answers against.
type walk struct {
	in      string
	all     [][]api.Tok
	record  []api.Tok
	text    []byte
	fieldAt int
}

func (w *walk) tooLong() (api.Err, bool) {
	return api.Err{Kind: 2, At: w.fieldAt}, len(w.text) > 255
}

func (w *walk) endField(next int) {
	w.record = append(w.record, api.Tok{Kind: 5, Text: string(w.text), At: w.fieldAt})
	w.text, w.fieldAt, w.in = nil, next, "field's begin"
}

func (w *walk) endRecord() {
	w.all = append(w.all, w.record)
	w.record, w.in = nil, "record's begin"
}

// step answers false where c can't stand.
func (w *walk) step(c byte, i int) bool {
	switch {
	case w.in == "quotes" && c == '"':
		w.in = "quotes' end"
	case w.in == "quotes" && (c == 10 || c == 13 || c >= 32 && c <= 126), w.in == "quotes' end" && c == '"':
		w.in = "quotes"
		w.text = append(w.text, c)
	case w.in == "quotes":
		return false
	case w.in == "13":
		w.endRecord()
		w.fieldAt = i + 1
		return c == 10
	case c == ',':
		w.endField(i + 1)
	case c == 10:
		w.endField(i + 1)
		w.endRecord()
	case c == 13:
		w.endField(i + 1)
		w.in = "13"
	case c == '"' && strings.HasSuffix(w.in, "begin"):
		w.in = "quotes"
	case w.in == "quotes' end" || c == '"' || c < 32 || c > 126:
		return false
	default:
		w.in = "field"
		w.text = append(w.text, c)
	}
	return true
}

func parseByWalk(b []byte) ([][]api.Tok, api.Err) {
	if len(b) > 1000000 {
		return nil, api.Err{Kind: 2, At: 1000000}
	}
	w := &walk{in: "record's begin"}
	for i, c := range b {
		ends := w.in == "quotes' end" && c != '"' || w.in == "field" && (c == ',' || c == 10 || c == 13)
		if e, long := w.tooLong(); long && ends {
			return nil, e
		}
		if !w.step(c, i) {
			return nil, api.Err{Kind: 1, At: i}
		}
	}
	if w.in == "quotes" || w.in == "13" {
		return nil, api.Err{Kind: 1, At: len(b)}
	}
	if e, long := w.tooLong(); long {
		return nil, e
	}
	if w.in != "record's begin" {
		w.endField(0)
		w.endRecord()
	}
	return w.all, api.Err{}
}

func same(a, b [][]api.Tok) bool {
	return slices.EqualFunc(a, b, slices.Equal[[]api.Tok])
}

func checkParse(t *testing.T, b []byte) {
	t.Helper()
	want, wantErr := parseByWalk(b)
	if got, e := Parse(b); !same(got, want) || e != wantErr {
		t.Fatalf("Parse(%.80q) = %.200v, %v, want %.200v, %v", b, got, e, want, wantErr)
	}
}

// refuse asks for an Err, and for no record beside it.
func refuse(t *testing.T, s string, want api.Err) {
	t.Helper()
	if got, e := Parse([]byte(s)); len(got) != 0 || e != want {
		t.Errorf("Parse(%.80q) = %.200v, %v, want none, %v", s, got, e, want)
	}
}

// record gives each of its fields the kind of a field, for short tables.
func record(fields ...api.Tok) []api.Tok {
	for i := range fields {
		fields[i].Kind = 5
	}
	return fields
}

// short are all texts of up to 6 bytes of which each is one that begins, ends or breaks something.
func short() [][]byte {
	all := [][]byte{nil}
	from := 0
	for range 6 {
		to := len(all)
		for _, b := range all[from:to] {
			for _, c := range []byte("\",\n\ra\t") {
				all = append(all, append(slices.Clone(b), c))
			}
		}
		from = to
	}
	return all
}

// pieces are what noise is made of.
var pieces = []string{
	",", ",", ",", "\n", "\n", "\r\n", "a", "10.0.0.0/24", "prefix", " ", "-", "\"\"", "\"a\"", "\"a,b\"", "\"\r\n\"", "\"\"\"\"", "\"a\"\"b\",", "'", ";",
	"\"", "\r", "\t", "\x00", "\x1f", "\x7f", "\x80", "\xff", "é", "\\",
	strings.Repeat("w", 127), strings.Repeat("W", 128), "\"" + strings.Repeat("x", 255) + "\"", "\"" + strings.Repeat("y", 256) + "\"", strings.Repeat("z", 256), "\"" + strings.Repeat("\"\"", 200),
}

// noise is texts of such pieces; most of them are taken from the first ones, so that many are read to their end.
func noise() [][]byte {
	source := rand.New(rand.NewSource(9))
	all := make([][]byte, 50000)
	for i := range all {
		for range source.Intn(12) {
			from := 19
			if source.Intn(10) == 0 {
				from = len(pieces)
			}
			all[i] = append(all[i], pieces[source.Intn(from)]...)
		}
	}
	return all
}

// Promise 9.1: ordinary records with the places of their fields, and both ends.
func TestParse(t *testing.T) {
	for _, x := range []struct {
		s    string
		want [][]api.Tok
	}{
		{"", nil},
		{`a,"b""c"`, [][]api.Tok{record(api.Tok{Text: "a"}, api.Tok{Text: `b"c`, At: 2})}},
		{"a", [][]api.Tok{record(api.Tok{Text: "a"})}},
		{"a\n", [][]api.Tok{record(api.Tok{Text: "a"})}},
		{"a\r\n", [][]api.Tok{record(api.Tok{Text: "a"})}},
		{"a\nb", [][]api.Tok{record(api.Tok{Text: "a"}), record(api.Tok{Text: "b", At: 2})}},
		{"a\r\nb\n", [][]api.Tok{record(api.Tok{Text: "a"}), record(api.Tok{Text: "b", At: 3})}},
		{"kind,value\nprefix,2001:db8::/32\n", [][]api.Tok{record(api.Tok{Text: "kind"}, api.Tok{Text: "value", At: 5}), record(api.Tok{Text: "prefix", At: 11}, api.Tok{Text: "2001:db8::/32", At: 18})}},
		{"a,b\nc\nd,e,f", [][]api.Tok{record(api.Tok{Text: "a"}, api.Tok{Text: "b", At: 2}), record(api.Tok{Text: "c", At: 4}), record(api.Tok{Text: "d", At: 6}, api.Tok{Text: "e", At: 8}, api.Tok{Text: "f", At: 10})}},
		{" a ,\\,'~!", [][]api.Tok{record(api.Tok{Text: " a "}, api.Tok{Text: `\`, At: 4}, api.Tok{Text: "'~!", At: 6})}},
		{"#a;{}\n", [][]api.Tok{record(api.Tok{Text: "#a;{}"})}},
	} {
		if got, e := Parse([]byte(x.s)); !same(got, x.want) || e != (api.Err{}) {
			t.Errorf("Parse(%q) = %v, %v, want %v", x.s, got, e, x.want)
		}
	}
}

// Promise 9.1: empty fields and empty records, and no record behind the last end.
func TestEmptyFields(t *testing.T) {
	for _, x := range []struct {
		s    string
		want [][]api.Tok
	}{
		{"\n", [][]api.Tok{record(api.Tok{})}},
		{"\r\n", [][]api.Tok{record(api.Tok{})}},
		{"\n\n", [][]api.Tok{record(api.Tok{}), record(api.Tok{At: 1})}},
		{"\r\n\n\r\n", [][]api.Tok{record(api.Tok{}), record(api.Tok{At: 2}), record(api.Tok{At: 3})}},
		{"a\n\nb", [][]api.Tok{record(api.Tok{Text: "a"}), record(api.Tok{At: 2}), record(api.Tok{Text: "b", At: 3})}},
		{",", [][]api.Tok{record(api.Tok{}, api.Tok{At: 1})}},
		{",\n", [][]api.Tok{record(api.Tok{}, api.Tok{At: 1})}},
		{",,", [][]api.Tok{record(api.Tok{}, api.Tok{At: 1}, api.Tok{At: 2})}},
		{"a,\r\n,b", [][]api.Tok{record(api.Tok{Text: "a"}, api.Tok{At: 2}), record(api.Tok{At: 4}, api.Tok{Text: "b", At: 5})}},
		{`""`, [][]api.Tok{record(api.Tok{})}},
		{"\"\"\n", [][]api.Tok{record(api.Tok{})}},
		{`"",""`, [][]api.Tok{record(api.Tok{}, api.Tok{At: 3})}},
		{`,"",`, [][]api.Tok{record(api.Tok{}, api.Tok{At: 1}, api.Tok{At: 4})}},
	} {
		if got, e := Parse([]byte(x.s)); !same(got, x.want) || e != (api.Err{}) {
			t.Errorf("Parse(%q) = %v, %v, want %v", x.s, got, e, x.want)
		}
	}
}

// Promise 9.1: what a field in quotes stands for: line ends as they stand, a 13 by itself, too.
func TestQuotes(t *testing.T) {
	for _, x := range []struct {
		s    string
		want [][]api.Tok
	}{
		{`"a"`, [][]api.Tok{record(api.Tok{Text: "a"})}},
		{`"a,b",c`, [][]api.Tok{record(api.Tok{Text: "a,b"}, api.Tok{Text: "c", At: 6})}},
		{`""""`, [][]api.Tok{record(api.Tok{Text: `"`})}},
		{`""""""`, [][]api.Tok{record(api.Tok{Text: `""`})}},
		{`"a""","""b"`, [][]api.Tok{record(api.Tok{Text: `a"`}, api.Tok{Text: `"b`, At: 6})}},
		{`""",""",`, [][]api.Tok{record(api.Tok{Text: `","`}, api.Tok{At: 8})}},
		{"\"a\nb\"\nc", [][]api.Tok{record(api.Tok{Text: "a\nb"}), record(api.Tok{Text: "c", At: 6})}},
		{"\"a\r\nb\"\r\n", [][]api.Tok{record(api.Tok{Text: "a\r\nb"})}},
		{"\"\r\"", [][]api.Tok{record(api.Tok{Text: "\r"})}},
		{"\"\r\",\"\n\r\r\n\"", [][]api.Tok{record(api.Tok{Text: "\r"}, api.Tok{Text: "\n\r\r\n", At: 4})}},
		{`"\""`, nil},
		{`"\","\n"`, [][]api.Tok{record(api.Tok{Text: `\`}, api.Tok{Text: `\n`, At: 4})}},
		{`" a "`, [][]api.Tok{record(api.Tok{Text: " a "})}},
	} {
		want := api.Err{}
		if x.want == nil {
			want = api.Err{Kind: 1, At: len(x.s)}
		}
		if got, e := Parse([]byte(x.s)); !same(got, x.want) || e != want {
			t.Errorf("Parse(%q) = %v, %v, want %v, %v", x.s, got, e, x.want, want)
		}
	}
}

// Promise 9.1: ESyntax where something stands that can't, behind a 13 without a line feed, and where b ends in quotes.
func TestSyntax(t *testing.T) {
	for _, x := range []struct {
		s  string
		at int
	}{
		{"\t", 0}, {"\x00", 0}, {"\x1f", 0}, {"\x7f", 0}, {"\x80", 0}, {"\xff", 0}, {"é", 0}, {"\ufeffa", 0}, {"\v", 0}, {"\f", 0},
		{"a\tb", 1}, {"a,\x7f", 2}, {"a\nb,\x80", 4}, {"ab\xff\t", 2}, {"\n\r\n\t", 3},
		{`a"`, 1}, {`a"b"`, 1}, {` "a"`, 1}, {`a,b"`, 3}, {"a\nb\"", 3},
		{`"a"b`, 3}, {`"a" `, 3}, {`"a" ,b`, 3}, {`"""" "`, 4}, {"\"a\"\t", 3}, {`"a"é`, 3}, {`a,""b`, 4},
		{"\r", 1}, {"a\r", 2}, {"a\rb", 2}, {"a\r\r\n", 2}, {"\r\r", 1}, {"a,\r", 3}, {"a\r,", 2}, {"a\r\"\"", 2}, {"a\r\xff", 2}, {"\"a\"\r", 4}, {"\"a\"\rb", 4}, {"\"a\"\r\r\n", 4}, {"a\n\r", 3},
		{`"`, 1}, {`"a`, 2}, {`"a""`, 4}, {`"""`, 3}, {`a,"`, 3}, {`"a","b`, 6}, {"\"a\n", 3}, {"\"a\r", 3}, {"\"a,b\n", 5}, {"a\n\"", 3},
		{"\"\t\"", 1}, {"\"a\x00", 2}, {"\"a\x1f\"", 2}, {"\"a\x7f\"", 2}, {"\"é\"", 1}, {"\"\"\"\xff\"", 3}, {"\"\n\v\"", 2}, {"\"a\"\"\t", 4},
	} {
		refuse(t, x.s, api.Err{Kind: 1, At: x.at})
	}
}

// Promise 9.1: each byte by itself, in and beside a field, in quotes, and behind each end.
func TestEachByte(t *testing.T) {
	for c := range 256 {
		for _, form := range []string{"?", "a?", "?a", "a?b", "a,?", "?,a", "??", "\"?\"", "\"a?b\"", "\"?", "\"a\"?", "\"a\"?\"b\"", "\"\"\"?\"", "\n?", "\r?", "\r\n?\r\n", "a\r?", "\"a\"\r?", "?\n", "?\r\n", ",?,"} {
			checkParse(t, []byte(strings.ReplaceAll(form, "?", string([]byte{byte(c)}))))
		}
	}
}

// Promise 9.1: 255 bytes of a field are taken, 256 are not; those in quotes are counted as they stand for.
func TestLimitOfOne(t *testing.T) {
	for _, n := range []int{254, 255, 256, 257, 512, 100000} {
		plain, quotes, ends := strings.Repeat("a", n), strings.Repeat(`""`, n), strings.Repeat("\n", n)
		for _, x := range []struct {
			s    string
			i    int
			want api.Tok
		}{
			{plain, 0, api.Tok{Kind: 5, Text: plain}},
			{"b," + plain + "\r\n", 1, api.Tok{Kind: 5, Text: plain, At: 2}},
			{"\"" + plain + "\"\n", 0, api.Tok{Kind: 5, Text: plain}},
			{",\"" + quotes + "\",c", 1, api.Tok{Kind: 5, Text: strings.Repeat(`"`, n), At: 1}},
			{"\"" + ends + "\"", 0, api.Tok{Kind: 5, Text: ends}},
		} {
			if n > 255 {
				refuse(t, x.s, api.Err{Kind: 2, At: x.want.At})
				continue
			}
			if got, e := Parse([]byte(x.s)); len(got) != 1 || len(got[0]) <= x.i || got[0][x.i] != x.want || e != (api.Err{}) {
				t.Errorf("Parse(%.80q) of %d = %.200v, %v", x.s, n, got, e)
			}
		}
	}
	if got, e := Parse([]byte(strings.Repeat("a,", 5000) + strings.Repeat("\n", 5000))); len(got) != 5000 || len(got[0]) != 5001 || e != (api.Err{}) {
		t.Errorf("a long record and many empty ones are %d records, %v", len(got), e)
	}
}

// Promise 9.1: which of two errors is told: that of a length, where its field ends, in quotes at the last one.
func TestLimitIsToldAtTheEnd(t *testing.T) {
	long := strings.Repeat("a", 256)
	for _, x := range []struct {
		s    string
		want api.Err
	}{
		{long + "\t", api.Err{Kind: 1, At: 256}},
		{long + "\"", api.Err{Kind: 1, At: 256}},
		{long + "b\xff,", api.Err{Kind: 1, At: 257}},
		{long + ",\t", api.Err{Kind: 2}},
		{long + "\n\t", api.Err{Kind: 2}},
		{long + "\r\t", api.Err{Kind: 2}},
		{long + "\r", api.Err{Kind: 2}},
		{long + "," + long, api.Err{Kind: 2}},
		{"\t" + long, api.Err{Kind: 1}},
		{"a\r" + long, api.Err{Kind: 1, At: 2}},
		{"a\n,\"b\"c," + long, api.Err{Kind: 1, At: 6}},
		{"\"" + long, api.Err{Kind: 1, At: 257}},
		{"\"" + long + "\"\"", api.Err{Kind: 1, At: 259}},
		{"\"" + long + "\t\"", api.Err{Kind: 1, At: 257}},
		{"\"" + long + "\"", api.Err{Kind: 2}},
		{"\"" + long + "\"b", api.Err{Kind: 2}},
		{"\"" + long + "\"\t", api.Err{Kind: 2}},
		{"\"" + long + "\"\r", api.Err{Kind: 2}},
		{"a,\"" + long + "\" \"", api.Err{Kind: 2, At: 2}},
		{"\"" + long[1:] + "\"," + long, api.Err{Kind: 2, At: 258}},
		{long[1:] + "\n" + long, api.Err{Kind: 2, At: 256}},
	} {
		refuse(t, x.s, x.want)
	}
}

// Promise 9.1: scan.Long is asked first, whatever else is wrong.
func TestLimitOfAll(t *testing.T) {
	for _, c := range []string{" ", "\n", "\r", "a", ",", "\"", "\t", "\xff"} {
		refuse(t, strings.Repeat(c, 1000001), api.Err{Kind: 2, At: 1000000})
		refuse(t, strings.Repeat(c, 2000000), api.Err{Kind: 2, At: 1000000})
	}
	refuse(t, strings.Repeat("a", 256)+strings.Repeat("\t", 999745), api.Err{Kind: 2, At: 1000000})
	for _, s := range []string{strings.Repeat("\n", 1000000), strings.Repeat("\r\n", 500000), strings.Repeat(",", 1000000), strings.Repeat("a\n", 500000), strings.Repeat("\"\"\n", 333333), strings.Repeat(strings.Repeat("b", 255)+",", 3906), strings.Repeat("a", 1000000), strings.Repeat("\"", 1000000), strings.Repeat("\"", 999999), "\"" + strings.Repeat("\n", 999999), strings.Repeat(",", 999999) + "\t", strings.Repeat("\n", 999999) + "\r"} {
		checkParse(t, []byte(s))
	}
}

// Promises 9.1 and 9.3: every short text of what begins, ends or breaks something, and noise.
func TestAnyText(t *testing.T) {
	for _, b := range append(short(), noise()...) {
		checkParse(t, b)
	}
}

// formsOf are the ways in which a field may stand in a text.
func formsOf(text string) []string {
	return []string{text, `"` + strings.ReplaceAll(text, `"`, `""`) + `"`}
}

// Promise 9.3 (W1): any bytes are records or an error with a place within them, never both, and fields stand one behind the other where they say, with nothing but a comma or an end between.
func TestOneOrTheOther(t *testing.T) {
	read, refused := 0, 0
	for _, b := range append(short(), noise()...) {
		all, e := Parse(b)
		if e.Kind != 0 {
			refused++
			if len(all) != 0 || e.At < 0 || e.At > len(b) || e.Kind != api.ESyntax && e.Kind != api.ELimit {
				t.Fatalf("Parse(%q) = %v, %v", b, all, e)
			}
			continue
		}
		read++
		end := 0
		for i, fields := range all {
			for k, f := range fields {
				form := formsOf(f.Text)[0]
				if f.At < len(b) && b[f.At] == '"' {
					form = formsOf(f.Text)[1]
				}
				between := string(b[end:f.At])
				fits := i == 0 && k == 0 && between == "" || i > 0 && k == 0 && (between == "\n" || between == "\r\n") || k > 0 && between == ","
				if e.At != 0 || f.Kind != api.KField || !fits || !bytes.HasPrefix(b[f.At:], []byte(form)) {
					t.Fatalf("Parse(%q) tells %v behind %q, %v", b, f, between, e)
				}
				end = f.At + len(form)
			}
		}
		if rest := string(b[end:]); rest != "" && rest != "\n" && rest != "\r\n" {
			t.Fatalf("Parse(%q) = %v, and leaves %q", b, all, rest)
		}
	}
	if read < 10000 || refused < 10000 {
		t.Errorf("%d texts were read, %d refused", read, refused)
	}
}

// Promise 9.2: commas between, a line feed behind, and what is put in quotes.
func TestPrint(t *testing.T) {
	for _, x := range []struct {
		l    [][]string
		want string
	}{
		{nil, ""},
		{[][]string{}, ""},
		{[][]string{{"a"}}, "a\n"},
		{[][]string{{"a", "b"}, {"c"}}, "a,b\nc\n"},
		{[][]string{{"prefix", "2001:db8::/32", "", ""}}, "prefix,2001:db8::/32,,\n"},
		{[][]string{{""}}, "\"\"\n"},
		{[][]string{{""}, {""}}, "\"\"\n\"\"\n"},
		{[][]string{{"", ""}}, ",\n"},
		{[][]string{{"", "", ""}, {""}}, ",,\n\"\"\n"},
		{[][]string{{}}, "\n"},
		{[][]string{nil, {"a"}, {}}, "\na\n\n"},
		{[][]string{{"\""}}, "\"\"\"\"\n"},
		{[][]string{{"\"\"", "a\"b"}}, "\"\"\"\"\"\",\"a\"\"b\"\n"},
		{[][]string{{","}, {"a,b", "c"}}, "\",\"\n\"a,b\",c\n"},
		{[][]string{{"\n"}, {"\r"}, {"\r\n"}}, "\"\n\"\n\"\r\"\n\"\r\n\"\n"},
		{[][]string{{"a\nb", "c\rd", "e\r\n"}}, "\"a\nb\",\"c\rd\",\"e\r\n\"\n"},
		{[][]string{{" "}, {" a ", "'", "\\"}}, " \n a ,',\\\n"},
		{[][]string{{"#", ";", "\\\"", "=1"}}, "#,;,\"\\\"\"\",=1\n"},
	} {
		if got := string(Print(x.l)); got != x.want {
			t.Errorf("Print(%q) = %q, want %q", x.l, got, x.want)
		}
	}
}

// Promise 9.2: each byte alone, between others, and behind some that make a field long; no byte is left out.
func TestPrintEachByte(t *testing.T) {
	for c := range 256 {
		one := string([]byte{byte(c)})
		for _, form := range []string{"?", "a?b", "??", "abcdefghijk?", "é?"} {
			field := strings.ReplaceAll(form, "?", one)
			want := field
			switch c {
			case '"':
				want = `"` + strings.ReplaceAll(field, `"`, `""`) + `"`
			case ',', 10, 13:
				want = `"` + field + `"`
			}
			if got := string(Print([][]string{{field}})); got != want+"\n" {
				t.Errorf("Print of the field %q = %q, want %q", field, got, want+"\n")
			}
			if got := string(Print([][]string{{"x", field, ""}})); got != "x,"+want+",\n" {
				t.Errorf("Print of x, %q and nothing = %q", field, got)
			}
		}
	}
}

// textsOf are the fields of records without their places.
func textsOf(all [][]api.Tok) [][]string {
	texts := make([][]string, len(all))
	for i, fields := range all {
		for _, f := range fields {
			texts[i] = append(texts[i], f.Text)
		}
	}
	return texts
}

func sameTexts(a, b [][]string) bool {
	return slices.EqualFunc(a, b, slices.Equal[[]string])
}

// Promises 9.1, 9.2 and 9.3: what is read, told again, is read as the same, and another reader of records takes it for the same, too.
func TestPrintIsRead(t *testing.T) {
	for _, b := range append(short(), noise()...) {
		all, e := Parse(b)
		if e.Kind != 0 {
			continue
		}
		texts := textsOf(all)
		told := Print(texts)
		again, e := Parse(told)
		if e != (api.Err{}) || !sameTexts(textsOf(again), texts) {
			t.Fatalf("Print(%q) = %q is read as %v, %v", texts, told, again, e)
		}
		if bytes.Contains(told, []byte("\r\n")) {
			continue // that reader takes a 13 away ahead of each line feed, in quotes, too
		}
		reader := csv.NewReader(bytes.NewReader(told))
		reader.FieldsPerRecord = -1
		others, fault := reader.ReadAll()
		if fault != nil || !sameTexts(others, texts) {
			t.Fatalf("Print(%q) = %q, which another reader reads as %q, %v", texts, told, others, fault)
		}
	}
}

// Promise 9.2: fields are told as they stand, however long they are and however many.
func TestPrintMuch(t *testing.T) {
	long := strings.Repeat("x", 2000000)
	if got := string(Print([][]string{{long, long + "\""}})); got != long+",\""+long+"\"\"\"\n" {
		t.Errorf("Print of two long fields is %d bytes", len(got))
	}
	many := slices.Repeat([][]string{{"a", "", "b,"}}, 200000)
	if got := string(Print(many)); got != strings.Repeat("a,,\"b,\"\n", 200000) {
		t.Errorf("Print of many records is %d bytes", len(got))
	}
}

// The room behind b is not looked at.
func TestRoom(t *testing.T) {
	for _, x := range []struct {
		s    string
		n    int
		want api.Err
	}{{`"a"`, 2, api.Err{Kind: 1, At: 2}}, {`"a""b"`, 4, api.Err{Kind: 1, At: 4}}, {"a\r\n", 2, api.Err{Kind: 1, At: 2}}, {"a\t", 1, api.Err{}}, {`"a"b`, 3, api.Err{}}, {"a\n\t", 2, api.Err{}}} {
		got, e := Parse([]byte(x.s)[:x.n])
		read := len(got) == 1 && len(got[0]) == 1 && got[0][0] == (api.Tok{Kind: 5, Text: "a"})
		if e != x.want || read != (e.Kind == 0) {
			t.Errorf("Parse of %d bytes of %q = %v, %v, want %v", x.n, x.s, got, e, x.want)
		}
	}
}

// What is handed in to Parse is not changed, nor the room behind it, and what is answered shares none of it, and no two records share any.
func TestMemory(t *testing.T) {
	room := []byte("a,\"b\"\"c\"\nd,e\r\n\"f\n\" room")
	was := slices.Clone(room)
	b := room[:18]
	want := [][]api.Tok{record(api.Tok{Text: "a"}, api.Tok{Text: `b"c`, At: 2}), record(api.Tok{Text: "d", At: 9}, api.Tok{Text: "e", At: 11}), record(api.Tok{Text: "f\n", At: 14})}
	all, e := Parse(b)
	if !same(all, want) || e != (api.Err{}) || !bytes.Equal(room, was) {
		t.Fatalf("Parse = %v, %v, and what is handed in has become %q", all, e, room)
	}
	again, _ := Parse(b)
	for i := range room {
		room[i] = 'x'
	}
	for i := range again {
		spare := again[i][:cap(again[i])]
		for k := range spare {
			spare[k] = api.Tok{Text: "y"}
		}
		if i+1 < len(again) && !slices.Equal(again[i+1], want[i+1]) {
			t.Fatalf("a record shares memory with the one ahead of it: %v", again[i+1])
		}
	}
	if !same(all, want) {
		t.Errorf("the records have become %v, want %v", all, want)
	}
}

// What is handed in to Print is not changed, nor the room behind its lists, and what is answered is new.
func TestPrintMemory(t *testing.T) {
	fields := []string{"a", "b\"c", "", "room"}
	records := [][]string{fields[:3], {""}, {"room"}}
	l := records[:2]
	told := Print(l)
	want := "a,\"b\"\"c\",\n\"\"\n"
	if string(told) != want || !slices.Equal(fields, []string{"a", "b\"c", "", "room"}) || len(records[0]) != 3 || records[1][0] != "" || records[2][0] != "room" {
		t.Fatalf("Print = %q, and what is handed in has become %q, %q", told, fields, records)
	}
	again := Print(l)
	again = again[:cap(again)]
	for i := range again {
		again[i] = 'x'
	}
	fields[0] = "y"
	if string(told) != want {
		t.Errorf("what is told has become %q", told)
	}
}

// Promise 9.4: a panic names its call here, rather than ending the run.
func TestNoCallPanics(t *testing.T) {
	try := func(name string, b []byte, call func()) {
		defer func() {
			if fault := recover(); fault != nil {
				t.Errorf("%s of %.80q panics: %v", name, b, fault)
			}
		}()
		call()
	}
	texts := append(short(), noise()...)
	texts = append(texts, nil, []byte{}, make([]byte, 1000001), bytes.Repeat([]byte{'"'}, 1000001), bytes.Repeat([]byte{13}, 3000000))
	for _, b := range texts {
		try("Parse", b, func() { Parse(b) })
		try("Print", b, func() { Print([][]string{{string(b)}, nil, {}, {"", string(b)}}) })
	}
	try("Print", nil, func() { Print(nil) })
}
