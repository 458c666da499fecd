package json

import (
	"bytes"
	library "encoding/json"
	"math/big"
	"math/rand"
	"reflect"
	"regexp"
	"slices"
	"strconv"
	"strings"
	"testing"
	"unicode/utf8"

	"glebe/api"
)

// show is a value as text, with all that its Kind does not name too, if it is there, and with its place.
func show(j api.Json) string {
	var said string
	switch {
	case j.Kind == 4 && j.Text == "" && len(j.List)+len(j.Keys) == 0:
		said = strconv.FormatInt(j.Num, 10)
	case j.Kind == 5 && j.Num == 0 && len(j.List)+len(j.Keys) == 0:
		said = strconv.Quote(j.Text)
	case j.Num != 0 || j.Text != "" || len(j.Keys) != 0 && j.Kind != 7 || len(j.List) != 0 && j.Kind < 6:
		said = "none"
	case j.Kind == 6:
		said = "[" + showAll(j) + "]"
	case j.Kind == 7 && len(j.Keys) == len(j.List):
		said = "{" + showAll(j) + "}"
	case j.Kind < 4:
		said = []string{"zero", "null", "false", "true"}[max(j.Kind, 0)]
	}
	return said + "@" + strconv.Itoa(j.At)
}

func showAll(j api.Json) string {
	var all []string
	for i, inner := range j.List {
		said := show(inner)
		if j.Kind == 7 {
			said = strconv.Quote(j.Keys[i]) + "=" + said
		}
		all = append(all, said)
	}
	return strings.Join(all, " ")
}

// The second way to read, to hold the package's answers against: signs are cut by patterns, and a stack tells what may stand next.
var (
	skipped   = regexp.MustCompile(`^(?s:[ \t\r\n]|#[^\n]*|//[^\n]*|/\*.*?\*/)*`)
	numberRow = regexp.MustCompile(`^[-0-9][-+.0-9A-Za-z]*`)
	number    = regexp.MustCompile(`^(0|-?[1-9][0-9]*)$`)
	wordCut   = regexp.MustCompile(`^(n(u(ll?)?)?|t(r(ue?)?)?|f(a(l(se?)?)?)?)?`)
	char      = regexp.MustCompile(`^([^"\\\x00-\x1f]|\\["\\/bfnrt]|\\u[dD][89abAB][0-9a-fA-F]{2}\\u[dD][c-fC-F][0-9a-fA-F]{2}|\\u([0-9abcefABCEF][0-9a-fA-F]{3}|[dD][0-7][0-9a-fA-F]{2}))`)
	charCut   = regexp.MustCompile(`^(\\u[dD][89abAB][0-9a-fA-F]{2})?(\\(u[0-9a-fA-F]{0,3})?)?$`)
)

// fault is an error of the second way.
type fault api.Err

// textOf answers what the text that s begins with stands for, and how long it is; a fault counts from s.
func textOf(s string) (string, int) {
	i := 1
	for ; i >= len(s) || s[i] != '"'; i += len(char.FindString(s[i:])) {
		if charCut.MatchString(s[i:]) {
			panic(fault{1, len(s)})
		}
		if one := char.FindString(s[i:]); one == "" || !utf8.ValidString(one) {
			panic(fault{1, i})
		}
	}
	var said string
	if err := library.Unmarshal([]byte(s[:i+1]), &said); err != nil {
		panic(err)
	}
	if len(said) > 255 {
		panic(fault{2, 0})
	}
	return said, i + 1
}

// scalarOf answers a value that is no list and no map, as show tells it without its place, and how long it is.
func scalarOf(s string) (string, int) {
	if row := numberRow.FindString(s); row != "" {
		n, _ := new(big.Int).SetString(row, 10)
		if !number.MatchString(row) || !n.IsInt64() {
			panic(fault{1, 0})
		}
		return row, len(row)
	}
	if s != "" && s[0] == '"' {
		said, n := textOf(s)
		return strconv.Quote(said), n
	}
	word := wordCut.FindString(s)
	if word != "null" && word != "true" && word != "false" {
		panic(fault{1, len(word)})
	}
	return word, len(word)
}

// opened is a list or a map that is not ended.
type opened struct {
	end  byte
	at   int
	name string
	has  map[string]bool
	all  []string
}

type walk struct {
	s    string
	at   int
	in   []*opened
	next string
	done string
}

// put puts a value into what it is in.
func (w *walk) put(said string) {
	w.next = "more"
	if len(w.in) == 0 {
		w.next, w.done = "end", said
		return
	}
	o := w.in[len(w.in)-1]
	if o.end == '}' {
		said = strconv.Quote(o.name) + "=" + said
	}
	o.all = append(o.all, said)
}

func (w *walk) open(c byte) {
	if len(w.in) == 64 {
		panic(fault{2, 0})
	}
	w.in = append(w.in, &opened{end: c + 2, at: w.at, has: map[string]bool{}})
	w.next = map[byte]string{'[': "first value", '{': "first name"}[c]
}

func (w *walk) close() {
	o := w.in[len(w.in)-1]
	w.in = w.in[:len(w.in)-1]
	w.put(string(o.end-2) + strings.Join(o.all, " ") + string(o.end) + "@" + strconv.Itoa(o.at))
}

// step reads a sign, and answers how long it is.
func (w *walk) step(s string) int {
	c := (s[:min(1, len(s))] + "\x00")[0]
	inner := &opened{}
	if len(w.in) > 0 {
		inner = w.in[len(w.in)-1]
	}
	switch {
	case c == inner.end && (w.next == "more" || strings.HasPrefix(w.next, "first")) && c > 0:
		w.close()
	case c == ',' && w.next == "more":
		w.next = map[byte]string{']': "value", '}': "name"}[inner.end]
	case c == ':' && w.next == "colon":
		w.next = "value"
	case c == '"' && strings.HasSuffix(w.next, "name"):
		name, n := textOf(s)
		if inner.has[name] {
			panic(fault{3, 0})
		}
		inner.name, inner.has[name], w.next = name, true, "colon"
		return n
	case (c == '[' || c == '{') && strings.HasSuffix(w.next, "value"):
		w.open(c)
	case strings.HasSuffix(w.next, "value"):
		said, n := scalarOf(s)
		w.put(said + "@" + strconv.Itoa(w.at))
		return n
	default:
		panic(fault{1, 0})
	}
	return 1
}

// readBySigns answers a value as show tells it, or an error.
func readBySigns(b []byte) (said string, e api.Err) {
	if len(b) > 1000000 {
		return "zero@0", api.Err{Kind: 2, At: 1000000}
	}
	w := &walk{s: string(b), next: "value"}
	defer func() {
		if met := recover(); met != nil {
			f := met.(fault)
			said, e = "zero@0", api.Err{Kind: f.Kind, At: f.At + w.at}
		}
	}()
	for {
		w.at += len(skipped.FindString(w.s[w.at:]))
		if w.next == "end" && w.at == len(w.s) {
			return w.done, api.Err{}
		}
		w.at += w.step(w.s[w.at:])
	}
}

func checkParse(t *testing.T, b []byte) {
	t.Helper()
	want, wantErr := readBySigns(b)
	if got, e := Parse(b); show(got) != want || e != wantErr {
		t.Fatalf("Parse(%.200q) = %.200s, %v, want %.200s, %v", b, show(got), e, want, wantErr)
	}
}

// refuse asks for an Err, and for no value beside it.
func refuse(t *testing.T, s string, want api.Err) {
	t.Helper()
	if got, e := Parse([]byte(s)); !reflect.DeepEqual(got, api.Json{}) || e != want {
		t.Errorf("Parse(%.80q) = %.200s, %v, want none, %v", s, show(got), e, want)
	}
}

// read asks for a value, as show tells it.
func read(t *testing.T, s, want string) {
	t.Helper()
	if got, e := Parse([]byte(s)); show(got) != want || e != (api.Err{}) {
		t.Errorf("Parse(%.80q) = %.200s, %v, want %.200s", s, show(got), e, want)
	}
}

// made answers a value at random, that is told by teller.
func made(source *rand.Rand, in int) api.Json {
	kind := 1 + source.Intn(7)
	if in > 4 {
		kind = 1 + source.Intn(5)
	}
	j := api.Json{Kind: kind}
	switch kind {
	case 4:
		j.Num = int64(source.Uint64()) >> source.Intn(64)
	case 5:
		j.Text = madeText(source)
	case 6, 7:
		for range source.Intn(5) {
			name := madeText(source)
			if slices.Contains(j.Keys, name) {
				continue
			}
			if kind == 7 {
				j.Keys = append(j.Keys, name)
			}
			j.List = append(j.List, made(source, in+1))
		}
	}
	return j
}

func madeText(source *rand.Rand) string {
	var said strings.Builder
	for range source.Intn(4) {
		said.WriteString([]string{"a", "b", "\"", "\\", "/", "\b\f\n\r\t", "\x00\x1f", "\x7f\u0080", "é", "€", "\u2028\ufffd\uffff", "\ud7ff\ue000", "\U00010000", "\U0010ffff𝄞", "#", "//", "/*", "[1]"}[source.Intn(18)])
	}
	return said.String()
}

// teller tells a value with blanks and comments at random, and keeps where it stands.
type teller struct {
	bytes.Buffer
	source *rand.Rand
}

func (w *teller) between() {
	for w.source.Intn(3) == 0 {
		w.WriteString([]string{" ", "\t", "\r", "\n", "#\n", "# \"[\xff\x00\r\r\n", "//\n", "// */ é\n", "/**/", "/***/", "/*/ # \" \xff\n//*/", "#/*\n"}[w.source.Intn(12)])
	}
}

func (w *teller) text(s string) {
	w.WriteByte('"')
	for _, c := range s {
		i := strings.IndexRune("\"\\/\b\f\n\r\t", c)
		switch how := w.source.Intn(4); {
		case i >= 0 && how < 2:
			w.WriteString(`\` + "\"\\/bfnrt"[i:i+1])
		case c > 0xffff && how == 0:
			w.WriteString(`\u` + w.digits(0xd7c0+c>>10) + `\u` + w.digits(0xdc00+c&0x3ff))
		case c <= 0xffff && how == 0 || c < ' ' || c == '"' || c == '\\':
			w.WriteString(`\u` + w.digits(c))
		default:
			w.WriteRune(c)
		}
	}
	w.WriteByte('"')
}

func (w *teller) digits(c rune) string {
	four := []byte(strconv.FormatInt(0x10000+int64(c), 16)[1:])
	for i := range four {
		if w.source.Intn(2) == 0 {
			four[i] = bytes.ToUpper(four[i : i+1])[0]
		}
	}
	return string(four)
}

func (w *teller) value(j *api.Json) {
	j.At = w.Len()
	switch j.Kind {
	case 4:
		w.WriteString(strconv.FormatInt(j.Num, 10))
	case 5:
		w.text(j.Text)
	case 6, 7:
		w.inside(j)
	default:
		w.WriteString([]string{"", "null", "false", "true"}[j.Kind])
	}
}

func (w *teller) inside(j *api.Json) {
	w.WriteByte("[{"[j.Kind-6])
	for i := range j.List {
		if i > 0 {
			w.WriteByte(',')
		}
		w.between()
		if j.Kind == 7 {
			w.text(j.Keys[i])
			w.between()
			w.WriteByte(':')
			w.between()
		}
		w.value(&j.List[i])
		w.between()
	}
	if len(j.List) == 0 {
		w.between()
	}
	w.WriteByte("]}"[j.Kind-6])
}

// told answers a value at random, and a text that tells it.
func told(source *rand.Rand) (api.Json, []byte) {
	w := &teller{source: source}
	w.between()
	j := made(source, 0)
	w.value(&j)
	w.between()
	w.WriteString([]string{"", "#", "// end", "/* end */"}[source.Intn(4)])
	return j, w.Bytes()
}

// short are all texts of so many pieces, and of fewer, behind a beginning.
func short(begin string, most int, pieces ...string) [][]byte {
	all := [][]byte{[]byte(begin)}
	from := 0
	for range most {
		to := len(all)
		for _, b := range all[from:to] {
			for _, piece := range pieces {
				all = append(all, append(slices.Clone(b), piece...))
			}
		}
		from = to
	}
	return all
}

// shorts are short texts of what begins, ends or breaks something.
func shorts() [][]byte {
	return slices.Concat(
		short("", 5, "[", "]", "{", "}", ",", ":", `"`, "1", "a", " "),
		short(`{"a"`, 4, "[", "]", "{", "}", ",", ":", `"`, `"a"`, `"b":`, `"\u0061":`, "1", "null"),
		short(`{"a":1`, 5, `,"a"`, `,"\u0061"`, `,"b"`, ":", "{", "}", "1"),
		short("", 5, "-", "+", "0", "1", "9", ".", "e", ",", " "),
		short("[", 4, "-", "0", "7", "Z", "_", "/", "]", "\xc3", "#"),
		short("", 6, "/", "*", "#", "\n", "\r", "1"),
		short("{", 5, "/", "*", "#", "\n", `"b":1`, "}"),
		short(`"`, 4, `"`, `\`, "u", "0", "D", "8", "c", "g", "n", "\x1f"),
		short(`["`, 4, `"`, `\`, `\ud8Ff`, `\uDc00`, `\u0041`, `\ud`, `\u12`, `\n`, "a", "é", "\xed\xa0\x80"),
		short(`"`, 4, "\xc3", "\xa9", "\xe2", "\x82", "\xf0", "\x90", "\xf4", "\xed", "\xc0", "\x7f", `"`),
		short("", 5, "n", "u", "l", "t", "r", "e"),
		short("[f", 5, "a", "l", "s", "e", "]"))
}

// noise is right texts, most of them with something taken out, put in, or cut off.
func noise() [][]byte {
	source := rand.New(rand.NewSource(11))
	pieces := []string{"[", "]", "{", "}", ",", ":", `"`, `\`, `\u`, `\ud800`, `\udc00`, "/", "*", "/*", "*/", "#", "\n", " ", "0", "-", "1", ".", "null", "tru", `"a"`, `"a":`, "\x00", "\x1f", "\xff", "é", "\xc3", strings.Repeat("x", 254), strings.Repeat("é", 128), strings.Repeat("[", 63)}
	var all [][]byte
	for range 30000 {
		_, b := told(source)
		for range source.Intn(3) {
			at := source.Intn(len(b) + 1)
			to := min(at+source.Intn(3), len(b))
			piece := pieces[source.Intn(len(pieces))]
			switch source.Intn(4) {
			case 0:
				b = b[:at]
			case 1:
				b = slices.Concat(b[:at], b[to:])
			case 2:
				b = slices.Concat(b[:at], []byte(piece), b[at:])
			case 3:
				b = slices.Concat(b[:at], []byte(piece), b[to:])
			}
		}
		all = append(all, b)
	}
	return all
}

// Promise 11.1: values of each kind, with their places.
func TestValues(t *testing.T) {
	for _, x := range [][2]string{
		{"null", "null@0"}, {"false", "false@0"}, {"true", "true@0"}, {"0", "0@0"}, {`""`, `""@0`}, {"[]", "[]@0"}, {"{}", "{}@0"},
		{"[1]", "[1@1]@0"}, {"[null,false,true]", "[null@1 false@6 true@12]@0"}, {`[0,"a",[],{}]`, `[0@1 "a"@3 []@7 {}@10]@0`},
		{`{"a":1}`, `{"a"=1@5}@0`}, {`{"b":1,"a":2,"":3}`, `{"b"=1@5 "a"=2@11 ""=3@16}@0`}, {`{"a":{"a":{"a":[]}}}`, `{"a"={"a"={"a"=[]@15}@10}@5}@0`}, {`[{"a":1},{"a":1}]`, `[{"a"=1@6}@1 {"a"=1@14}@9]@0`},
		{"[[[1],2],3]", "[[[1@3]@2 2@6]@1 3@9]@0"}, {`{"a":1,"A":2,"a ":3,"\u00e1":4}`, `{"a"=1@5 "A"=2@11 "a "=3@18 "á"=4@29}@0`},
		{" [ 1 , 2 ] ", "[1@3 2@7]@1"}, {"\t{\r\n\"a\"\n:\t1 ,\"b\" : [ ] }\n", `{"a"=1@10 "b"=[]@19}@1`},
	} {
		read(t, x[0], x[1])
	}
}

// Promise 11.1: numbers are those of an int64, as they are told shortest, and nothing of a number stands behind one.
func TestNumbers(t *testing.T) {
	for _, s := range []string{"0", "1", "9", "10", "-1", "-10", "1234567890", "4294967296", "9007199254740993", "9223372036854775807", "-9223372036854775807", "-9223372036854775808"} {
		read(t, s, s+"@0")
		read(t, "["+s+"]", "["+s+"@1]@0")
		read(t, `{"a": `+s+`}`, `{"a"=`+s+`@6}@0`)
		for _, behind := range []string{" ", "\t", "\r", "\n", "#", "#1", "//", "/*.*/"} {
			read(t, s+behind, s+"@0")
		}
		for _, behind := range []string{"a", "z", "A", "Z", ".", "+", "-", "e1", ".0", "E", "x", "-1", "+1", ".,", "null", "n/"} {
			refuse(t, " "+s+behind, api.Err{Kind: 1, At: 1})
			refuse(t, "["+s+behind+"]", api.Err{Kind: 1, At: 1})
		}
		for _, behind := range []string{"_", "\"", "[", "{", "]", ",", ":", "\x00", "*", "'", "é", "\xff"} {
			refuse(t, s+behind, api.Err{Kind: 1, At: len(s)})
		}
		refuse(t, s+" "+s, api.Err{Kind: 1, At: len(s) + 1})
		refuse(t, s+"/", api.Err{Kind: 1, At: len(s)})
	}
	for _, s := range []string{"-", "-0", "-00", "--1", "-a", "-.1", "- 1", "00", "01", "0123", "-01", "0x1", "0.0", "1.5", "1e5", "1E+5", "1-", "1+1", "9223372036854775808", "-9223372036854775809", "18446744073709551616", "1" + strings.Repeat("0", 1000), "0" + strings.Repeat("1", 1000)} {
		refuse(t, s, api.Err{Kind: 1, At: 0})
		refuse(t, "[1, "+s+"]", api.Err{Kind: 1, At: 4})
		refuse(t, `{"a":`+s, api.Err{Kind: 1, At: 5})
	}
	for _, s := range []string{"+1", "+", ".5", "_1", "e1", "NaN", "Infinity", "٣"} {
		refuse(t, s, api.Err{Kind: 1, At: 0})
	}
}

// Promise 11.1: what texts, and names, stand for.
func TestTexts(t *testing.T) {
	for _, x := range [][2]string{
		{"", ""}, {"a", "a"}, {" ~\x7f", " ~\x7f"}, {"[{]},:#///**/'", "[{]},:#///**/'"}, {"é€𝄞", "é€𝄞"}, {"\u0080\u2028\ufffd\uffff\U0010ffff", "\u0080\u2028\ufffd\uffff\U0010ffff"}, {"\ud7ff\ue000", "\ud7ff\ue000"},
		{`\"`, "\""}, {`\\`, "\\"}, {`\/`, "/"}, {`\b`, "\b"}, {`\f`, "\f"}, {`\n`, "\n"}, {`\r`, "\r"}, {`\t`, "\t"}, {`a\"b\\c`, "a\"b\\c"}, {`\\u0041`, `\u0041`}, {`\\\"`, "\\\""},
		{`\u0041`, "A"}, {`\u0000`, "\x00"}, {`\u001f`, "\x1f"}, {`\u0022\u005C`, "\"\\"}, {`\u00e9\u00E9`, "éé"}, {`\u20ac\u20AC`, "€€"}, {`\uabcd\uEF01`, "\uabcd\uef01"}, {`\ufFfD\uFFFF`, "\ufffd\uffff"}, {`\ud7ff\ue000`, "\ud7ff\ue000"}, {`\u00411`, "A1"},
		{`\ud800\udc00`, "\U00010000"}, {`\uDBFF\uDFFF`, "\U0010ffff"}, {`\ud834\udd1e\uD834\uDD1E`, "𝄞𝄞"}, {`\ud800\udfff`, "\U000103ff"}, {`\udbff\udc00`, "\U0010fc00"}, {`\ud801\udc37a`, "\U00010437a"},
	} {
		read(t, `"`+x[0]+`"`, strconv.Quote(x[1])+"@0")
		read(t, `{"`+x[0]+`":0}`, "{"+strconv.Quote(x[1])+"=0@"+strconv.Itoa(len(x[0])+4)+"}@0")
	}
}

// Promise 11.1: each rune that may stand in a text, and each escape of four digits.
func TestEachRune(t *testing.T) {
	for c := rune(0); c <= 0x110000; c++ {
		s := `"` + string(c) + `"`
		raw := c >= ' ' && c != '"' && c != '\\' && utf8.ValidRune(c)
		if got, e := Parse([]byte(s)); raw && (got.Text != string(c) || e.Kind != 0) || !raw && utf8.ValidRune(c) && e.Kind != 1 {
			t.Fatalf("Parse(%q) = %v, %v", s, got, e)
		}
	}
	for c := rune(0); c <= 0xffff; c++ {
		s := `"\u` + strconv.FormatInt(0x10000+int64(c), 16)[1:] + `"`
		got, e := Parse([]byte(s))
		if utf8.ValidRune(c) != (e.Kind == 0) || e.Kind == 0 && got.Text != string(c) || e.Kind != 0 && e.At != 1 {
			t.Fatalf("Parse(%q) = %v, %v", s, got, e)
		}
	}
}

// Promise 11.1: blanks and comments stand wherever they may between signs, and nowhere else.
func TestBlanksAndComments(t *testing.T) {
	for _, between := range []string{"", " ", "\t", "\n", "\r", " \t\r\n", "#\n", "#a\n", "//\n", "//a\r\n", "# \x00\xff\"[\r{\n", "///\n", "//*\n", "#/*\n", "/**/", "/***/", "/*/*/", "/* * / ** \n // # \xff \"*/", "/**//**/", "#1\n#2\n//3\n/*4*/ \n"} {
		n := len(between)
		s := strings.ReplaceAll(`_[_1_,_"a"_,_{_"b"_:_null_,_"c"_:_[_]_}_,_{_}_]_`, "_", between)
		at := func(signs, ahead int) string { return "@" + strconv.Itoa(ahead+signs*n) }
		read(t, s, `[1`+at(2, 1)+` "a"`+at(4, 3)+` {"b"=null`+at(9, 12)+` "c"=[]`+at(13, 21)+"}"+at(6, 7)+" {}"+at(17, 25)+"]"+at(1, 0))
	}
	for _, ended := range []string{"#", "# a", "//", "// \xff", "/**/", "#\r", "//\r"} {
		read(t, "1"+ended, "1@0")
		read(t, "[]"+ended, "[]@0")
		refuse(t, ended, api.Err{Kind: 1, At: len(ended)})
		refuse(t, "["+ended, api.Err{Kind: 1, At: 1 + len(ended)})
	}
	refuse(t, "#\r1", api.Err{Kind: 1, At: 3})
	refuse(t, "//\r1", api.Err{Kind: 1, At: 4})
	for _, blank := range []string{"\v", "\f", "\x00", "\u00a0", "\ufeff", "\u2028", "\x1c", ";", "--", "<!---->", "\\"} {
		at := 1
		refuse(t, "1 "+blank, api.Err{Kind: 1, At: 2})
		refuse(t, "["+blank+"1]", api.Err{Kind: 1, At: at})
	}
	for _, x := range []struct {
		s  string
		at int
	}{{"nu ll", 2}, {"nu/**/ll", 2}, {"tr#\nue", 2}, {"- 1", 0}, {"-/**/1", 0}, {"1 2", 2}, {"1/**/2", 5}, {"/ / 1", 0}, {"/ * */1", 0}} {
		refuse(t, x.s, api.Err{Kind: 1, At: x.at})
	}
}

// Promise 11.2: ESyntax at the first byte that can't stand there.
func TestSyntax(t *testing.T) {
	for _, x := range []struct {
		s  string
		at int
	}{
		{"x", 0}, {"]", 0}, {"}", 0}, {",", 0}, {":", 0}, {"'a'", 0}, {"\\", 0}, {"\x00", 0}, {"\xff", 0}, {"\ufeff1", 0}, {"é", 0}, {"*", 0}, {"undefined", 0},
		{"Null", 0}, {"nULL", 1}, {"nil", 1}, {"nulx", 3}, {"nulll", 4}, {"null1", 4}, {"tRue", 1}, {"tru3", 3}, {"truefalse", 4}, {"True", 0}, {"fals ", 4}, {"falsee", 5}, {"[nulL]", 4}, {"[null.]", 5}, {"true\"\"", 4},
		{"null null", 5}, {"[] []", 3}, {"[]]", 2}, {"{}}", 2}, {"{},", 2}, {"\"\"\"", 2}, {"\"\"a", 2}, {"1,", 1}, {"1:", 1}, {"{} // \n /* */ x", 14},
		{"[,]", 1}, {"[1,]", 3}, {"[1,,2]", 3}, {"[1 2]", 3}, {"[1;2]", 2}, {"[1}", 2}, {"[}", 1}, {"[:]", 1}, {"[1:2]", 2}, {"[\"a\":2]", 4}, {"[a]", 1}, {"[[1]2]", 4}, {"[1, ]", 4}, {"[1,/**/]", 7},
		{"{,}", 1}, {"{]", 1}, {"{1:2}", 1}, {"{a:1}", 1}, {"{'a':1}", 1}, {"{null:1}", 1}, {"{[]:1}", 1}, {"{\"a\"}", 4}, {"{\"a\" 1}", 5}, {"{\"a\",1}", 4}, {"{\"a\"=1}", 4}, {"{\"a\":}", 5}, {"{\"a\":,}", 5}, {"{\"a\"::1}", 5}, {"{\"a\":1,}", 7}, {"{\"a\":1,,}", 7}, {"{\"a\":1 \"b\":2}", 7}, {"{\"a\":1]", 6}, {"{\"a\":1:2}", 6}, {"{\"a\":1,2}", 7}, {"{\"a\":1;}", 6},
		{"/", 0}, {"/ ", 0}, {"/1", 0}, {"1/", 1}, {"1 /\n", 2}, {"[/]", 1}, {"[1/2]", 2}, {"{/\"a\"}", 1}, {"{\"a\"/:1}", 4}, {"*/", 0}, {"1*/", 1}, {"/**/*/1", 4}, {"/*/**/*/1", 6},
		{"/*", 0}, {"/**", 0}, {"/*/", 0}, {"/* * /", 0}, {"1/*", 1}, {"[ /* ] ", 2}, {"[1,/*]", 3}, {"{\"a\"/*:1}", 4}, {"{\"a\":/*1}", 5}, {"[]/***", 2}, {"/**//*", 4}, {"#/*\n/*\n", 4},
	} {
		refuse(t, x.s, api.Err{Kind: 1, At: x.at})
	}
}

// Promise 11.2: within a text ESyntax at the rune or escape that is none.
func TestSyntaxOfTexts(t *testing.T) {
	for _, x := range []struct {
		s  string
		at int
	}{
		{"\n", 0}, {"a\x1f", 1}, {"a\x00b", 1}, {"é\t", 2}, {"a\r\n", 1},
		{"\x80", 0}, {"\xff", 0}, {"a\xc3", 1}, {"\xc3a", 0}, {"é\xc3", 2}, {"\xe2\x82", 0}, {"\xe2\x82a", 0}, {"ab\xf0\x9d\x84", 2}, {"\xc0\xaf", 0}, {"\xc1\xbf", 0}, {"\xe0\x80\xaf", 0}, {"\xed\xa0\x80", 0}, {"\xed\xbf\xbf", 0}, {"\xf4\x90\x80\x80", 0}, {"\xf5\x80\x80\x80", 0}, {"\xf0\x80\x80\x80", 0},
		{`\a`, 0}, {`\v`, 0}, {`\'`, 0}, {`\0`, 0}, {`\x41`, 0}, {`\U0041`, 0}, {`\N`, 0}, {`a\ `, 1}, {`ab\é`, 2}, {"\\\n", 0}, {"\\\xff", 0}, {`\\\e`, 2},
		{`\u`, 0}, {`\u1`, 0}, {`\u12`, 0}, {`\u123`, 0}, {`a\u123g`, 1}, {`\ug123`, 0}, {`\u+123`, 0}, {`\u 123`, 0}, {`\u{41}`, 0}, {`\u00é`, 0}, {`\u004\u0041`, 0}, {`\u0041\u00`, 6}, {"\\u00\xff0", 0}, {`\u00:0`, 0}, {`\u00@0`, 0}, {"\\u00`0", 0}, {`\u00G0`, 0}, {`\u00/0`, 0},
		{`\ud800`, 0}, {`\udbff`, 0}, {`\udc00`, 0}, {`\udfff`, 0}, {`a\ud800b`, 1}, {`\ud800\n`, 0}, {`\ud800\\`, 0}, {`\ud800\x`, 0}, {`\ud800\u0041`, 0}, {`\ud800\ud800`, 0}, {`\ud800\ud800\udc00`, 0}, {`\ud800\ue000`, 0}, {`\ud800\udbff`, 0}, {`\udc00\ud800`, 0}, {`\ud800\udc00\udc00`, 12}, {`\ud800\udc00\ud800`, 12}, {`\ud800\udc0`, 0}, {`\ud800\uzz`, 0}, {`\ud800\udcg0`, 0}, {"\\ud800\x1f", 0}, {"\\ud800\xff", 0}, {"\\ud800é", 0}, {`\ud800udc00`, 0}, {`\ud800 \udc00`, 0}, {`\uD800\U0000`, 0},
	} {
		refuse(t, `"`+x.s+`"`, api.Err{Kind: 1, At: 1 + x.at})
		refuse(t, `[1,"`+x.s+`"`, api.Err{Kind: 1, At: 4 + x.at})
		refuse(t, `{"`+x.s+`":1}`, api.Err{Kind: 1, At: 2 + x.at})
		refuse(t, `{"":"`+x.s+`"}`, api.Err{Kind: 1, At: 5 + x.at})
	}
}

// Promise 11.2: where b ends too early ESyntax at its length, within an escape too; but a number or a rune that is cut is none.
func TestSyntaxAtTheEnd(t *testing.T) {
	for _, s := range []string{
		"", " ", "\n", "#", "#\n", "//", "/**/", "n", "nu", "nul", "t", "tru", "f", "fals", "[nul",
		"[", "[ ", "[1", "[1 ", "[1,", "[1, ", "[[", "[[]", "[\"a\"", "[1,#", "[1/**/", "{", "{ ", "{\"a\"", "{\"a\" ", "{\"a\":", "{\"a\": ", "{\"a\":1", "{\"a\":1,", "{\"a\":1, ", "{\"a\":{", "{\"a\":[{}", "{\"a\"//:1}", "{\"a\"#\n:\n",
		`"`, `"a`, `"é`, `"\"`, `"\n`, `["`, `{"`, `{"a":"b`, `{"a":1,"`, `{"a":1,"a`,
		`"\`, `"a\`, `"\u`, `"\u1`, `"\u12`, `"\u12a`, `"\u0041`, `"\u0041\`, `"\u0041\u`, `{"\u`, `"\ud`, `"\ud8`, `"\ud80`, `"\udc0`,
		`"\ud800`, `"\ud800\`, `"\ud800\u`, `"\ud800\ud`, `"\ud800\udc`, `"\ud800\udc0`, `"\ud800\udc00`, `"\uDBFF\uDFf`, `"\ud800\u12`, `{"\ud800\`,
	} {
		refuse(t, s, api.Err{Kind: 1, At: len(s)})
		refuse(t, "[0,"+s, api.Err{Kind: 1, At: 3 + len(s)})
	}
	for _, x := range []struct {
		s  string
		at int
	}{{"-", 0}, {"[-", 1}, {"[1,-", 3}, {"{\"a\":-", 5}, {"1.", 0}, {"1e", 0}, {"0-", 0}, {"\"\xc3", 1}, {"\"a\xe2\x82", 2}, {"\"\xf0\x9d\x84", 1}, {"\"\xff", 1}, {"{\"\xe2", 2}, {"\"\\ud800\xc3", 1}, {"\"\\\xc3", 1}, {"\"\\u0\xc3", 1}, {"/*", 0}, {"[/", 1}, {"[/*", 1}, {"{\"a\":/**", 5}} {
		refuse(t, x.s, api.Err{Kind: 1, At: x.at})
	}
}

// nested is a value in so many others.
func nested(n int, first, value, last string) string {
	return strings.Repeat(first, n) + value + strings.Repeat(last, n)
}

// Promise 11.2: a list or a map that is in 64 others is refused, any other value is not.
func TestLimitOfDepth(t *testing.T) {
	for _, n := range []int{63, 64} {
		for _, value := range []string{"1", "null", `"a"`} {
			for _, s := range []string{nested(n, "[", value, "]"), nested(n, `{"a":`, value, "}"), nested(n/2, `[{"":`, value, "}]"), "[" + nested(n-1, "[", value, "]") + ",1," + nested(n-1, "[", value, "]") + "]"} {
				if got, e := Parse([]byte(s)); got.Kind < 6 || e != (api.Err{}) {
					t.Errorf("Parse of %d in each other = %v", n, e)
				}
				checkParse(t, []byte(s))
			}
		}
	}
	for _, value := range []string{"[", "{", "[]", "{}", "[x", "{]", "[\"" + strings.Repeat("a", 256) + "\"", nested(100000, "[", "", "]"), "[/*"} {
		refuse(t, strings.Repeat("[", 64)+value, api.Err{Kind: 2, At: 64})
		refuse(t, strings.Repeat("[", 63)+`{"":`+value, api.Err{Kind: 2, At: 67})
		refuse(t, strings.Repeat(`{"a":`, 64)+" "+value, api.Err{Kind: 2, At: 321})
		refuse(t, nested(63, "[", "[1],[1,"+value, ""), api.Err{Kind: 2, At: 70})
	}
	for _, value := range []string{"x", "]", ",", ":", "}", "/", "01"} {
		if value != "]" {
			refuse(t, strings.Repeat("[", 64)+value, api.Err{Kind: 1, At: 64})
		}
		refuse(t, strings.Repeat("[", 64)+"1,"+value, api.Err{Kind: 1, At: 66})
	}
	read(t, "["+strings.Repeat("[],", 1000)+"[]]", "["+strings.TrimSuffix(strings.Join(manyAt("[]", 1001, 3), " "), " ")+"]@0")
}

// manyAt are so many values that are alike, each so many bytes behind the other.
func manyAt(said string, n, size int) []string {
	var all []string
	for i := range n {
		all = append(all, said+"@"+strconv.Itoa(1+i*size))
	}
	return all
}

// Promise 11.2: 255 bytes of what a text or a name stands for are taken, 256 are not, however it is told.
func TestLimitOfText(t *testing.T) {
	for _, x := range []struct {
		s, stands string
	}{{"a", "a"}, {`\n`, "\n"}, {`\u0061`, "a"}, {`\"`, "\""}, {"\x7f", "\x7f"}, {"é", "é"}, {`\u00e9`, "é"}, {"€", "€"}, {`\u20ac`, "€"}, {"𝄞", "𝄞"}, {`\ud834\udd1e`, "𝄞"}} {
		most := 255 / len(x.stands)
		rest := strings.Repeat("x", 255-most*len(x.stands))
		right := strings.Repeat(x.s, most) + rest
		stands := strconv.Quote(strings.Repeat(x.stands, most) + rest)
		read(t, `"`+right+`"`, stands+"@0")
		read(t, `{"`+right+`":[]}`, "{"+stands+"=[]@"+strconv.Itoa(4+len(right))+"}@0")
		for _, long := range []string{right + "x", "x" + right, right + x.s, strings.Repeat(x.s, 10000)} {
			refuse(t, `"`+long+`"`, api.Err{Kind: 2, At: 0})
			refuse(t, `[1, "`+long+`"]`, api.Err{Kind: 2, At: 4})
			refuse(t, `{"`+long+`":1}`, api.Err{Kind: 2, At: 1})
			refuse(t, `{"a":"`+long+`"}`, api.Err{Kind: 2, At: 5})
		}
	}
}

// Promise 11.2: which of two errors is told: that of a length, or of a name, where its text ends.
func TestFirstError(t *testing.T) {
	long := strings.Repeat("a", 256)
	for _, x := range []struct {
		s    string
		want api.Err
	}{
		{`"` + long + "\n\"", api.Err{Kind: 1, At: 257}},
		{`"` + long + "\xff\"", api.Err{Kind: 1, At: 257}},
		{`"` + long + "\xc3", api.Err{Kind: 1, At: 257}},
		{`"` + long + `\q"`, api.Err{Kind: 1, At: 257}},
		{`"` + long + `\ud800"`, api.Err{Kind: 1, At: 257}},
		{`"` + long, api.Err{Kind: 1, At: 257}},
		{`"` + long + `\u`, api.Err{Kind: 1, At: 259}},
		{`"` + long + `"x`, api.Err{Kind: 2, At: 0}},
		{`"` + long + `"/`, api.Err{Kind: 2, At: 0}},
		{`["` + long + `"`, api.Err{Kind: 2, At: 1}},
		{`["` + long + `",]`, api.Err{Kind: 2, At: 1}},
		{`[x,"` + long + `"]`, api.Err{Kind: 1, At: 1}},
		{`{"` + long + `"}`, api.Err{Kind: 2, At: 1}},
		{`{"` + long + `"/*`, api.Err{Kind: 2, At: 1}},
		{`{"a":1,"a"}`, api.Err{Kind: 3, At: 7}},
		{`{"a":1,"a"`, api.Err{Kind: 3, At: 7}},
		{`{"a":1,"a"/`, api.Err{Kind: 3, At: 7}},
		{`{"a":1,"a":x}`, api.Err{Kind: 3, At: 7}},
		{`{"a":x,"a":1}`, api.Err{Kind: 1, At: 5}},
		{`{"a":1,"a`, api.Err{Kind: 1, At: 9}},
		{`{"a":1,"a\q"`, api.Err{Kind: 1, At: 9}},
		{`{"a":1,"a":2,"a":3}`, api.Err{Kind: 3, At: 7}},
		{`{"a":1,"b":2,"b":3,"a":4}`, api.Err{Kind: 3, At: 13}},
		{`{"` + long[1:] + `":1,"` + long[1:] + `":2}`, api.Err{Kind: 3, At: 261}},
		{`{"` + long[1:] + `":1,"` + long + `":2}`, api.Err{Kind: 2, At: 261}},
		{`{"a":1,"` + long + `":x}`, api.Err{Kind: 2, At: 7}},
		{`[/*` + long, api.Err{Kind: 1, At: 1}},
	} {
		refuse(t, x.s, x.want)
	}
}

// Promise 11.2: EMeaning at a name that its map has already, however it is told.
func TestNameAgain(t *testing.T) {
	for _, x := range []struct {
		s  string
		at int
	}{
		{`{"a":1,"a":1}`, 7}, {`{"":1,"":2}`, 6}, {`{"a":1 , "a":1}`, 9}, {`{"a":1,"\u0061":2}`, 7}, {`{"\u00e9":1,"é":2}`, 12}, {`{"\/":1,"/":2}`, 8}, {`{"\ud834\udd1e":1,"𝄞":2}`, 18}, {`{"\n":1,"\u000A":2}`, 8},
		{`{"a":1,"b":2,"c":3,"b":4}`, 19}, {`{"a":{"a":1,"a":2}}`, 12}, {`{"a":{"a":1},"a":2}`, 13}, {`[{"a":1},{"a":1,"a":1}]`, 16}, {`{"b":[{"a":{"b":0}}],"b":0}`, 21},
	} {
		refuse(t, x.s, api.Err{Kind: 3, At: x.at})
	}
	read(t, `{"a":1,"A":1,"\u00e1":1,"a\u0301":1}`, "{\"a\"=1@5 \"A\"=1@11 \"\u00e1\"=1@22 \"a\u0301\"=1@34}@0")
	names := []byte("{")
	for i := range 50000 {
		names = append(names, `"`+strconv.Itoa(i)+`":0,`...)
	}
	many := string(names)
	refuse(t, many+`"25000":0}`, api.Err{Kind: 3, At: len(many)})
	if got, e := Parse([]byte(many + `"50000":0}`)); len(got.Keys) != 50001 || len(got.List) != 50001 || e != (api.Err{}) {
		t.Errorf("a map of many names is %d names, %v", len(got.Keys), e)
	}
}

// Promise 11.1: scan.Long is asked first, whatever else is wrong.
func TestLimitOfAll(t *testing.T) {
	for _, c := range []string{" ", "\n", "[", "{", "1", "\"", "#", "/", "x", "\xff", "\\"} {
		refuse(t, strings.Repeat(c, 1000001), api.Err{Kind: 2, At: 1000000})
		refuse(t, strings.Repeat(c, 2000000), api.Err{Kind: 2, At: 1000000})
	}
	read(t, "1"+strings.Repeat(" ", 999999), "1@0")
	read(t, strings.Repeat("\n", 999999)+"1", "1@999999")
	read(t, "1#"+strings.Repeat("#", 999998), "1@0")
	read(t, "/*"+strings.Repeat("*", 999996)+"/1", "1@999999")
	read(t, strings.Repeat("#\n", 499999)+"[]", "[]@999998")
	read(t, strings.Repeat("/**/", 249999)+"{}", "{}@999996")
	refuse(t, strings.Repeat(" ", 1000000), api.Err{Kind: 1, At: 1000000})
	refuse(t, strings.Repeat(" ", 999999)+"/", api.Err{Kind: 1, At: 999999})
	refuse(t, "/*"+strings.Repeat("/", 999998), api.Err{Kind: 1, At: 0})
	refuse(t, strings.Repeat("1", 1000000), api.Err{Kind: 1, At: 0})
	refuse(t, strings.Repeat("[", 1000000), api.Err{Kind: 2, At: 64})
	refuse(t, "\""+strings.Repeat("a", 999998)+"\"", api.Err{Kind: 2, At: 0})
	refuse(t, "\""+strings.Repeat("\\\"", 499999), api.Err{Kind: 1, At: 999999})
	wide := "[" + strings.Repeat("1,", 499998) + "1]"
	if got, e := Parse([]byte(wide)); len(got.List) != 499999 || e != (api.Err{}) {
		t.Errorf("a wide list is %d values, %v", len(got.List), e)
	}
}

// Promises 11.1 and 11.2: each byte by itself, and in each surrounding.
func TestEachByte(t *testing.T) {
	for c := range 256 {
		for _, form := range []string{"?", "??", "1?", "?1", " ? ", "[?", "[?]", "[1?]", "[1?2]", "[1,?]", "[]?", "{?", "{?}", `{"a"?1}`, `{"a"?:1}`, `{"a":?}`, `{"a":1?}`, `{"a":1?"b":2}`, `{"a":1,?}`, `"?"`, `"?`, `"a?b"`, `"\?"`, `"\?`, `"\?u0041"`, `"\u?041"`, `"\u0?41"`, `"\u00?1"`, `"\u004?"`, `"\u004?`, `"\u?`, `"\ud?00\udc00"`, `"\ud800?udc00"`, `"\ud800\?dc00"`, `"\ud800\u?c00"`, `"\ud800\ud?00"`, `"\ud800\udc0?"`, `"\ud800\ud?`, `"\ud800?`, "\"\xc3?\"", "\"\xe2\x82?\"", "\"\xe2?\xac\"", "\"\xf0?\x84\x9e\"", "\"\xf4?\x80\x80\"", "\"\xed?\x80\"", "\"\xe0?\x80\"", "/?", "/?1", "/?\n1", "/?*/1", "/*?*/1", "/*?", "/**?1", "/*/?*/1", "#?1", "#?\n1", "//?1", "1?/", "n?", "nu?l", "null?", "[true?]", "f?lse", "-?", "0?", "-1?", "[-?]", "9223372036854775?07", "-922337203685477580?", "1 ? 2"} {
			checkParse(t, []byte(strings.ReplaceAll(form, "?", string([]byte{byte(c)}))))
		}
	}
}

// Promises 11.1, 11.2 and 11.4: every short text of what begins, ends or breaks something, and noise.
func TestAnyText(t *testing.T) {
	for _, b := range append(shorts(), noise()...) {
		checkParse(t, b)
	}
}

// Promise 11.1: what is told at random is read as it was, to the last place.
func TestToldIsRead(t *testing.T) {
	source := rand.New(rand.NewSource(1))
	for range 30000 {
		want, b := told(source)
		if got, e := Parse(b); show(got) != show(want) || e != (api.Err{}) {
			t.Fatalf("Parse(%q) = %s, %v, want %s", b, show(got), e, show(want))
		}
	}
}

// Promise 11.4 (W1): any bytes are a value or an error with a place within them, never both.
func TestOneOrTheOther(t *testing.T) {
	reads, refused := 0, 0
	for _, b := range append(shorts(), noise()...) {
		got, e := Parse(b)
		if e.Kind == 0 {
			reads++
			if e.At != 0 || got.Kind < 1 || got.Kind > 7 || got.At >= len(b) {
				t.Fatalf("Parse(%q) = %s, %v", b, show(got), e)
			}
			continue
		}
		refused++
		if !reflect.DeepEqual(got, api.Json{}) || e.At < 0 || e.At > len(b) || e.Kind < 1 || e.Kind > 3 {
			t.Fatalf("Parse(%q) = %s, %v", b, show(got), e)
		}
	}
	if reads < 10000 || refused < 100000 {
		t.Errorf("%d texts were read, %d refused", reads, refused)
	}
}

// Promise 11.4 (W1): what begins a right text is one, too, or ends too early, or cuts a number, a rune or a comment.
func TestBeginningsOfRight(t *testing.T) {
	source := rand.New(rand.NewSource(2))
	for range 3000 {
		_, b := told(source)
		for n := range b {
			_, e := Parse(b[:n])
			if e.Kind == 0 || e == (api.Err{Kind: 1, At: n}) {
				continue
			}
			if c := b[e.At]; e.Kind != 1 || c != '-' && c != '/' && c < utf8.RuneSelf {
				t.Fatalf("Parse(%q) = %v", b[:n], e)
			}
		}
	}
}

// Promise 11.4 (W1): an error does not hang on what stands behind it, but for what ends too early there.
func TestBehindAnError(t *testing.T) {
	texts := noise()
	for i, b := range texts {
		_, e := Parse(b)
		if e.Kind == 0 || e.Kind == 1 && (e.At == len(b) || b[e.At] == '/' || b[e.At] >= utf8.RuneSelf || numberRow.Match(b[e.At:])) {
			continue
		}
		if _, f := Parse(slices.Concat(b, texts[len(texts)-1-i])); f != e {
			t.Fatalf("Parse(%q) = %v, and with more behind it %v", b, e, f)
		}
	}
}

// The room behind b is not looked at.
func TestRoom(t *testing.T) {
	for _, x := range []struct {
		s    string
		n    int
		want api.Err
	}{{"12", 1, api.Err{}}, {"1x", 1, api.Err{}}, {"1 x", 2, api.Err{}}, {"[1]", 2, api.Err{Kind: 1, At: 2}}, {"null", 3, api.Err{Kind: 1, At: 3}}, {"\"a\"", 2, api.Err{Kind: 1, At: 2}}, {"\"\\n\"", 2, api.Err{Kind: 1, At: 2}}, {"\"\\u0041\"", 6, api.Err{Kind: 1, At: 6}}, {"\"é\"", 2, api.Err{Kind: 1, At: 1}}, {"1/**/", 2, api.Err{Kind: 1, At: 1}}, {"/**/", 3, api.Err{Kind: 1, At: 0}}, {"1#\nx", 3, api.Err{}}, {"-1", 1, api.Err{Kind: 1, At: 0}}} {
		if got, e := Parse([]byte(x.s)[:x.n]); e != x.want || (got.Kind == 0) != (e.Kind != 0) {
			t.Errorf("Parse of %d bytes of %q = %s, %v, want %v", x.n, x.s, show(got), e, x.want)
		}
	}
}

// spoil overwrites all that a value holds, the room behind its lists too.
func spoil(j *api.Json) {
	for i := range j.List {
		spoil(&j.List[i])
	}
	list, keys := j.List[:cap(j.List)], j.Keys[:cap(j.Keys)]
	for i := range list {
		list[i] = api.Json{Kind: 9}
	}
	for i := range keys {
		keys[i] = "spoilt"
	}
}

// What is handed in to Parse is not changed, nor the room behind it, and what is answered shares none of it, and no two lists share any.
func TestMemory(t *testing.T) {
	room := []byte(`{"a":[1,["b",2],[]],"c":{"d":"e","f":[3]},"g":["h",[4,5]]} # room`)
	was := slices.Clone(room)
	b := room[:len(room)-5]
	want := `{"a"=[1@6 ["b"@9 2@13]@8 []@16]@5 "c"={"d"="e"@29 "f"=[3@38]@37}@24 "g"=["h"@47 [4@52 5@54]@51]@46}@0`
	got, e := Parse(b)
	if show(got) != want || e != (api.Err{}) || !bytes.Equal(room, was) {
		t.Fatalf("Parse = %s, %v, and what is handed in has become %q", show(got), e, room)
	}
	for i := range got.List {
		again, _ := Parse(b)
		spoil(&again.List[i])
		again.List[i] = got.List[i]
		if show(again) != want {
			t.Errorf("lists share memory: %s", show(again))
		}
	}
	again, _ := Parse(b)
	spoil(&again)
	for i := range room {
		room[i] = 'x'
	}
	if show(got) != want {
		t.Errorf("the value has become %s", show(got))
	}
}

// Promise 11.5: a panic names its call here, rather than ending the run.
func TestNoCallPanics(t *testing.T) {
	try := func(name string, b []byte, call func()) {
		defer func() {
			if met := recover(); met != nil {
				t.Errorf("%s of %.80q panics: %v", name, b, met)
			}
		}()
		call()
	}
	var last api.Json
	for _, b := range append(append(shorts(), noise()...), nil, []byte{}, make([]byte, 1000001), bytes.Repeat([]byte{'['}, 3000000)) {
		var j api.Json
		try("Parse", b, func() { j, _ = Parse(b) })
		try("Same", b, func() { Same(j, last) })
		last = j
	}
}
