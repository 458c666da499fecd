package scan

import (
	"bytes"
	"math"
	"math/rand"
	"slices"
	"strings"
	"testing"

	"glebe/api"
)

// whereByWalk goes from byte to byte: a second way, to hold the package's answers against.
func whereByWalk(b []byte, at int) (line, col int) {
	line, col = 1, 1
	for i := 0; i < len(b) && i < at; i++ {
		col++
		if b[i] == 10 {
			line, col = line+1, 1
		}
	}
	return line, col
}

// linesByWalk gathers each line byte by byte, and takes its 13 away only when it comes to a line feed.
func linesByWalk(b []byte) []api.Tok {
	var all []api.Tok
	line, begin := []byte{}, 0
	for i, c := range b {
		if c != 10 {
			line = append(line, c)
			continue
		}
		if n := len(line); n > 0 && line[n-1] == 13 {
			line = line[:n-1]
		}
		all = append(all, api.Tok{Kind: 1, Text: string(line), At: begin})
		line, begin = line[:0], i+1
	}
	if len(line) > 0 {
		all = append(all, api.Tok{Kind: 1, Text: string(line), At: begin})
	}
	return all
}

func checkWhere(t *testing.T, b []byte, at int) {
	t.Helper()
	wantLine, wantCol := whereByWalk(b, at)
	if line, col := Where(b, at); line != wantLine || col != wantCol {
		t.Fatalf("Where(%.60q, %d) = %d, %d, want %d, %d", b, at, line, col, wantLine, wantCol)
	}
}

// checkLines tells only the first line that differs: there may be a million.
func checkLines(t *testing.T, b []byte) {
	t.Helper()
	got, want := Lines(b), linesByWalk(b)
	if len(got) != len(want) {
		t.Fatalf("Lines(%.60q) are %d, want %d", b, len(got), len(want))
	}
	for i, w := range want {
		if g := got[i]; g != w {
			t.Fatalf("Lines(%.60q)[%d] = {%d %.60q %d}, want {%d %.60q %d}", b, i, g.Kind, g.Text, g.At, w.Kind, w.Text, w.At)
		}
	}
}

// short are all texts of up to 6 bytes of which each is a line feed, a 13 or a letter.
func short() [][]byte {
	all := [][]byte{nil}
	from := 0
	for range 6 {
		to := len(all)
		for _, b := range all[from:to] {
			for _, c := range []byte{10, 13, 'a'} {
				all = append(all, append(slices.Clone(b), c))
			}
		}
		from = to
	}
	return all
}

// noise is texts of any bytes, with line ends among them.
func noise() [][]byte {
	source := rand.New(rand.NewSource(7))
	all := make([][]byte, 20000)
	for i := range all {
		all[i] = make([]byte, source.Intn(40))
		for k := range all[i] {
			all[i][k] = "\n\r\r\na\"# \x00\xff"[source.Intn(10)]
			if source.Intn(4) == 0 {
				all[i][k] = byte(source.Intn(256))
			}
		}
	}
	return all
}

// Promise 7.1: Where of each place of an ordinary text, and the document's example.
func TestWhere(t *testing.T) {
	if line, col := Where([]byte{'a', 10, 'b'}, 2); line != 2 || col != 1 {
		t.Errorf("Where of the example = %d, %d, want 2, 1", line, col)
	}
	b := []byte("ab\n\ncd\r\ne\rf\n")
	want := [][2]int{{1, 1}, {1, 2}, {1, 3}, {2, 1}, {3, 1}, {3, 2}, {3, 3}, {3, 4}, {4, 1}, {4, 2}, {4, 3}, {4, 4}, {5, 1}}
	if len(want) != len(b)+1 {
		t.Fatalf("%d places are looked at, of %d", len(want), len(b)+1)
	}
	for at, w := range want {
		if line, col := Where(b, at); line != w[0] || col != w[1] {
			t.Errorf("Where(%q, %d) = %d, %d, want %d, %d", b, at, line, col, w[0], w[1])
		}
	}
}

// Promise 7.1: columns are bytes, not runes, and no byte but a line feed ends a line.
func TestWhereBytes(t *testing.T) {
	if line, col := Where([]byte("é\té"), 5); line != 1 || col != 6 {
		t.Errorf("Where behind two runes of two bytes and a tab = %d, %d, want 1, 6", line, col)
	}
	if line, col := Where([]byte("\xff\xfe\x00\n\xff"), 5); line != 2 || col != 2 {
		t.Errorf("Where behind bytes that are no runes = %d, %d, want 2, 2", line, col)
	}
	for c := range 256 {
		line, col := Where([]byte{'a', byte(c), 'b'}, 2)
		if c == 10 && (line != 2 || col != 1) || c != 10 && (line != 1 || col != 3) {
			t.Errorf("Where behind the byte %d = %d, %d", c, line, col)
		}
	}
}

// Promise 7.1: a place ahead of b is its first one, a place behind it its end.
func TestWhereHeld(t *testing.T) {
	for _, x := range []struct {
		s         string
		line, col int
	}{{"", 1, 1}, {"a", 1, 2}, {"\n", 2, 1}, {"ab\ncde", 2, 4}, {"ab\ncde\n", 3, 1}, {"\n\n\n\r", 4, 2}} {
		for _, at := range []int{-1, -2, -len(x.s) - 1, math.MinInt32, math.MinInt, math.MinInt + 1} {
			if line, col := Where([]byte(x.s), at); line != 1 || col != 1 {
				t.Errorf("Where(%q, %d) = %d, %d, want 1, 1", x.s, at, line, col)
			}
		}
		for _, at := range []int{len(x.s), len(x.s) + 1, len(x.s) + 2, math.MaxInt32, math.MaxInt - 1, math.MaxInt} {
			if line, col := Where([]byte(x.s), at); line != x.line || col != x.col {
				t.Errorf("Where(%q, %d) = %d, %d, want %d, %d", x.s, at, line, col, x.line, x.col)
			}
		}
	}
}

// Promise 7.1: the room behind b is not looked at.
func TestWhereRoom(t *testing.T) {
	b := []byte("a\n\n\nb")[:2]
	if line, col := Where(b, 5); line != 2 || col != 1 {
		t.Errorf("Where = %d, %d, want 2, 1", line, col)
	}
	if got := Lines([]byte("a\nb\n")[:1]); !slices.Equal(got, []api.Tok{{Kind: 1, Text: "a"}}) {
		t.Errorf("Lines = %v, want one, a", got)
	}
}

// Promise 7.1: ordinary lines, empty ones, both ends, and a 13 that is no part of an end.
func TestLines(t *testing.T) {
	for _, x := range []struct {
		s    string
		want []api.Tok
	}{
		{"a", []api.Tok{{Kind: 1, Text: "a"}}},
		{"a\n", []api.Tok{{Kind: 1, Text: "a"}}},
		{"a\r\n", []api.Tok{{Kind: 1, Text: "a"}}},
		{"a\nb", []api.Tok{{Kind: 1, Text: "a"}, {Kind: 1, Text: "b", At: 2}}},
		{"a\r\nb", []api.Tok{{Kind: 1, Text: "a"}, {Kind: 1, Text: "b", At: 3}}},
		{"one two\n\n three \n", []api.Tok{{Kind: 1, Text: "one two"}, {Kind: 1, At: 8}, {Kind: 1, Text: " three ", At: 9}}},
		{"\n", []api.Tok{{Kind: 1}}},
		{"\r\n", []api.Tok{{Kind: 1}}},
		{"\n\n", []api.Tok{{Kind: 1}, {Kind: 1, At: 1}}},
		{"\r\n\r\n", []api.Tok{{Kind: 1}, {Kind: 1, At: 2}}},
		{"a\n\n", []api.Tok{{Kind: 1, Text: "a"}, {Kind: 1, At: 2}}},
		{"\na", []api.Tok{{Kind: 1}, {Kind: 1, Text: "a", At: 1}}},
		{"\r", []api.Tok{{Kind: 1, Text: "\r"}}},
		{"a\r", []api.Tok{{Kind: 1, Text: "a\r"}}},
		{"a\n\r", []api.Tok{{Kind: 1, Text: "a"}, {Kind: 1, Text: "\r", At: 2}}},
		{"a\rb\n", []api.Tok{{Kind: 1, Text: "a\rb"}}},
		{"\ra\n", []api.Tok{{Kind: 1, Text: "\ra"}}},
		{"a\r\r\n", []api.Tok{{Kind: 1, Text: "a\r"}}},
		{"\r\r\r\n", []api.Tok{{Kind: 1, Text: "\r\r"}}},
		{"é\n\xff\x00\n", []api.Tok{{Kind: 1, Text: "é"}, {Kind: 1, Text: "\xff\x00", At: 3}}},
		{" ", []api.Tok{{Kind: 1, Text: " "}}},
		{"\t\n \v\f\u0085\u2028\n", []api.Tok{{Kind: 1, Text: "\t"}, {Kind: 1, Text: " \v\f\u0085\u2028", At: 2}}},
	} {
		if got := Lines([]byte(x.s)); !slices.Equal(got, x.want) {
			t.Errorf("Lines(%q) = %v, want %v", x.s, got, x.want)
		}
	}
	for _, b := range [][]byte{nil, {}} {
		if got := Lines(b); len(got) != 0 {
			t.Errorf("Lines of nothing = %v, want none", got)
		}
	}
}

// Promise 7.1: no byte but a line feed ends a line, and none but a 13 goes with it.
func TestLinesEachByte(t *testing.T) {
	for c := range 256 {
		for _, form := range []string{"?", "a?b", "a?\nb", "?\n", "\n?", "?\n?", "??\n?"} {
			checkLines(t, []byte(strings.ReplaceAll(form, "?", string([]byte{byte(c)}))))
		}
	}
}

// Promises 7.1 and 7.2: every short text of line ends and letters, and any bytes, at every place and just beside them.
func TestAnyText(t *testing.T) {
	for _, b := range append(short(), noise()...) {
		checkLines(t, b)
		for at := -2; at <= len(b)+2; at++ {
			checkWhere(t, b, at)
		}
	}
}

// Promise 7.1: lines are read as they stand, however long they are and however many.
func TestGreatTexts(t *testing.T) {
	long := strings.Repeat("x", 2000000)
	for _, x := range []string{long, long + "\n", long + "\r\n" + long, strings.Repeat("\n", 1500000), strings.Repeat("\r\n", 600000), strings.Repeat("\r", 1200000), strings.Repeat("ab\n", 400000)} {
		checkLines(t, []byte(x))
		for _, at := range []int{0, 1, 999999, 1000000, 1000001, len(x) - 1, len(x), len(x) + 1} {
			checkWhere(t, []byte(x), at)
		}
	}
}

// Promise 7.1: the last length that is not too long, the first one that is, and nothing beside the false.
func TestLong(t *testing.T) {
	for _, n := range []int{0, 1, 255, 256, 65536, 999999, 1000000} {
		for _, c := range []byte{0, 10, 'a'} {
			if e, long := Long(bytes.Repeat([]byte{c}, n)); long || e != (api.Err{}) {
				t.Errorf("Long of %d bytes = %v, %v, want none, false", n, e, long)
			}
		}
	}
	for _, n := range []int{1000001, 1000002, 1048576, 2000000, 3000001} {
		for _, c := range []byte{0, 10, 'a'} {
			if e, long := Long(bytes.Repeat([]byte{c}, n)); !long || e.Kind != 2 || e.At != 1000000 {
				t.Errorf("Long of %d bytes = %v, %v, want {2 1000000}, true", n, e, long)
			}
		}
	}
	if e, long := Long(nil); long || e != (api.Err{}) {
		t.Errorf("Long(nil) = %v, %v, want none, false", e, long)
	}
	if e, long := Long(make([]byte, 1000000, 1000001)); long || e != (api.Err{}) {
		t.Errorf("Long of 1000000 bytes with room behind them = %v, %v, want none, false", e, long)
	}
}

// Promise 7.2 (W1): each place has a line and a column of its own, in the order of the places, and its line is the one of Lines that it lies in.
func TestEachPlaceIsTold(t *testing.T) {
	for _, b := range append(short(), noise()...) {
		lines := Lines(b)
		wasLine, wasCol := 0, 0
		for at := 0; at <= len(b); at++ {
			line, col := Where(b, at)
			if line < wasLine || line == wasLine && col <= wasCol {
				t.Fatalf("Where(%q, %d) = %d, %d, which is not behind %d, %d", b, at, line, col, wasLine, wasCol)
			}
			wasLine, wasCol = line, col
			if line <= len(lines) && lines[line-1].At+col-1 != at {
				t.Fatalf("Where(%q, %d) = %d, %d, but that line begins at %d", b, at, line, col, lines[line-1].At)
			}
			if line > len(lines) && (at != len(b) || col != 1) {
				t.Fatalf("Where(%q, %d) = %d, %d, but there are %d lines", b, at, line, col, len(lines))
			}
		}
	}
}

// Promise 7.2 (W1): a line begins where it says, and only its end is left out of it.
func TestLinesTellAll(t *testing.T) {
	for _, b := range append(short(), noise()...) {
		lines := Lines(b)
		for i, l := range lines {
			end := len(b)
			if i+1 < len(lines) {
				end = lines[i+1].At
			}
			rest, found := bytes.CutPrefix(b[l.At:end], []byte(l.Text))
			isEnd := string(rest) == "\n" || string(rest) == "\r\n" || i+1 == len(lines) && len(rest) == 0
			if !found || !isEnd || l.Kind != api.KLine || strings.Contains(l.Text, "\n") {
				t.Fatalf("Lines(%q) tells %v, with %q behind it", b, l, rest)
			}
		}
	}
}

// Promise 7.2 (W1): the place of a text that is too long is within it.
func TestLongIsWithin(t *testing.T) {
	b := bytes.Repeat([]byte("abc\n"), 300000)
	e, long := Long(b)
	if !long || e.At < 0 || e.At > len(b) {
		t.Fatalf("Long = %v, %v", e, long)
	}
	if line, col := Where(b, e.At); line != 250001 || col != 1 {
		t.Errorf("Where of that place = %d, %d, want 250001, 1", line, col)
	}
}

// What is handed in is not changed, nor the room behind it, and what is answered shares none of it.
func TestMemory(t *testing.T) {
	whole := []byte("a\r\nbc\n\nd\r room\n")
	was := slices.Clone(whole)
	b := whole[:9]
	lines := Lines(b)
	Where(b, 5)
	Long(b)
	if !bytes.Equal(whole, was) {
		t.Fatalf("what is handed in has become %q", whole)
	}
	want := slices.Clone(lines)
	for i := range want {
		want[i].Text = strings.Clone(want[i].Text)
	}
	again := Lines(b)
	for i := range whole {
		whole[i] = 'x'
	}
	for i := range again {
		again[i] = api.Tok{}
	}
	if !slices.Equal(lines, want) {
		t.Errorf("the lines have become %v, want %v", lines, want)
	}
}

// Promise 7.3: a panic names its call here, rather than ending the run.
func TestNoCallPanics(t *testing.T) {
	try := func(name string, call func()) {
		defer func() {
			if fault := recover(); fault != nil {
				t.Errorf("%s panics: %v", name, fault)
			}
		}()
		call()
	}
	texts := append(short(), noise()...)
	texts = append(texts, nil, []byte{}, make([]byte, 1000001), bytes.Repeat([]byte{10}, 1000001), bytes.Repeat([]byte{13}, 1000001))
	for _, b := range texts {
		try("Lines", func() { Lines(b) })
		try("Long", func() { Long(b) })
		for _, at := range []int{math.MinInt, -1, 0, 1, len(b) - 1, len(b), len(b) + 1, math.MaxInt} {
			try("Where", func() { Where(b, at) })
		}
	}
}
