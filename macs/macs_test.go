package macs

import (
	"fmt"
	"math/rand"
	"regexp"
	"strconv"
	"strings"
	"testing"
)

const limit = uint64(1) << 48

var (
	address = regexp.MustCompile(`\A[0-9a-fA-F]{2}(:[0-9a-fA-F]{2}){5}\z`)
	name    = regexp.MustCompile(`\A[a-z0-9-]{1,32}\z`)
)

// byPattern reads by a pattern of the whole text: a second way, to hold the package's answers against.
func byPattern(t *testing.T, s string) (uint64, bool) {
	t.Helper()
	if !address.MatchString(s) {
		return 0, false
	}
	n, err := strconv.ParseUint(strings.ReplaceAll(s, ":", ""), 16, 64)
	if err != nil {
		t.Fatal(err)
	}
	return n, true
}

// byFormat prints by fmt, a byte at a time.
func byFormat(m uint64) string {
	return fmt.Sprintf("%02x:%02x:%02x:%02x:%02x:%02x", byte(m>>40), byte(m>>32), byte(m>>24), byte(m>>16), byte(m>>8), byte(m))
}

// right are the ends, each byte at each place, and numbers from all over.
func right() []uint64 {
	all := []uint64{0, 1, 255, 256, 1<<47 - 1, 1 << 47, limit - 2, limit - 1, 0x0123456789ab, 0xfedcba987654}
	for place := range 6 {
		for b := range uint64(256) {
			all = append(all, b<<(8*place), limit-1-b<<(8*place))
		}
	}
	source := rand.New(rand.NewSource(5))
	for range 5000 {
		all = append(all, source.Uint64()>>(16+source.Intn(48)))
	}
	return all
}

// great are numbers that no hardware address is.
func great() []uint64 {
	all := []uint64{limit, limit + 1, limit + 256, 2*limit - 1, 1<<64 - 1, 1<<64 - 1<<48}
	for n := 48; n < 64; n++ {
		all = append(all, 1<<n, 1<<n|0x0123456789ab)
	}
	return all
}

func checkParse(t *testing.T, s string) {
	t.Helper()
	want, wantOk := byPattern(t, s)
	if got, ok := Parse(s); got != want || ok != wantOk {
		t.Errorf("Parse(%q) = %d, %v, want %d, %v", s, got, ok, want, wantOk)
	}
}

// Promise 5.1: what is read.
func TestParseTakes(t *testing.T) {
	for _, x := range []struct {
		s    string
		want uint64
	}{
		{"00:00:00:00:00:00", 0},
		{"00:00:00:00:00:01", 1},
		{"00:00:00:00:01:00", 256},
		{"01:00:00:00:00:00", 1 << 40},
		{"80:00:00:00:00:00", 1 << 47},
		{"01:23:45:67:89:ab", 0x0123456789ab},
		{"AB:CD:EF:00:00:0A", 0xabcdef00000a},
		{"aB:Cd:eF:fE:Dc:bA", 0xabcdeffedcba},
		{"ff:ff:ff:ff:ff:ff", limit - 1},
		{"FF:FF:FF:FF:FF:FF", limit - 1},
	} {
		if got, ok := Parse(x.s); got != x.want || !ok {
			t.Errorf("Parse(%q) = %d, %v, want %d, true", x.s, got, ok, x.want)
		}
	}
}

// Promise 5.1: what is not read.
func TestParseRefuses(t *testing.T) {
	for _, s := range []string{
		"", ":", "::::", ":::::", "::::::", "0", "00", "00:", "00:00:00:00:00", "00:00:00:00:00:", "00:00:00:00:00:00:", "00:00:00:00:00:00:00", "00:00:00:00:00:00:00:00",
		":00:00:00:00:00", ":00:00:00:00:00:00", "00::00:00:00:00", "00:00::00:00:00:00", "0:00:00:00:00:00", "00:00:00:00:00:0", "000:00:00:00:00:00", "00:00:00:00:00:000", "0:000:00:00:00:00", "100:00:00:00:00:00",
		"000000000000", "0000.0000.0000", "00-00-00-00-00-00", "00.00.00.00.00.00", "00 00 00 00 00 00", "00:00:00-00:00:00", "00;00:00:00:00:00",
		" 00:00:00:00:00:00", "00:00:00:00:00:00 ", "00:00:00:00:00:00\n", "00:00:00:00:00:00\x00", "00: 0:00:00:00:00", "00:0 :00:00:00:00",
		"+0:00:00:00:00:00", "-0:00:00:00:00:00", "-1:00:00:00:00:00", "0x:00:00:00:00:00", "0X:00:00:00:00:00", "0x00:00:00:00:00:00", "0_:00:00:00:00:00", "_0:00:00:00:00:00", "0_0:00:00:00:00:00",
		"0g:00:00:00:00:00", "g0:00:00:00:00:00", "00:00:00:00:00:0G", "00:00:00:00:00:é", "00:00:00:00:00:\xff\xff", "00:00:00:00:00:٣", "0０:00:00:00:00:00",
		"1::", "10.0.0.1", strings.Repeat("00:", 5000), strings.Repeat("0", 100000), strings.Repeat(":", 100000),
	} {
		if got, ok := Parse(s); got != 0 || ok {
			t.Errorf("Parse(%.40q) = %d, %v, want 0, false", s, got, ok)
		}
	}
}

// Promise 5.1: every byte at every place of a text, put in the place of what stands there, put ahead of it and left out.
func TestParseEachByte(t *testing.T) {
	for _, s := range []string{"00:00:00:00:00:00", "01:23:45:67:89:ab", "fE:Dc:bA:98:76:54"} {
		for at := range len(s) + 1 {
			checkParse(t, s[:at])
			checkParse(t, s[at:])
			for b := range 256 {
				sign := string([]byte{byte(b)})
				checkParse(t, s[:at]+sign+s[at:])
				if at < len(s) {
					checkParse(t, s[:at]+sign+s[at+1:])
					checkParse(t, s[:at]+s[at+1:])
				}
			}
		}
	}
}

// Promise 5.1.
func TestPrint(t *testing.T) {
	for m, want := range map[uint64]string{
		0:              "00:00:00:00:00:00",
		256:            "00:00:00:00:01:00",
		0x0123456789ab: "01:23:45:67:89:ab",
		0xabcdef00000a: "ab:cd:ef:00:00:0a",
		limit - 1:      "ff:ff:ff:ff:ff:ff",
	} {
		if got, ok := Print(m); got != want || !ok {
			t.Errorf("Print(%d) = %q, %v, want %q, true", m, got, ok, want)
		}
	}
	for _, m := range right() {
		if got, ok := Print(m); got != byFormat(m) || !ok {
			t.Errorf("Print(%d) = %q, %v, want %q, true", m, got, ok, byFormat(m))
		}
	}
}

// Promise 5.1: false of a greater number, and nothing beside it.
func TestPrintRefuses(t *testing.T) {
	for _, m := range great() {
		if got, ok := Print(m); got != "" || ok {
			t.Errorf("Print(%d) = %q, %v, want nothing, false", m, got, ok)
		}
	}
}

// Promise 5.2 (W1): each is read as it was, no two have one text, and all texts of one address come to one.
func TestOneForm(t *testing.T) {
	told := map[string]uint64{}
	for _, m := range right() {
		s, _ := Print(m)
		for _, text := range []string{s, strings.ToUpper(s), s[:8] + strings.ToUpper(s[8:])} {
			back, ok := Parse(text)
			if again, is := Print(back); back != m || !ok || again != s || !is {
				t.Errorf("%q is read as %d, %v, and told as %q, %v; want %d and %q", text, back, ok, again, is, m, s)
			}
		}
		if other, seen := told[s]; seen && other != m {
			t.Errorf("%d and %d are both told as %q", m, other, s)
		}
		told[s] = m
	}
}

// Promise 5.1.
func TestName(t *testing.T) {
	for s, want := range map[string]bool{
		"a": true, "z": true, "0": true, "9": true, "-": true, "--": true, "-a": true, "a-": true, "0-9": true, "printer-2": true, "007": true,
		"": false, "A": false, "aB": false, "Z9": false, "a_b": false, "a.b": false, "a b": false, " a": false, "a ": false, "a\n": false, "a\x00": false, "é": false, "a\u0301": false, "\xff": false, "а": false, "–": false, "\u212a": false, "０": false,
	} {
		if got := Name(s); got != want {
			t.Errorf("Name(%q) = %v", s, got)
		}
	}
}

// Promise 5.1: each byte alone, ahead of others, among them and behind them.
func TestNameEachByte(t *testing.T) {
	for b := range 256 {
		sign := string([]byte{byte(b)})
		want := strings.Contains("abcdefghijklmnopqrstuvwxyz0123456789-", sign)
		for _, s := range []string{sign, sign + "a", "a" + sign, "host-" + sign + "-7", strings.Repeat("a", 31) + sign, sign + strings.Repeat("a", 31)} {
			if got := Name(s); got != want {
				t.Errorf("Name(%q) = %v", s, got)
			}
		}
	}
}

// Promise 5.1: 1 to 32, in bytes.
func TestNameLength(t *testing.T) {
	for n := range 300 {
		want := 1 <= n && n <= 32
		for _, sign := range []string{"a", "z", "0", "9", "-"} {
			if got := Name(strings.Repeat(sign, n)); got != want {
				t.Errorf("Name of %d times %q = %v", n, sign, got)
			}
		}
	}
	for _, n := range []int{1 << 8, 1<<8 + 1, 1 << 16, 1<<16 + 32} {
		if Name(strings.Repeat("a", n)) {
			t.Errorf("Name of %d bytes is true", n)
		}
	}
}

// noise is texts of signs that stand in addresses and names, and of any bytes.
func noise() []string {
	source := rand.New(rand.NewSource(15))
	all := make([]string, 50000)
	for i := range all {
		text := make([]byte, source.Intn(40))
		for k := range text {
			text[k] = "0123456789abcdefABCDEF::::--gz"[source.Intn(30)]
			if source.Intn(20) == 0 {
				text[k] = byte(source.Intn(256))
			}
		}
		all[i] = string(text)
	}
	return all
}

// Promises 5.1 and 5.2, of any bytes: held against patterns.
func TestNoise(t *testing.T) {
	for _, s := range noise() {
		checkParse(t, s)
		if got := Name(s); got != name.MatchString(s) {
			t.Errorf("Name(%q) = %v", s, got)
		}
	}
}

// Promise 5.3: a panic names its call here, rather than ending the run.
func TestNoCallPanics(t *testing.T) {
	try := func(name string, call func()) {
		defer func() {
			if fault := recover(); fault != nil {
				t.Errorf("%s panics: %v", name, fault)
			}
		}()
		call()
	}
	for _, s := range append(noise(), "", ":", strings.Repeat(":", 1000000), strings.Repeat("a", 1000000)) {
		try("Parse", func() { Parse(s) })
		try("Name", func() { Name(s) })
	}
	for _, m := range append(right(), great()...) {
		try("Print", func() { Print(m) })
	}
}
