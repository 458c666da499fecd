package addr

import (
	"encoding/binary"
	"math"
	"math/rand"
	"net/netip"
	"strings"
	"testing"

	"glebe/api"
)

const ones = ^uint64(0)

func four(n uint64) api.Addr     { return api.Addr{V: 4, Q: api.Quad{Lo: n}} }
func six(hi, lo uint64) api.Addr { return api.Addr{V: 6, Q: api.Quad{Hi: hi, Lo: lo}} }

// fromLibrary reads by net/netip: a second way, to hold the package's answers against. It takes zones, which the chapter does not.
func fromLibrary(s string) (api.Addr, bool) {
	a, err := netip.ParseAddr(s)
	if err != nil || strings.Contains(s, "%") {
		return api.Addr{}, false
	}
	if a.Is4() {
		bytes := a.As4()
		return four(uint64(binary.BigEndian.Uint32(bytes[:]))), true
	}
	bytes := a.As16()
	return six(binary.BigEndian.Uint64(bytes[:8]), binary.BigEndian.Uint64(bytes[8:])), true
}

// byLibrary prints by net/netip; it is asked nothing of the block ::ffff:0:0/96, whose addresses it ends in numbers as of V 4.
func byLibrary(a api.Addr) string {
	if a.V == 4 {
		var bytes [4]byte
		binary.BigEndian.PutUint32(bytes[:], uint32(a.Q.Lo))
		return netip.AddrFrom4(bytes).String()
	}
	var bytes [16]byte
	binary.BigEndian.PutUint64(bytes[:8], a.Q.Hi)
	binary.BigEndian.PutUint64(bytes[8:], a.Q.Lo)
	return netip.AddrFrom16(bytes).String()
}

func inFourBlock(a api.Addr) bool {
	return a.V == 6 && a.Q.Hi == 0 && a.Q.Lo>>32 == 0xffff
}

// right are addresses of every pattern of noughts among the groups, with small and great groups, and edges of V 4.
func right() []api.Addr {
	all := []api.Addr{four(0), four(1), four(0xff), four(0x100), four(0x0a0102ff), four(1<<31 - 1), four(1 << 31), four(1<<32 - 2), four(1<<32 - 1)}
	for pattern := range 256 {
		for _, group := range []uint64{1, 0xf, 0x10, 0xa0, 0xabc, 0x1000, 0xffff} {
			var halves [2]uint64
			for i := range 8 {
				halves[i/4] <<= 16
				if pattern>>i&1 != 0 {
					halves[i/4] |= group
				}
			}
			all = append(all, six(halves[0], halves[1]))
		}
	}
	source := rand.New(rand.NewSource(2))
	for range 2000 {
		all = append(all, four(uint64(source.Uint32())), six(source.Uint64(), source.Uint64()))
	}
	return all
}

// wrong are none: of another V, or of V 4 with a number that is too great.
func wrong() []api.Addr {
	all := []api.Addr{four(1 << 32), four(1<<32 + 1), four(ones), {V: 4, Q: api.Quad{Hi: 1}}, {V: 4, Q: api.Quad{Hi: ones, Lo: ones}}}
	for _, v := range []int{math.MinInt, -6, -4, -1, 0, 1, 3, 5, 7, 32, 128, 4 + 1<<32, math.MaxInt} {
		all = append(all, api.Addr{V: v}, api.Addr{V: v, Q: api.Quad{Lo: 1}}, api.Addr{V: v, Q: api.Quad{Hi: ones, Lo: ones}})
	}
	return all
}

// Promise 2.1.
func TestOk(t *testing.T) {
	for _, a := range right() {
		if !Ok(a) {
			t.Errorf("Ok(%v) is false", a)
		}
	}
	for _, a := range wrong() {
		if Ok(a) {
			t.Errorf("Ok(%v) is true", a)
		}
	}
}

// Promise 2.1.
func TestBits(t *testing.T) {
	for v := -300; v <= 300; v++ {
		want := 0
		switch v {
		case 4:
			want = 32
		case 6:
			want = 128
		}
		if got := Bits(v); got != want {
			t.Errorf("Bits(%d) = %d, want %d", v, got, want)
		}
	}
	for _, v := range []int{math.MinInt, 4 + 1<<32, 6 + 1<<32, math.MaxInt} {
		if got := Bits(v); got != 0 {
			t.Errorf("Bits(%d) = %d, want 0", v, got)
		}
	}
}

// Promise 2.1: by V, then by Q, and none has its place among them.
func TestLess(t *testing.T) {
	rising := []api.Addr{
		{V: math.MinInt, Q: api.Quad{Hi: ones}}, {V: -1, Q: api.Quad{Hi: ones, Lo: ones}}, {}, {Q: api.Quad{Lo: 1}}, {Q: api.Quad{Hi: 1}},
		four(0), four(7), four(1<<32 - 1), four(1 << 32), {V: 4, Q: api.Quad{Hi: 1}}, {V: 5}, {V: 5, Q: api.Quad{Lo: 9}},
		six(0, 0), six(0, 9), six(0, ones), six(1, 0), six(1, 1), six(ones, ones), {V: 7}, {V: math.MaxInt},
	}
	for i, a := range rising {
		for k, b := range rising {
			if got := Less(a, b); got != (i < k) {
				t.Errorf("Less(%v, %v) = %v", a, b, got)
			}
		}
	}
}

// Promise 2.1.
func TestNext(t *testing.T) {
	for _, x := range []struct {
		a, next api.Addr
		ok      bool
	}{
		{four(0), four(1), true},
		{four(0x0a0000ff), four(0x0a000100), true},
		{four(1<<32 - 2), four(1<<32 - 1), true},
		{four(1<<32 - 1), api.Addr{}, false},
		{six(0, 0), six(0, 1), true},
		{six(0, 1<<32-1), six(0, 1<<32), true},
		{six(0, ones), six(1, 0), true},
		{six(ones-1, ones), six(ones, 0), true},
		{six(ones, ones-1), six(ones, ones), true},
		{six(ones, ones), api.Addr{}, false},
	} {
		if got, ok := Next(x.a); got != x.next || ok != x.ok {
			t.Errorf("Next(%v) = %v, %v, want %v, %v", x.a, got, ok, x.next, x.ok)
		}
	}
	for _, a := range wrong() {
		if got, ok := Next(a); got != (api.Addr{}) || ok {
			t.Errorf("Next(%v) = %v, %v, want none, false", a, got, ok)
		}
	}
	for _, a := range right() {
		if got, ok := Next(a); ok && (!Ok(got) || !Less(a, got)) {
			t.Errorf("Next(%v) = %v", a, got)
		}
	}
}

// Promise 2.2: what is read.
func TestParseTakes(t *testing.T) {
	for _, x := range []struct {
		s    string
		want api.Addr
	}{
		{"0.0.0.0", four(0)},
		{"10.1.2.255", four(0x0a0102ff)},
		{"9.10.99.100", four(0x090a6364)},
		{"255.255.255.255", four(1<<32 - 1)},
		{"::", six(0, 0)},
		{"::1", six(0, 1)},
		{"1::", six(1<<48, 0)},
		{"1::8", six(1<<48, 8)},
		{"0:0:0:0:0:0:0:0", six(0, 0)},
		{"0000:0000:0000:0000:0000:0000:0000:0000", six(0, 0)},
		{"0::0", six(0, 0)},
		{"1:2:3:4:5:6:7:8", six(0x0001000200030004, 0x0005000600070008)},
		{"2001:DB8:0:0::1", six(0x20010db800000000, 1)},
		{"aBcD:00Ef::", six(0xabcd00ef00000000, 0)},
		{"ffff:ffff:ffff:ffff:FFFF:FFFF:FFFF:FFFF", six(ones, ones)},
		{"1:2:3:4:5:6:7::", six(0x0001000200030004, 0x0005000600070000)},
		{"::2:3:4:5:6:7:8", six(0x0000000200030004, 0x0005000600070008)},
		{"1:2:3::5:6:7:8", six(0x0001000200030000, 0x0005000600070008)},
		{"0:0::0:0:0:1", six(0, 1)},
		{"::1.2.3.4", six(0, 0x01020304)},
		{"::ffff:1.2.3.4", six(0, 0xffff01020304)},
		{"1:2:3:4:5:6:1.2.3.4", six(0x0001000200030004, 0x0005000601020304)},
		{"1:2:3:4:5::1.2.3.4", six(0x0001000200030004, 0x0005000001020304)},
		{"::2:3:4:5:6:255.255.255.255", six(0x0000000200030004, 0x00050006ffffffff)},
		{"1:2:3:4:5:6:0.0.0.0", six(0x0001000200030004, 0x0005000600000000)},
		{"1::0.0.0.1", six(1<<48, 1)},
	} {
		if got, ok := Parse(x.s); got != x.want || !ok {
			t.Errorf("Parse(%q) = %v, %v, want %v, true", x.s, got, ok, x.want)
		}
		if got, ok := fromLibrary(x.s); got != x.want || !ok {
			t.Errorf("net/netip reads %q as %v, %v, want %v, true", x.s, got, ok, x.want)
		}
	}
}

// Promise 2.2: what is not read.
func TestParseRefuses(t *testing.T) {
	for _, s := range []string{
		"", " ", ".", "...", "1", "1.2", "1.2.3", "1.2.3.", ".1.2.3", "1..2.3", "1.2.3.4.", ".1.2.3.4", "1.2.3.4.5", "1.2.3.256", "256.2.3.4", "1.2.3.999",
		"1.2.3.1000", "1.2.3.00", "1.2.3.04", "01.2.3.4", "1.2.3.0x1", "1.2.3.a", "1.2.3.-4", "1.2.3.+4", "-1.2.3.4", "+1.2.3.4", "1.2.3.4 ", " 1.2.3.4", "1.2. 3.4",
		"1.2.3.4\n", "1.2.3.4\x00", "1.2.3.4/32", "1.2.3.1_0", "1,2,3,4", "１.2.3.4", "0x01020304", "16909060", "a.b.c.d",
		":", "::::", ":::", "1:", ":1", "1:::2", ":::1", "1:::", "1::2::3", "::1::", "::::1", "1:2:3:4:5:6:7", "1:2:3:4:5:6:7:", ":1:2:3:4:5:6:7", "1:2:3:4:5:6:7:8:",
		":1:2:3:4:5:6:7:8", "1:2:3:4:5:6:7:8:9", "1:2:3:4:5:6:7:8::", "::1:2:3:4:5:6:7:8", "1:2:3:4::5:6:7:8", "1::2:3:4:5:6:7:8", "1:2:3:4:5:6:7::8", "12345::",
		"00001::", "::12345", "::00000", "g::", "::g", "::-1", "::+1", "::0x1", "::1_0", "::1%1", "::1%eth0", "::1 ", " ::1", ":: 1", "1 ::", "[::1]", "fe80::1/64",
		"٣::", "::é", "::\xff", "::\x00",
		"::1.2.3", "::1.2.3.4.5", "::1.2.3.256", "::01.2.3.4", "::1.2.3.04", "::1.2.3.", "::.1.2.3", "::.", "::1.2.3.a", "::1.2.3.4:5", "::1.2.3.4:", "::1.2.3.4::", "1.2.3.4::",
		"1.2.3.4:", ":1.2.3.4", "1:1.2.3.4::", "1.2.3.4::1.2.3.4", "1.2.3.4:5:6:7:8:9:a", "1:2:3:1.2.3.4:6:7:8", "1:2:3:4:5:6:7:1.2.3.4", "1:2:3:4:5:1.2.3.4", "1:2:3:4:5:6::1.2.3.4",
		"::2:3:4:5:6:7:1.2.3.4", "1:2:3:4:5:6:7::1.2.3.4", "1:2:3:4:5:6:7:8:1.2.3.4",
		strings.Repeat("0", 1000000), strings.Repeat(":", 1000000), strings.Repeat("1:", 500000), strings.Repeat("1.", 500000), "::" + strings.Repeat("0", 1000000),
	} {
		if got, ok := Parse(s); got != (api.Addr{}) || ok {
			t.Errorf("Parse(%.60q) = %v, %v, want none, false", s, got, ok)
		}
	}
}

// Promise 2.2, of every text of few signs out of few, and of texts that are nearly right.
func TestParseAsTheLibrary(t *testing.T) {
	check := func(s string) {
		want, held := fromLibrary(s)
		if got, ok := Parse(s); got != want || ok != held {
			t.Fatalf("Parse(%q) = %v, %v, want %v, %v", s, got, ok, want, held)
		}
	}
	var all func(s string, more int)
	all = func(s string, more int) {
		check(s)
		if more == 0 {
			return
		}
		for _, sign := range []string{"0", "1", "f", "G", ":", "."} {
			all(s+sign, more-1)
		}
	}
	all("", 7)
	source := rand.New(rand.NewSource(3))
	parts := []string{"0", "1", "00", "ab", "FFFF", "0000", "10000", "::", ":", ":", ":", ":", ".", "1.2.3.4", "255", "256", "", "x"}
	for range 300000 {
		var s strings.Builder
		for range source.Intn(20) {
			s.WriteString(parts[source.Intn(len(parts))])
		}
		check(s.String())
	}
	const signs = "0123456789abcdefABCDEFgx:.% -"
	for _, a := range right() {
		s := Print(a)
		at, sign := source.Intn(len(s)), string(signs[source.Intn(len(signs))])
		for _, changed := range []string{s[:at] + s[at+1:], s[:at] + sign + s[at:], s[:at] + sign + s[at+1:]} {
			check(changed)
		}
	}
}

// Promise 2.3.
func TestPrint(t *testing.T) {
	for _, x := range []struct {
		a    api.Addr
		want string
	}{
		{four(0), "0.0.0.0"},
		{four(0x0a0102ff), "10.1.2.255"},
		{four(1<<32 - 1), "255.255.255.255"},
		{six(0, 0), "::"},
		{six(0, 1), "::1"},
		{six(1<<48, 0), "1::"},
		{six(0x20010db800000000, 1), "2001:db8::1"},
		{six(0xabcd00ef0a000001, 0), "abcd:ef:a00:1::"},
		{six(0x0001000200030004, 0x0005000600070008), "1:2:3:4:5:6:7:8"},
		{six(0x0001000200030004, 0x0005000600070000), "1:2:3:4:5:6:7:0"},
		{six(0x0000000200030004, 0x0005000600070008), "0:2:3:4:5:6:7:8"},
		{six(0x0001000000020000, 0x0003000000040000), "1:0:2:0:3:0:4:0"},
		{six(0x0001000000000002, 3), "1:0:0:2::3"},
		{six(0x0001000000000002, 0x0003000000000004), "1::2:3:0:0:4"},
		{six(0x0000000000010002, 0x0003000400000000), "::1:2:3:4:0:0"},
		{six(0x0000000000010002, 0x0003000000000000), "0:0:1:2:3::"},
		{six(0x0000000000000001, 0x0000000000000001), "::1:0:0:0:1"},
		{six(0, 0xffff01020304), "::ffff:102:304"},
		{six(0, 0x01020304), "::102:304"},
		{six(ones, ones), "ffff:ffff:ffff:ffff:ffff:ffff:ffff:ffff"},
	} {
		if got := Print(x.a); got != x.want {
			t.Errorf("Print(%v) = %q, want %q", x.a, got, x.want)
		}
	}
	for _, a := range wrong() {
		if got := Print(a); got != "" {
			t.Errorf("Print(%v) = %q, want nothing", a, got)
		}
	}
	for _, a := range right() {
		if inFourBlock(a) {
			continue
		}
		if got, want := Print(a), byLibrary(a); got != want {
			t.Errorf("Print(%v) = %q, want %q", a, got, want)
		}
	}
}

// Promise 2.4: each is read as it was, and no two have one text.
func TestOneForm(t *testing.T) {
	told := map[string]api.Addr{}
	for _, a := range append(right(), six(0, 0xffff00000000), six(0, 0xffffffffffff)) {
		s := Print(a)
		if back, ok := Parse(s); back != a || !ok {
			t.Errorf("Parse(%q) = %v, %v, want %v, true", s, back, ok, a)
		}
		if other, seen := told[s]; seen && other != a {
			t.Errorf("%v and %v are both told as %q", a, other, s)
		}
		told[s] = a
	}
	for _, same := range [][]string{
		{"2001:db8::1", "2001:DB8:0:0::1", "2001:0db8:0:0:0:0:0:1", "2001:db8:0:0:0:0:0.0.0.1", "2001:db8::0:1"},
		{"::", "0::", "::0", "0:0:0:0:0:0:0:0", "::0.0.0.0"},
		{"1:0:2:0:3:0:4:0", "1::2:0:3:0:4:0", "1:0:2:0:3:0:4::"},
	} {
		for _, s := range same {
			a, ok := Parse(s)
			if got := Print(a); got != same[0] || !ok {
				t.Errorf("%q is told as %q, want %q", s, got, same[0])
			}
		}
	}
}

// Promise 2.5: a panic names its call here, rather than ending the run.
func TestNoCallPanics(t *testing.T) {
	try := func(name string, call func()) {
		defer func() {
			if fault := recover(); fault != nil {
				t.Errorf("%s panics: %v", name, fault)
			}
		}()
		call()
	}
	all := append(right()[:200], wrong()...)
	for _, a := range all {
		try("Ok", func() { Ok(a) })
		try("Print", func() { Print(a) })
		try("Next", func() { Next(a) })
		try("Bits", func() { Bits(a.V) })
		for _, b := range all {
			try("Less", func() { Less(a, b) })
		}
	}
	source := rand.New(rand.NewSource(4))
	for range 50000 {
		text := make([]byte, source.Intn(50))
		for i := range text {
			text[i] = byte(source.Intn(256))
			if source.Intn(4) != 0 {
				text[i] = "0123456789abcdefF::::..\x00\xff"[source.Intn(25)]
			}
		}
		try("Parse", func() { Parse(string(text)) })
	}
}
