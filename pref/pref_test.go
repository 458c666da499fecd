package pref

import (
	"encoding/binary"
	"math"
	"math/big"
	"math/rand"
	"net/netip"
	"strconv"
	"strings"
	"testing"

	"glebe/addr"
	"glebe/api"
)

const ones = ^uint64(0)

func four(n uint64) api.Addr     { return api.Addr{V: 4, Q: api.Quad{Lo: n}} }
func six(hi, lo uint64) api.Addr { return api.Addr{V: 6, Q: api.Quad{Hi: hi, Lo: lo}} }

func address(t *testing.T, s string) api.Addr {
	t.Helper()
	a, ok := addr.Parse(s)
	if !ok {
		t.Fatalf("%q is no address", s)
	}
	return a
}

func prefix(t *testing.T, s string) api.Prefix {
	t.Helper()
	p, ok := Parse(s)
	if !ok {
		t.Fatalf("%q is no prefix", s)
	}
	return p
}

// whole is the number as math/big holds it: a second way to count, to hold the package's answers against.
func whole(a api.Addr) *big.Int {
	n := new(big.Int).Lsh(new(big.Int).SetUint64(a.Q.Hi), 64)
	return n.Or(n, new(big.Int).SetUint64(a.Q.Lo))
}

// edges are the first and last number of a prefix by its size, 2 to the bits behind the first N.
func edges(p api.Prefix) (first, last *big.Int) {
	size := new(big.Int).Lsh(big.NewInt(1), uint(map[int]int{4: 32, 6: 128}[p.A.V]-p.N))
	first = whole(p.A)
	last = new(big.Int).Add(first, size)
	return first, last.Sub(last, big.NewInt(1))
}

// fromLibrary reads by net/netip: a second way, to hold the package's answers against. It takes bits behind the first N, which the chapter does not.
func fromLibrary(s string) (api.Prefix, bool) {
	p, err := netip.ParsePrefix(s)
	if err != nil || p != p.Masked() {
		return api.Prefix{}, false
	}
	bytes := p.Addr().As16()
	a := six(binary.BigEndian.Uint64(bytes[:8]), binary.BigEndian.Uint64(bytes[8:]))
	if p.Addr().Is4() {
		a = four(a.Q.Lo & (1<<32 - 1))
	}
	return api.Prefix{A: a, N: p.Bits()}, true
}

// toLibrary is only asked of prefixes that are right.
func toLibrary(p api.Prefix) netip.Prefix {
	return netip.PrefixFrom(addressOfLibrary(p.A), p.N)
}

func addressOfLibrary(a api.Addr) netip.Addr {
	if a.V == 4 {
		var bytes [4]byte
		binary.BigEndian.PutUint32(bytes[:], uint32(a.Q.Lo))
		return netip.AddrFrom4(bytes)
	}
	var bytes [16]byte
	binary.BigEndian.PutUint64(bytes[:8], a.Q.Hi)
	binary.BigEndian.PutUint64(bytes[8:], a.Q.Lo)
	return netip.AddrFrom16(bytes)
}

// right are prefixes of every length of both V, over nothing, over all ones, and over numbers in between, the same ones on every run.
func right() []api.Prefix {
	source := rand.New(rand.NewSource(5))
	var all []api.Prefix
	for n := range 33 {
		for _, q := range []uint64{0, 1<<32 - 1, 0x0a000000, 0x80000000, uint64(source.Uint32())} {
			all = append(all, api.Prefix{A: four(q >> (32 - n) << (32 - n)), N: n})
		}
	}
	for n := range 129 {
		for _, q := range [][2]uint64{{0, 0}, {ones, ones}, {0x20010db800000000, 1}, {0, 0xffff0a000000}, {source.Uint64(), source.Uint64()}} {
			hi, lo := q[0]>>max(64-n, 0)<<max(64-n, 0), q[1]>>min(128-n, 64)<<min(128-n, 64)
			all = append(all, api.Prefix{A: six(hi, lo), N: n})
		}
	}
	return all
}

// wrong are none: of an address that is none, of a length that is too small or too great, or with a bit set behind it.
func wrong() []api.Prefix {
	var all []api.Prefix
	for _, n := range []int{math.MinInt, -129, -128, -97, -96, -33, -32, -1, 129, 160, 256, 1 << 32, 1<<32 + 8, math.MaxInt} {
		all = append(all, api.Prefix{A: four(0), N: n}, api.Prefix{A: six(0, 0), N: n}, api.Prefix{A: api.Addr{}, N: n})
	}
	for _, n := range []int{0, 8, 24, 32, 33, 64, 96, 128} {
		for _, a := range []api.Addr{{}, {V: 5}, {V: -4}, {V: 7}, {V: math.MinInt}, {V: math.MaxInt}, four(1 << 32), four(1 << 40), four(ones), {V: 4, Q: api.Quad{Hi: 1}}} {
			all = append(all, api.Prefix{A: a, N: n})
		}
	}
	for _, n := range []int{33, 64, 96, 104, 128} {
		all = append(all, api.Prefix{A: four(0), N: n}, api.Prefix{A: four(0x0a000000), N: n})
	}
	for n := range 32 {
		all = append(all, api.Prefix{A: four(1), N: n}, api.Prefix{A: four(1 << (31 - n)), N: n}, api.Prefix{A: four(1<<32 - 1), N: n})
	}
	for n := range 128 {
		next := six(0, 1<<max(127-n, 0))
		if n < 64 {
			next = six(1<<(63-n), 0)
		}
		all = append(all, api.Prefix{A: six(0, 1), N: n}, api.Prefix{A: next, N: n}, api.Prefix{A: six(ones, ones), N: n})
	}
	return all
}

// Promise 3.1.
func TestOk(t *testing.T) {
	for _, p := range right() {
		if !Ok(p) {
			t.Errorf("Ok(%v) is false", p)
		}
	}
	for _, p := range wrong() {
		if Ok(p) {
			t.Errorf("Ok(%v) is true", p)
		}
	}
}

// Promise 3.1: what is read.
func TestParseTakes(t *testing.T) {
	for _, x := range []struct {
		s    string
		want api.Prefix
	}{
		{"0.0.0.0/0", api.Prefix{A: four(0)}},
		{"10.0.0.0/8", api.Prefix{A: four(0x0a000000), N: 8}},
		{"10.0.0.0/9", api.Prefix{A: four(0x0a000000), N: 9}},
		{"128.0.0.0/1", api.Prefix{A: four(1 << 31), N: 1}},
		{"10.0.0.128/25", api.Prefix{A: four(0x0a000080), N: 25}},
		{"255.255.255.255/32", api.Prefix{A: four(1<<32 - 1), N: 32}},
		{"::/0", api.Prefix{A: six(0, 0)}},
		{"::/128", api.Prefix{A: six(0, 0), N: 128}},
		{"8000::/1", api.Prefix{A: six(1<<63, 0), N: 1}},
		{"2001:DB8:0::/48", api.Prefix{A: six(0x20010db800000000, 0), N: 48}},
		{"0:0:0:1::/64", api.Prefix{A: six(1, 0), N: 64}},
		{"::8000:0:0:0/65", api.Prefix{A: six(0, 1<<63), N: 65}},
		{"::1/128", api.Prefix{A: six(0, 1), N: 128}},
		{"::ffff:10.0.0.0/104", api.Prefix{A: six(0, 0xffff0a000000), N: 104}},
		{"ffff:ffff:ffff:ffff:ffff:ffff:ffff:fffe/127", api.Prefix{A: six(ones, ones-1), N: 127}},
	} {
		if got, ok := Parse(x.s); got != x.want || !ok {
			t.Errorf("Parse(%q) = %v, %v, want %v, true", x.s, got, ok, x.want)
		}
	}
}

// Promises 3.1 and 3.3: what is not read.
func TestParseRefuses(t *testing.T) {
	for _, s := range []string{
		"", "/", "//", " ", "8", "/8", "10.0.0.0", "10.0.0.0/", "::", "::/", "10.0.0.0//8", "10.0.0.0/8/", "10.0.0.0/8/8", "/10.0.0.0/8", "8/10.0.0.0",
		"10.0.0.1/24", "10.0.0.128/24", "128.0.0.0/0", "0.0.0.1/0", "0.0.0.1/31", "::1/127", "::1/0", "8000::/0", "0:0:0:1::/63", "::8000:0:0:0/64",
		"10.0.0.0/33", "10.0.0.0/104", "10.0.0.0/128", "::/129", "::/256", "::/999", "::/1000", "10.0.0.0/264", "10.0.0.0/4294967304", "10.0.0.0/18446744073709551624",
		"10.0.0.0/00", "10.0.0.0/08", "10.0.0.0/008", "::/00", "::/064", "::/0128", "10.0.0.0/-0", "10.0.0.0/-1", "10.0.0.0/-8", "10.0.0.0/+8", "10.0.0.0/8.0", "10.0.0.0/0x8",
		"10.0.0.0/a", "::/a", "10.0.0.0/1_6", "10.0.0.0/８", "10.0.0.0/ 8", "10.0.0.0/8 ", "10.0.0.0 /8", " 10.0.0.0/8", "10.0.0.0/8\n", "10.0.0.0/8\x00", "10.0.0.0/\xff",
		"10.0.0.0/255.0.0.0", "10.0.0.0\\8", "10.0.0.0-8", "10/8", "10.0.0/8", "10.0.0.0.0/8", "010.0.0.0/8", "256.0.0.0/8", "x/8", ":/8", ":::/8", "::1::/128", "fe80::%1/64", "[::]/0", "::/0%1",
		"10.0.0.0/" + strings.Repeat("0", 1000000), strings.Repeat("/", 1000000), strings.Repeat("0", 1000000) + "/8", "10.0.0.0/" + strings.Repeat("9", 1000000),
	} {
		if got, ok := Parse(s); got != (api.Prefix{}) || ok {
			t.Errorf("Parse(%.60q) = %v, %v, want none, false", s, got, ok)
		}
	}
}

// Promise 3.1, of every number behind some addresses, and of texts that are nearly right.
func TestParseAsTheLibrary(t *testing.T) {
	check := func(s string) {
		want, held := fromLibrary(s)
		if got, ok := Parse(s); got != want || ok != held {
			t.Fatalf("Parse(%q) = %v, %v, want %v, %v", s, got, ok, want, held)
		}
	}
	for _, head := range []string{"0.0.0.0", "10.0.0.0", "10.0.0.1", "::", "::1", "2001:db8::", "::10.0.0.0", "x", ""} {
		for n := -2; n < 1100; n++ {
			for _, tail := range []string{"/", "/0", "/+", "//", "", " /", "/ "} {
				check(head + tail + strconv.Itoa(n))
			}
		}
	}
	source := rand.New(rand.NewSource(6))
	const signs = "0123456789abcdefABCDEFgx:.% -+/"
	for _, p := range right() {
		s := Print(p)
		for range 20 {
			at, sign := source.Intn(len(s)), string(signs[source.Intn(len(signs))])
			for _, changed := range []string{s[:at] + s[at+1:], s[:at] + sign + s[at:], s[:at] + sign + s[at+1:], s + sign} {
				check(changed)
			}
		}
	}
}

// Promise 3.1.
func TestPrint(t *testing.T) {
	for _, x := range []struct {
		p    api.Prefix
		want string
	}{
		{api.Prefix{A: four(0)}, "0.0.0.0/0"},
		{api.Prefix{A: four(0x0a000080), N: 25}, "10.0.0.128/25"},
		{api.Prefix{A: four(1<<32 - 1), N: 32}, "255.255.255.255/32"},
		{api.Prefix{A: six(0, 0)}, "::/0"},
		{api.Prefix{A: six(0x20010db800000000, 0), N: 48}, "2001:db8::/48"},
		{api.Prefix{A: six(0, 0xffff0a000000), N: 104}, "::ffff:a00:0/104"},
		{api.Prefix{A: six(0, 1), N: 128}, "::1/128"},
	} {
		if got := Print(x.p); got != x.want {
			t.Errorf("Print(%v) = %q, want %q", x.p, got, x.want)
		}
	}
	for _, p := range wrong() {
		if got := Print(p); got != "" {
			t.Errorf("Print(%v) = %q, want nothing", p, got)
		}
	}
}

// Promise 3.3 (W1): each is read as it was, no two have one text, and all texts of one prefix come to one.
func TestOneForm(t *testing.T) {
	told := map[string]api.Prefix{}
	for _, p := range right() {
		s := Print(p)
		if back, ok := Parse(s); back != p || !ok {
			t.Errorf("Parse(%q) = %v, %v, want %v, true", s, back, ok, p)
		}
		if other, seen := told[s]; seen && other != p {
			t.Errorf("%v and %v are both told as %q", p, other, s)
		}
		told[s] = p
	}
	for _, s := range []string{"2001:db8::/32", "2001:DB8::/32", "2001:0db8:0::/32", "2001:db8:0:0:0:0:0:0/32", "2001:db8::0.0.0.0/32"} {
		if got := Print(prefix(t, s)); got != "2001:db8::/32" {
			t.Errorf("%q is told as %q", s, got)
		}
	}
}

// Promise 3.1.
func TestFirstAndLast(t *testing.T) {
	for _, x := range [][3]string{
		{"0.0.0.0/0", "0.0.0.0", "255.255.255.255"},
		{"10.0.0.0/8", "10.0.0.0", "10.255.255.255"},
		{"10.0.0.2/31", "10.0.0.2", "10.0.0.3"},
		{"10.1.2.3/32", "10.1.2.3", "10.1.2.3"},
		{"::/0", "::", "ffff:ffff:ffff:ffff:ffff:ffff:ffff:ffff"},
		{"1:2:3:4::/63", "1:2:3:4::", "1:2:3:5:ffff:ffff:ffff:ffff"},
		{"1:2:3:4::/64", "1:2:3:4::", "1:2:3:4:ffff:ffff:ffff:ffff"},
		{"1:2:3:4::/65", "1:2:3:4::", "1:2:3:4:7fff:ffff:ffff:ffff"},
		{"::1/128", "::1", "::1"},
	} {
		p := prefix(t, x[0])
		if first, last := First(p), Last(p); first != address(t, x[1]) || last != address(t, x[2]) {
			t.Errorf("%s is from %v to %v", x[0], first, last)
		}
	}
	for _, p := range right() {
		low, high := edges(p)
		first, last := First(p), Last(p)
		if first.V != p.A.V || !addr.Ok(first) || whole(first).Cmp(low) != 0 {
			t.Errorf("First(%v) = %v, want %x", p, first, low)
		}
		if last.V != p.A.V || !addr.Ok(last) || whole(last).Cmp(high) != 0 {
			t.Errorf("Last(%v) = %v, want %x", p, last, high)
		}
	}
	for _, p := range wrong() {
		if first, last := First(p), Last(p); first != (api.Addr{}) || last != (api.Addr{}) {
			t.Errorf("%v is from %v to %v, want the zero Addr", p, first, last)
		}
	}
}

// around are the addresses at and just beyond both edges of a prefix, and those of the same number in the other V.
func around(p api.Prefix) []api.Addr {
	var all []api.Addr
	for _, a := range []api.Addr{First(p), Last(p)} {
		near := []api.Addr{a, {V: 10 - a.V, Q: a.Q}}
		if next, ok := addr.Next(a); ok {
			near = append(near, next)
		}
		if lo := a.Q.Lo - 1; a.Q.Lo > 0 {
			near = append(near, api.Addr{V: a.V, Q: api.Quad{Hi: a.Q.Hi, Lo: lo}})
		} else if a.Q.Hi > 0 {
			near = append(near, api.Addr{V: a.V, Q: api.Quad{Hi: a.Q.Hi - 1, Lo: lo}})
		}
		all = append(all, near...)
	}
	return all
}

// Promise 3.1.
func TestHas(t *testing.T) {
	for _, p := range right() {
		low, high := edges(p)
		for _, a := range around(p) {
			n := whole(a)
			want := addr.Ok(a) && a.V == p.A.V && n.Cmp(low) >= 0 && n.Cmp(high) <= 0
			if got := Has(p, a); got != want {
				t.Errorf("Has(%v, %v) = %v", p, a, got)
			}
		}
		for _, a := range []api.Addr{{}, {Q: p.A.Q}, {V: 5, Q: p.A.Q}, {V: 4, Q: api.Quad{Hi: 1, Lo: p.A.Q.Lo}}, {V: 4, Q: api.Quad{Lo: p.A.Q.Lo | 1<<32}}} {
			if Has(p, a) {
				t.Errorf("%v has %v, which is none", p, a)
			}
		}
	}
	for _, p := range wrong() {
		for _, a := range []api.Addr{p.A, {}, four(0), four(1), six(0, 0), six(0, 1)} {
			if Has(p, a) {
				t.Errorf("%v, which is none, has %v", p, a)
			}
		}
	}
}

// Promise 3.1: held against net/netip, of any two.
func TestOver(t *testing.T) {
	all := right()
	for _, p := range all {
		for _, q := range all {
			if got, want := Over(p, q), toLibrary(p).Overlaps(toLibrary(q)); got != want {
				t.Fatalf("Over(%v, %v) = %v", p, q, got)
			}
		}
	}
	for _, x := range []struct {
		p, q string
		want bool
	}{
		{"10.0.0.0/8", "10.0.0.0/8", true},
		{"10.0.0.0/8", "10.255.255.255/32", true},
		{"10.0.0.0/8", "11.0.0.0/32", false},
		{"10.0.0.0/25", "10.0.0.128/25", false},
		{"0.0.0.0/0", "::/0", false},
		{"::/0", "ffff:ffff:ffff:ffff:ffff:ffff:ffff:ffff/128", true},
	} {
		p, q := prefix(t, x.p), prefix(t, x.q)
		if Over(p, q) != x.want || Over(q, p) != x.want {
			t.Errorf("Over(%s, %s) is not %v", x.p, x.q, x.want)
		}
	}
}

// Promise 3.1: by A, then by N.
func TestLess(t *testing.T) {
	rising := []string{
		"0.0.0.0/0", "0.0.0.0/1", "0.0.0.0/32", "0.0.0.1/32", "10.0.0.0/8", "10.0.0.0/9", "10.0.0.0/32", "10.1.0.0/16", "11.0.0.0/8", "128.0.0.0/1", "255.255.255.255/32",
		"::/0", "::/1", "::/33", "::/128", "::1/128", "0:0:0:1::/64", "1::/16", "1::/128", "1:1::/32", "8000::/1",
	}
	for i, s := range rising {
		for k, other := range rising {
			if got := Less(prefix(t, s), prefix(t, other)); got != (i < k) {
				t.Errorf("Less(%s, %s) = %v", s, other, got)
			}
		}
	}
}

// Promise 3.1: none is over no prefix, and neither ahead of nor behind any.
func TestNoneBesideOthers(t *testing.T) {
	others := append(right(), wrong()...)
	for _, p := range wrong() {
		for _, q := range others {
			if Over(p, q) || Over(q, p) || Less(p, q) || Less(q, p) {
				t.Fatalf("Over or Less is true of %v and %v", p, q)
			}
		}
	}
}

// Promise 3.2.
func TestNetmask(t *testing.T) {
	for s, want := range map[string]string{
		"0.0.0.0/0": "0.0.0.0", "128.0.0.0/1": "128.0.0.0", "10.0.0.0/8": "255.0.0.0", "10.0.0.0/13": "255.248.0.0", "10.0.0.128/25": "255.255.255.128",
		"10.0.0.2/31": "255.255.255.254", "0.0.0.0/32": "255.255.255.255", "10.1.2.3/32": "255.255.255.255",
	} {
		if got, ok := Netmask(prefix(t, s)); got != address(t, want) || !ok {
			t.Errorf("Netmask(%s) = %v, %v, want %s", s, got, ok, want)
		}
	}
	for _, p := range right() {
		want, held := api.Addr{}, p.A.V == 4
		if held {
			want = four((ones << (32 - p.N)) & (1<<32 - 1))
		}
		if got, ok := Netmask(p); got != want || ok != held {
			t.Errorf("Netmask(%v) = %v, %v, want %v, %v", p, got, ok, want, held)
		}
	}
	for _, p := range wrong() {
		if got, ok := Netmask(p); got != (api.Addr{}) || ok {
			t.Errorf("Netmask(%v) = %v, %v, want none, false", p, got, ok)
		}
	}
}

// Promise 3.2: whichever address of a prefix is handed in with its mask, that prefix is answered.
func TestOfTakes(t *testing.T) {
	for _, x := range [][3]string{
		{"10.1.2.3", "255.255.255.0", "10.1.2.0/24"},
		{"10.1.2.3", "255.255.255.255", "10.1.2.3/32"},
		{"10.1.2.3", "0.0.0.0", "0.0.0.0/0"},
		{"0.0.0.0", "0.0.0.0", "0.0.0.0/0"},
		{"255.255.255.255", "128.0.0.0", "128.0.0.0/1"},
		{"10.0.0.0", "255.0.0.0", "10.0.0.0/8"},
	} {
		if got, ok := Of(address(t, x[0]), address(t, x[1])); got != prefix(t, x[2]) || !ok {
			t.Errorf("Of(%s, %s) = %v, %v, want %s", x[0], x[1], got, ok, x[2])
		}
	}
	for _, p := range right() {
		mask, ok := Netmask(p)
		if !ok {
			continue
		}
		for _, a := range []api.Addr{First(p), Last(p), four((p.A.Q.Lo + Last(p).Q.Lo) / 2)} {
			if got, ok := Of(a, mask); got != p || !ok {
				t.Errorf("Of(%v, %v) = %v, %v, want %v", a, mask, got, ok, p)
			}
		}
	}
}

// Promise 3.2: a mask of scattered bits, of another V, or none, and an address of another V, or none.
func TestOfRefuses(t *testing.T) {
	refused := func(a, mask api.Addr) {
		t.Helper()
		if got, ok := Of(a, mask); got != (api.Prefix{}) || ok {
			t.Errorf("Of(%v, %v) = %v, %v, want none, false", a, mask, got, ok)
		}
	}
	ten := four(0x0a010203)
	for _, s := range []string{"0.0.0.1", "255.0.255.0", "255.255.255.127", "127.255.255.255", "0.255.255.255", "0.0.0.255", "64.0.0.0", "255.255.255.253", "254.255.255.255"} {
		refused(ten, address(t, s))
	}
	for n := range 33 {
		mask := ones << (32 - n) & (1<<32 - 1)
		for k := range 32 {
			if changed := mask ^ 1<<k; k != 32-n && k != 31-n {
				refused(ten, four(changed))
			}
		}
		refused(six(0, 0), four(mask))
		refused(six(0, 0x0a010203), four(mask))
		refused(api.Addr{}, four(mask))
		refused(api.Addr{V: 5, Q: ten.Q}, four(mask))
		refused(four(1<<32), four(mask))
		refused(api.Addr{V: 4, Q: api.Quad{Hi: 1}}, four(mask))
		refused(ten, six(0, mask))
		refused(ten, six(0, ones<<(32-n)))
		refused(ten, api.Addr{Q: api.Quad{Lo: mask}})
		refused(ten, api.Addr{V: 4, Q: api.Quad{Lo: mask | 1<<32}})
		refused(ten, api.Addr{V: 4, Q: api.Quad{Hi: 1, Lo: mask}})
		refused(ten, api.Addr{V: 4, Q: api.Quad{Hi: ones, Lo: ones << (32 - n)}})
	}
	for n := range 129 {
		mask := six(ones<<max(64-n, 0), ones<<min(128-n, 64))
		refused(six(0, 0), mask)
		refused(ten, mask)
	}
}

// Promise 3.4: a panic names its call here, rather than ending the run.
func TestNoCallPanics(t *testing.T) {
	try := func(name string, call func()) {
		defer func() {
			if fault := recover(); fault != nil {
				t.Errorf("%s panics: %v", name, fault)
			}
		}()
		call()
	}
	all := append(right(), wrong()...)
	for i, p := range all {
		try("Ok", func() { Ok(p) })
		try("Print", func() { Print(p) })
		try("First", func() { First(p) })
		try("Last", func() { Last(p) })
		try("Netmask", func() { Netmask(p) })
		for k := i % 7; k < len(all); k += 7 {
			q := all[k]
			try("Has", func() { Has(p, q.A) })
			try("Over", func() { Over(p, q) })
			try("Less", func() { Less(p, q) })
			try("Of", func() { Of(p.A, q.A) })
		}
	}
	source := rand.New(rand.NewSource(7))
	for range 50000 {
		text := make([]byte, source.Intn(50))
		for i := range text {
			text[i] = byte(source.Intn(256))
			if source.Intn(4) != 0 {
				text[i] = "0123456789abcdefF:::..//\x00\xff"[source.Intn(26)]
			}
		}
		try("Parse", func() { Parse(string(text)) })
	}
}
