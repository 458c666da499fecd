package rang

import (
	"math"
	"math/big"
	"math/rand"
	"net/netip"
	"slices"
	"strings"
	"testing"

	"glebe/addr"
	"glebe/api"
	"glebe/pref"
)

const ones = ^uint64(0)

func four(n uint64) api.Addr     { return api.Addr{V: 4, Q: api.Quad{Lo: n}} }
func six(hi, lo uint64) api.Addr { return api.Addr{V: 6, Q: api.Quad{Hi: hi, Lo: lo}} }

func scope(t *testing.T, s string) api.Range {
	t.Helper()
	r, ok := Parse(s)
	if !ok {
		t.Fatalf("%q is no range", s)
	}
	return r
}

func prefix(t *testing.T, s string) api.Prefix {
	t.Helper()
	p, ok := pref.Parse(s)
	if !ok {
		t.Fatalf("%q is no prefix", s)
	}
	return p
}

// whole is the number as math/big holds it: a second way to count, to hold the package's answers against.
func whole(a api.Addr) *big.Int {
	n := new(big.Int).Lsh(new(big.Int).SetUint64(a.Q.Hi), 64)
	return n.Or(n, new(big.Int).SetUint64(a.Q.Lo))
}

// address undoes whole.
func address(v int, n *big.Int) api.Addr {
	low := new(big.Int).And(n, new(big.Int).SetUint64(ones))
	return api.Addr{V: v, Q: api.Quad{Hi: new(big.Int).Rsh(n, 64).Uint64(), Lo: low.Uint64()}}
}

// corners are addresses of both V, rising: the ends of each, and those around the bounds of halves, groups and bytes.
func corners() []api.Addr {
	var all []api.Addr
	for _, n := range []uint64{0, 1, 2, 3, 0xfe, 0xff, 0x100, 0x0a000000, 0x0a000001, 0x0a0000ff, 1<<31 - 1, 1 << 31, 1<<32 - 2, 1<<32 - 1} {
		all = append(all, four(n))
	}
	for _, hi := range []uint64{0, 1, 1<<63 - 1, 1 << 63, ones} {
		for _, lo := range []uint64{0, 1, 2, 1<<32 - 1, 1 << 32, 1<<63 - 1, 1 << 63, ones - 1, ones} {
			all = append(all, six(hi, lo))
		}
	}
	return all
}

// between are the ranges between any two corners of one V, rising.
func between() []api.Range {
	var all []api.Range
	ends := corners()
	for i, lo := range ends {
		for _, hi := range ends[i:] {
			if lo.V == hi.V {
				all = append(all, api.Range{Lo: lo, Hi: hi})
			}
		}
	}
	return all
}

// right are the ranges between corners, and some others, the same ones on every run.
func right() []api.Range {
	all := between()
	source := rand.New(rand.NewSource(8))
	for range 300 {
		a, b := uint64(source.Uint32()), uint64(source.Uint32())
		all = append(all, api.Range{Lo: four(min(a, b)), Hi: four(max(a, b))})
		hi, low := source.Uint64()>>1, source.Uint64()
		all = append(all, api.Range{Lo: six(hi, low), Hi: six(hi, low|source.Uint64())})
		all = append(all, api.Range{Lo: six(hi, low), Hi: six(hi+1+source.Uint64()>>1, source.Uint64())})
	}
	return all
}

// wrong are none: with an end that is none, of two V, or with Lo above Hi.
func wrong() []api.Range {
	all := []api.Range{{}}
	for _, a := range []api.Addr{{}, {V: 5}, {V: -4}, {V: 7}, {V: math.MinInt}, {V: math.MaxInt}, four(1 << 32), four(ones), {V: 4, Q: api.Quad{Hi: 1}}} {
		all = append(all, api.Range{Lo: a, Hi: a})
		for _, b := range []api.Addr{four(0), four(1<<32 - 1), six(0, 0), six(ones, ones)} {
			all = append(all, api.Range{Lo: a, Hi: b}, api.Range{Lo: b, Hi: a})
		}
	}
	ends := corners()
	for i, hi := range ends {
		for _, lo := range ends[i+1:] {
			all = append(all, api.Range{Lo: lo, Hi: hi})
			if lo.V != hi.V {
				all = append(all, api.Range{Lo: hi, Hi: lo})
			}
		}
	}
	return all
}

// Promise 4.1.
func TestOk(t *testing.T) {
	for _, r := range right() {
		if !Ok(r) {
			t.Errorf("Ok(%v) is false", r)
		}
	}
	for _, r := range wrong() {
		if Ok(r) {
			t.Errorf("Ok(%v) is true", r)
		}
	}
}

// Promise 4.1: what is read.
func TestParseTakes(t *testing.T) {
	for _, x := range []struct {
		s    string
		want api.Range
	}{
		{"10.0.0.1-10.0.0.9", api.Range{Lo: four(0x0a000001), Hi: four(0x0a000009)}},
		{"10.0.0.1-10.0.0.1", api.Range{Lo: four(0x0a000001), Hi: four(0x0a000001)}},
		{"9.255.255.255-10.0.0.0", api.Range{Lo: four(0x09ffffff), Hi: four(0x0a000000)}},
		{"0.0.0.0-0.0.0.0", api.Range{Lo: four(0), Hi: four(0)}},
		{"0.0.0.0-255.255.255.255", api.Range{Lo: four(0), Hi: four(1<<32 - 1)}},
		{"255.255.255.255-255.255.255.255", api.Range{Lo: four(1<<32 - 1), Hi: four(1<<32 - 1)}},
		{"::-::", api.Range{Lo: six(0, 0), Hi: six(0, 0)}},
		{"::-ffff:ffff:ffff:ffff:FFFF:FFFF:FFFF:FFFF", api.Range{Lo: six(0, 0), Hi: six(ones, ones)}},
		{"2001:DB8::1-2001:db8:0::0:2", api.Range{Lo: six(0x20010db800000000, 1), Hi: six(0x20010db800000000, 2)}},
		{"::ffff:ffff:ffff:ffff-0:0:0:1::", api.Range{Lo: six(0, ones), Hi: six(1, 0)}},
		{"::1.2.3.4-::1.2.3.5", api.Range{Lo: six(0, 0x01020304), Hi: six(0, 0x01020305)}},
		{"::-::0.0.0.1", api.Range{Lo: six(0, 0), Hi: six(0, 1)}},
	} {
		if got, ok := Parse(x.s); got != x.want || !ok {
			t.Errorf("Parse(%q) = %v, %v, want %v, true", x.s, got, ok, x.want)
		}
	}
}

// Promises 4.1 and 4.3: what is not read.
func TestParseRefuses(t *testing.T) {
	for _, s := range []string{
		"", "-", "--", " ", "1-2", "10.0.0.1", "::", "10.0.0.1-", "-10.0.0.1", "::-", "-::", "10.0.0.1--10.0.0.2", "-10.0.0.1-10.0.0.2", "10.0.0.1-10.0.0.2-", "10.0.0.1-10.0.0.2-10.0.0.3",
		"10.0.0.2-10.0.0.1", "0.0.0.1-0.0.0.0", "255.255.255.255-0.0.0.0", "::1-::", "0:0:0:1::-::ffff:ffff:ffff:ffff", "ffff::-::",
		"10.0.0.1-::1", "::1-10.0.0.1", "0.0.0.0-::", "::-0.0.0.0", "0.0.0.0-ffff::", "::-255.255.255.255", "10.0.0.1-::ffff:10.0.0.2",
		"10.0.0.1 - 10.0.0.2", "10.0.0.1 -10.0.0.2", "10.0.0.1- 10.0.0.2", " 10.0.0.1-10.0.0.2", "10.0.0.1-10.0.0.2 ", "10.0.0.1-10.0.0.2\n", "10.0.0.1-10.0.0.2\x00", "10.0.0.1\x00-10.0.0.2",
		"10.0.0.1,10.0.0.2", "10.0.0.1 10.0.0.2", "10.0.0.1..10.0.0.2", "10.0.0.1/10.0.0.2", "10.0.0.1–10.0.0.2", "10.0.0.1−10.0.0.2", "10.0.0.1-2", "10.0.0.1-9", "10.0.0.1-+10.0.0.2",
		"10.0.0.0/24", "10.0.0.0/24-10.0.1.0/24", "10.0.0.1-10.0.0.2/32", "10.0.0.01-10.0.0.2", "10.0.0.1-10.0.0.02", "10.0.0.1-10.0.0.256", "256.0.0.0-256.0.0.1", "10.0.0-10.0.1", "x-y", ":-:", ":::-:::",
		"::1%1-::2%1", "[::1]-[::2]", "::1-::2::", "\xff-\xff",
		strings.Repeat("-", 1000000), strings.Repeat("0", 1000000) + "-10.0.0.1", "10.0.0.1-" + strings.Repeat("0", 1000000), strings.Repeat("10.0.0.1-", 100000),
	} {
		if got, ok := Parse(s); got != (api.Range{}) || ok {
			t.Errorf("Parse(%.60q) = %v, %v, want none, false", s, got, ok)
		}
	}
}

// fromLibrary reads by net/netip: a second way, to hold the package's answers against.
func fromLibrary(s string) bool {
	parts := strings.Split(s, "-")
	if len(parts) != 2 || strings.Contains(s, "%") {
		return false
	}
	lo, bad := netip.ParseAddr(parts[0])
	hi, worse := netip.ParseAddr(parts[1])
	return bad == nil && worse == nil && lo.BitLen() == hi.BitLen() && lo.Compare(hi) <= 0
}

// Promise 4.1, of texts that are nearly right.
func TestParseAsTheLibrary(t *testing.T) {
	source := rand.New(rand.NewSource(9))
	const signs = "0123456789abcdefABCDEFgx:.% -+/"
	for _, r := range right() {
		s := Print(r)
		for range 10 {
			at, sign := source.Intn(len(s)), string(signs[source.Intn(len(signs))])
			for _, changed := range []string{s[:at] + s[at+1:], s[:at] + sign + s[at:], s[:at] + sign + s[at+1:], s + sign} {
				want := fromLibrary(changed)
				if got, ok := Parse(changed); ok != want || ok != Ok(got) || !ok && got != (api.Range{}) {
					t.Fatalf("Parse(%q) = %v, %v, want %v", changed, got, ok, want)
				}
			}
		}
	}
}

// Promise 4.1.
func TestPrint(t *testing.T) {
	for _, x := range []struct {
		r    api.Range
		want string
	}{
		{api.Range{Lo: four(0), Hi: four(1<<32 - 1)}, "0.0.0.0-255.255.255.255"},
		{api.Range{Lo: four(0x0a000001), Hi: four(0x0a000001)}, "10.0.0.1-10.0.0.1"},
		{api.Range{Lo: six(0, 0), Hi: six(0, 0)}, "::-::"},
		{api.Range{Lo: six(0x20010db800000000, 0), Hi: six(0x20010db80000000a, 0xffff)}, "2001:db8::-2001:db8:0:a::ffff"},
		{api.Range{Lo: six(0, 0x01020304), Hi: six(ones, ones)}, "::102:304-ffff:ffff:ffff:ffff:ffff:ffff:ffff:ffff"},
	} {
		if got := Print(x.r); got != x.want {
			t.Errorf("Print(%v) = %q, want %q", x.r, got, x.want)
		}
	}
	for _, r := range wrong() {
		if got := Print(r); got != "" {
			t.Errorf("Print(%v) = %q, want nothing", r, got)
		}
	}
}

// Promise 4.3 (W1): each is read as it was, no two have one text, and all texts of one range come to one.
func TestOneForm(t *testing.T) {
	told := map[string]api.Range{}
	for _, r := range right() {
		s := Print(r)
		if back, ok := Parse(s); back != r || !ok {
			t.Errorf("Parse(%q) = %v, %v, want %v, true", s, back, ok, r)
		}
		if other, seen := told[s]; seen && other != r {
			t.Errorf("%v and %v are both told as %q", r, other, s)
		}
		told[s] = r
	}
	for _, s := range []string{"1::a-1::b", "1::A-1::B", "1:0::a-1::0:b", "0001:0:0:0:0:0:0:a-1:0:0:0:0:0:0.0.0.11"} {
		if got := Print(scope(t, s)); got != "1::a-1::b" {
			t.Errorf("%q is told as %q", s, got)
		}
	}
}

// nets are prefixes of many lengths of both V, and some that are none.
func nets() []api.Prefix {
	all := []api.Prefix{{}, {A: four(1), N: 31}, {A: four(0), N: 33}, {A: four(0), N: -1}, {A: six(0, 1), N: 0}, {A: api.Addr{V: 5}}}
	for _, a := range corners() {
		for n := range addr.Bits(a.V) + 1 {
			if p := (api.Prefix{A: a, N: n}); pref.Ok(p) {
				all = append(all, p)
			}
		}
	}
	return all
}

// Promise 4.1.
func TestIn(t *testing.T) {
	for _, x := range []struct {
		r, p string
		want bool
	}{
		{"10.0.0.0-10.0.0.3", "10.0.0.0/30", true},
		{"10.0.0.1-10.0.0.2", "10.0.0.0/30", true},
		{"10.0.0.3-10.0.0.3", "10.0.0.0/30", true},
		{"10.0.0.0-10.0.0.4", "10.0.0.0/30", false},
		{"9.255.255.255-10.0.0.3", "10.0.0.0/30", false},
		{"9.255.255.255-10.0.0.4", "10.0.0.0/30", false},
		{"10.0.0.4-10.0.0.5", "10.0.0.0/30", false},
		{"0.0.0.0-255.255.255.255", "0.0.0.0/0", true},
		{"0.0.0.0-0.0.0.0", "::/0", false},
		{"::-::", "0.0.0.0/0", false},
		{"::-ffff:ffff:ffff:ffff:ffff:ffff:ffff:ffff", "::/0", true},
		{"1::-1::ffff:ffff:ffff:ffff", "1::/64", true},
		{"1::-1:0:0:1::", "1::/64", false},
	} {
		if got := In(scope(t, x.r), prefix(t, x.p)); got != x.want {
			t.Errorf("In(%s, %s) = %v", x.r, x.p, got)
		}
	}
	ranges := right()
	for i, p := range nets() {
		for k := i % 5; k < len(ranges); k += 5 {
			r := ranges[k]
			want := pref.Ok(p) && r.Lo.V == p.A.V && whole(pref.First(p)).Cmp(whole(r.Lo)) <= 0 && whole(r.Hi).Cmp(whole(pref.Last(p))) <= 0
			if got := In(r, p); got != want {
				t.Fatalf("In(%v, %v) = %v", r, p, got)
			}
		}
	}
}

// Promise 4.1: held against the greater of the two Lo and the smaller of the two Hi, of any two.
func TestOver(t *testing.T) {
	for _, x := range []struct {
		r, s string
		want bool
	}{
		{"10.0.0.1-10.0.0.5", "10.0.0.1-10.0.0.5", true},
		{"10.0.0.1-10.0.0.5", "10.0.0.5-10.0.0.9", true},
		{"10.0.0.1-10.0.0.5", "10.0.0.6-10.0.0.9", false},
		{"10.0.0.1-10.0.0.9", "10.0.0.3-10.0.0.4", true},
		{"0.0.0.0-255.255.255.255", "::-ffff::", false},
		{"10.0.0.1-10.0.0.5", "::a00:1-::a00:5", false},
		{"::-::ffff:ffff:ffff:ffff", "0:0:0:1::-0:0:0:2::", false},
		{"::-0:0:0:1::", "0:0:0:1::-0:0:0:2::", true},
	} {
		r, s := scope(t, x.r), scope(t, x.s)
		if Over(r, s) != x.want || Over(s, r) != x.want {
			t.Errorf("Over(%s, %s) is not %v", x.r, x.s, x.want)
		}
	}
	all := right()
	for i, r := range all {
		for k := i % 3; k < len(all); k += 3 {
			s := all[k]
			from, to := whole(r.Lo), whole(r.Hi)
			if low := whole(s.Lo); low.Cmp(from) > 0 {
				from = low
			}
			if high := whole(s.Hi); high.Cmp(to) < 0 {
				to = high
			}
			if got, want := Over(r, s), r.Lo.V == s.Lo.V && from.Cmp(to) <= 0; got != want {
				t.Fatalf("Over(%v, %v) = %v", r, s, got)
			}
		}
	}
}

// Promise 4.1: by Lo, then by Hi.
func TestLess(t *testing.T) {
	rising := []string{
		"0.0.0.0-0.0.0.0", "0.0.0.0-0.0.0.1", "0.0.0.0-255.255.255.255", "0.0.0.1-0.0.0.1", "10.0.0.1-10.0.0.5", "10.0.0.1-10.0.0.6", "10.0.0.2-10.0.0.2", "255.255.255.255-255.255.255.255",
		"::-::", "::-::1", "::-0:0:0:1::", "::-ffff::", "::1-::1", "::1-0:0:0:1::", "0:0:0:1::-0:0:0:1::", "0:0:0:1::-ffff::", "ffff::-ffff::",
	}
	for i, r := range rising {
		for k, s := range rising {
			if got := Less(scope(t, r), scope(t, s)); got != (i < k) {
				t.Errorf("Less(%s, %s) = %v", r, s, got)
			}
		}
	}
	all := between()
	for i, r := range all {
		for k := i % 7; k < len(all); k += 7 {
			if got := Less(r, all[k]); got != (i < k) {
				t.Fatalf("Less(%v, %v) = %v", r, all[k], got)
			}
		}
	}
}

// Promises 4.1 and 4.2: none is in no prefix, over no range, neither ahead of nor behind any, and has no cover.
func TestNoneBesideOthers(t *testing.T) {
	others := append(right(), wrong()...)
	prefixes := nets()
	for i, r := range wrong() {
		if got := Cover(r); len(got) != 0 {
			t.Errorf("Cover(%v) = %v, want nothing", r, got)
		}
		if Over(r, r) || Less(r, r) {
			t.Errorf("Over or Less is true of %v and itself", r)
		}
		for k := i % 5; k < len(others); k += 5 {
			if s := others[k]; Over(r, s) || Over(s, r) || Less(r, s) || Less(s, r) {
				t.Fatalf("Over or Less is true of %v and %v", r, s)
			}
		}
		for k := i % 5; k < len(prefixes); k += 5 {
			if p := prefixes[k]; In(r, p) {
				t.Fatalf("In(%v, %v) is true", r, p)
			}
		}
	}
}

// Promise 4.2.
func TestCover(t *testing.T) {
	for s, want := range map[string]string{
		"10.0.0.1-10.0.0.2":                          "10.0.0.1/32 10.0.0.2/32",
		"10.0.0.7-10.0.0.7":                          "10.0.0.7/32",
		"10.0.0.0-10.0.0.255":                        "10.0.0.0/24",
		"10.0.0.0-10.0.0.254":                        "10.0.0.0/25 10.0.0.128/26 10.0.0.192/27 10.0.0.224/28 10.0.0.240/29 10.0.0.248/30 10.0.0.252/31 10.0.0.254/32",
		"10.0.0.1-10.0.0.6":                          "10.0.0.1/32 10.0.0.2/31 10.0.0.4/31 10.0.0.6/32",
		"0.0.0.0-0.0.0.0":                            "0.0.0.0/32",
		"0.0.0.0-0.0.0.2":                            "0.0.0.0/31 0.0.0.2/32",
		"0.0.0.0-127.255.255.255":                    "0.0.0.0/1",
		"0.0.0.0-128.0.0.0":                          "0.0.0.0/1 128.0.0.0/32",
		"0.0.0.0-255.255.255.255":                    "0.0.0.0/0",
		"255.255.255.253-255.255.255.255":            "255.255.255.253/32 255.255.255.254/31",
		"255.255.255.255-255.255.255.255":            "255.255.255.255/32",
		"::-::":                                      "::/128",
		"::1-::4":                                    "::1/128 ::2/127 ::4/128",
		"::-::ffff:ffff:ffff:ffff":                   "::/64",
		"::ffff:ffff:ffff:ffff-0:0:0:1::":            "::ffff:ffff:ffff:ffff/128 0:0:0:1::/128",
		"::8000:0:0:0-0:0:0:1:7fff:ffff:ffff:ffff":   "::8000:0:0:0/65 0:0:0:1::/65",
		"::-ffff:ffff:ffff:ffff:ffff:ffff:ffff:ffff": "::/0",
		"ffff:ffff:ffff:ffff:ffff:ffff:ffff:fffd-ffff:ffff:ffff:ffff:ffff:ffff:ffff:ffff": "ffff:ffff:ffff:ffff:ffff:ffff:ffff:fffd/128 ffff:ffff:ffff:ffff:ffff:ffff:ffff:fffe/127",
	} {
		var got []string
		for _, p := range Cover(scope(t, s)) {
			got = append(got, pref.Print(p))
		}
		if strings.Join(got, " ") != want {
			t.Errorf("Cover(%s) = %v, want %s", s, got, want)
		}
	}
}

// halving covers from the other end, from all addresses of a V down: a prefix that is wholly within is taken, one that is partly within is cut in two.
func halving(r api.Range, p api.Prefix) []api.Prefix {
	size := new(big.Int).Lsh(big.NewInt(1), uint(addr.Bits(p.A.V)-p.N))
	first := whole(p.A)
	end := new(big.Int).Add(first, size)
	from, behind := whole(r.Lo), new(big.Int).Add(whole(r.Hi), big.NewInt(1))
	switch {
	case end.Cmp(from) <= 0 || first.Cmp(behind) >= 0:
		return nil
	case first.Cmp(from) >= 0 && end.Cmp(behind) <= 0:
		return []api.Prefix{p}
	}
	middle := new(big.Int).Add(first, new(big.Int).Rsh(size, 1))
	low, high := api.Prefix{A: p.A, N: p.N + 1}, api.Prefix{A: address(p.A.V, middle), N: p.N + 1}
	return append(halving(r, low), halving(r, high)...)
}

// Promise 4.2, of ranges of every size.
func TestCoverByHalving(t *testing.T) {
	for _, r := range right() {
		got, want := Cover(r), halving(r, api.Prefix{A: api.Addr{V: r.Lo.V}})
		if !slices.Equal(got, want) {
			t.Fatalf("Cover(%v) = %v, want %v", r, got, want)
		}
	}
}

// fewest counts, by trying every prefix at each address, how many the addresses from the k-th on of a block need at least, up to and with the last-th.
func fewest(k, last, bits int) int {
	need := make([]int, last+2)
	for at := last; at >= k; at-- {
		need[at] = math.MaxInt
		for n := range bits + 1 {
			if size := 1 << n; at%size == 0 && at+size <= last+1 {
				need[at] = min(need[at], need[at+size]+1)
			}
		}
	}
	return need[k]
}

// Promise 4.2, of all ranges within small blocks at the ends of both V and across the halves: just it, rising, and the fewest.
func TestCoverIsTheFewest(t *testing.T) {
	const bits = 6
	for _, block := range []api.Addr{four(0), four(0x0a000000), four(1<<32 - 1<<bits), six(0, 0), six(0, ones-1<<bits+1), six(1, 0), six(ones, ones-1<<bits+1)} {
		for k := range 1 << bits {
			for last := k; last < 1<<bits; last++ {
				lo, hi := block, block
				lo.Q.Lo += uint64(k)
				hi.Q.Lo += uint64(last)
				got := Cover(api.Range{Lo: lo, Hi: hi})
				checkPieces(t, api.Range{Lo: lo, Hi: hi}, got)
				if want := fewest(k, last, bits); len(got) != want {
					t.Fatalf("%d prefixes from %v to %v, want %d", len(got), lo, hi, want)
				}
			}
		}
	}
}

// checkPieces fails where the prefixes, one behind the other, are not just the range.
func checkPieces(t *testing.T, r api.Range, all []api.Prefix) {
	t.Helper()
	at := whole(r.Lo)
	for i, p := range all {
		if !pref.Ok(p) || p.A.V != r.Lo.V || whole(pref.First(p)).Cmp(at) != 0 {
			t.Fatalf("Cover(%v): %v at %d", r, p, i)
		}
		if i > 0 && !pref.Less(all[i-1], p) {
			t.Fatalf("Cover(%v): %v is not behind %v", r, p, all[i-1])
		}
		at = new(big.Int).Add(whole(pref.Last(p)), big.NewInt(1))
	}
	if at.Cmp(new(big.Int).Add(whole(r.Hi), big.NewInt(1))) != 0 {
		t.Fatalf("Cover(%v) ends ahead of %x", r, at)
	}
}

// Promise 4.2: the longest covers there are.
func TestCoverLongest(t *testing.T) {
	for _, x := range []struct {
		r    api.Range
		want int
	}{
		{api.Range{Lo: four(1), Hi: four(1<<32 - 2)}, 62},
		{api.Range{Lo: six(0, 1), Hi: six(ones, ones-1)}, 254},
		{api.Range{Lo: six(0, 1), Hi: six(ones, ones)}, 128},
		{api.Range{Lo: six(0, 0), Hi: six(ones, ones-1)}, 128},
	} {
		got := Cover(x.r)
		checkPieces(t, x.r, got)
		if len(got) != x.want {
			t.Errorf("%d prefixes of %v, want %d", len(got), x.r, x.want)
		}
	}
}

// Rule 3 of the document: what is answered is new memory, its spare room too.
func TestCoverIsNewMemory(t *testing.T) {
	r := scope(t, "10.0.0.1-10.0.0.6")
	one, two := Cover(r), Cover(r)
	for i := range one[:cap(one)] {
		one[:cap(one)][i] = api.Prefix{N: -1}
	}
	if want := halving(r, api.Prefix{A: four(0)}); !slices.Equal(two, want) || !slices.Equal(Cover(r), want) {
		t.Errorf("Cover(%v) is %v, then %v, want %v", r, two, Cover(r), want)
	}
}

// Promise 4.4: a panic names its call here, rather than ending the run.
func TestNoCallPanics(t *testing.T) {
	try := func(name string, call func()) {
		defer func() {
			if fault := recover(); fault != nil {
				t.Errorf("%s panics: %v", name, fault)
			}
		}()
		call()
	}
	all := append(right(), wrong()...)
	prefixes := nets()
	for i, r := range all {
		try("Ok", func() { Ok(r) })
		try("Print", func() { Print(r) })
		try("Cover", func() { Cover(r) })
		for k := i % 7; k < len(all); k += 7 {
			try("Over", func() { Over(r, all[k]) })
			try("Less", func() { Less(r, all[k]) })
		}
		for k := i % 7; k < len(prefixes); k += 7 {
			try("In", func() { In(r, prefixes[k]) })
		}
	}
	source := rand.New(rand.NewSource(10))
	for range 50000 {
		text := make([]byte, source.Intn(50))
		for i := range text {
			text[i] = byte(source.Intn(256))
			if source.Intn(4) != 0 {
				text[i] = "0123456789abcdefF:::..--\x00\xff"[source.Intn(26)]
			}
		}
		try("Parse", func() { Parse(string(text)) })
	}
}
