package date

import (
	"math/big"
	"math/rand"
	"regexp"
	"strconv"
	"strings"
	"testing"
	"time"
)

const (
	last   = uint64(253402300799)
	oneDay = uint64(86400)
	most64 = uint64(1<<64 - 1)
)

var (
	number = regexp.MustCompile(`\A(0|[1-9][0-9]*)\z`)
	day    = regexp.MustCompile(`\A[0-9]{4}/[0-9]{2}/[0-9]{2}\z`)
	clock  = regexp.MustCompile(`\A[0-9]{2}:[0-9]{2}:[0-9]{2}\z`)
)

// numByPattern reads by a pattern and a number of any size: a second way, to hold the package's answers against.
func numByPattern(s string, most uint64) (uint64, bool) {
	if !number.MatchString(s) {
		return 0, false
	}
	n, ok := new(big.Int).SetString(s, 10)
	if !ok || n.Cmp(new(big.Int).SetUint64(most)) > 0 {
		return 0, false
	}
	return n.Uint64(), true
}

// secByLibrary reads by patterns and by the library's calendar.
func secByLibrary(d, c string) (uint64, bool) {
	if !day.MatchString(d) || !clock.MatchString(c) {
		return 0, false
	}
	at, err := time.Parse("2006/01/02 15:04:05", d+" "+c)
	if err != nil || at.Unix() < 0 {
		return 0, false
	}
	return uint64(at.Unix()), true
}

func checkNum(t *testing.T, s string, most uint64) {
	t.Helper()
	want, wantOk := numByPattern(s, most)
	if got, ok := Num(s, most); got != want || ok != wantOk {
		t.Errorf("Num(%.60q, %d) = %d, %v, want %d, %v", s, most, got, ok, want, wantOk)
	}
}

func checkParse(t *testing.T, d, c string) {
	t.Helper()
	want, wantOk := secByLibrary(d, c)
	if got, ok := Parse(d, c); got != want || ok != wantOk {
		t.Errorf("Parse(%.60q, %.60q) = %d, %v, want %d, %v", d, c, got, ok, want, wantOk)
	}
}

// checkSecond holds all that is said of a second that has a name against the library's calendar.
func checkSecond(t *testing.T, sec uint64) {
	t.Helper()
	at := time.Unix(int64(sec), 0).UTC()
	wantDay, wantClock, _ := strings.Cut(at.Format("2006/01/02 15:04:05"), " ")
	d, c, ok := Print(sec)
	if d != wantDay || c != wantClock || !ok {
		t.Fatalf("Print(%d) = %q, %q, %v, want %q, %q, true", sec, d, c, ok, wantDay, wantClock)
	}
	if back, is := Parse(d, c); back != sec || !is {
		t.Fatalf("Parse(%q, %q) = %d, %v, want %d, true", d, c, back, is, sec)
	}
	if got := Week(sec); got != int(at.Weekday()) {
		t.Fatalf("Week(%d) = %d, want %d", sec, got, at.Weekday())
	}
}

// bounds are numbers where something turns: noughts and nines, and powers of two.
func bounds() []uint64 {
	all := []uint64{0, most64, last - 1, last, last + 1}
	for n := range 64 {
		all = append(all, 1<<n-1, 1<<n, 1<<n+1)
	}
	for n, ten := 0, uint64(1); n < 20; n, ten = n+1, ten*10 {
		all = append(all, ten-1, ten, ten+1)
	}
	return all
}

// Promise 6.1: what is read.
func TestNumTakes(t *testing.T) {
	for _, x := range []struct {
		s    string
		most uint64
		want uint64
	}{
		{"0", 0, 0}, {"0", 1, 0}, {"0", most64, 0}, {"1", 1, 1}, {"9", 9, 9}, {"9", most64, 9}, {"10", 10, 10}, {"100", 100, 100}, {"255", 255, 255}, {"65535", 65535, 65535}, {"1234567890", most64, 1234567890},
		{"9223372036854775808", most64, 1 << 63}, {"10000000000000000000", most64, 10000000000000000000}, {"18446744073709551614", most64, most64 - 1}, {"18446744073709551614", most64 - 1, most64 - 1}, {"18446744073709551615", most64, most64},
	} {
		if got, ok := Num(x.s, x.most); got != x.want || !ok {
			t.Errorf("Num(%q, %d) = %d, %v, want %d, true", x.s, x.most, got, ok, x.want)
		}
	}
}

// Promise 6.1: what is more than most, and nothing beside the false.
func TestNumRefusesMore(t *testing.T) {
	for _, x := range []struct {
		s    string
		most uint64
	}{
		{"1", 0}, {"9", 0}, {"10", 9}, {"256", 255}, {"4294967296", 1<<32 - 1}, {"18446744073709551615", most64 - 1},
		{"18446744073709551616", most64}, {"18446744073709551617", most64}, {"18446744073709551620", most64}, {"18446744073709551625", most64}, {"20000000000000000000", most64}, {"28446744073709551615", most64}, {"99999999999999999999", most64}, {"100000000000000000000", most64}, {"184467440737095516150", most64}, {"340282366920938463463374607431768211456", most64},
		{"18446744073709551616", 0}, {"18446744073709551617", 1}, {strings.Repeat("9", 1000000), most64},
	} {
		if got, ok := Num(x.s, x.most); got != 0 || ok {
			t.Errorf("Num(%.60q, %d) = %d, %v, want 0, false", x.s, x.most, got, ok)
		}
	}
}

// Promise 6.1: what is no number.
func TestNumRefuses(t *testing.T) {
	for _, s := range []string{
		"", " ", "-", "+", ".", "00", "01", "000", "007", "010", "0000000000000000000000", "00000000000000000001", "-0", "+0", "-1", "+1", "--1", " 1", "1 ", "1\n", "\n1", "1\x00", "\x001", "1.0", "1,0", "1e3", "0x1", "0X1", "0b1", "0o7", "x1", "1_0", "_1", "1_", "a", "1a", "a1", "f", "0 0", "1 1", "1-1",
		"\xff", "1\xff", "é", "٣", "1٣", "０", "1０", "²", "１", strings.Repeat("0", 1000000), strings.Repeat("1", 20) + "a", "a" + strings.Repeat("1", 1000000),
	} {
		for _, most := range []uint64{0, 1, 9, 255, most64} {
			if got, ok := Num(s, most); got != 0 || ok {
				t.Errorf("Num(%.60q, %d) = %d, %v, want 0, false", s, most, got, ok)
			}
		}
	}
}

// Promise 6.1: every byte at every place of a text, put in the place of what stands there, put ahead of it and left out.
func TestNumEachByte(t *testing.T) {
	for _, s := range []string{"0", "7", "10", "255", "18446744073709551615"} {
		for at := range len(s) + 1 {
			for b := range 256 {
				sign := string([]byte{byte(b)})
				for _, most := range []uint64{0, 99, 2550, most64} {
					checkNum(t, s[:at]+sign+s[at:], most)
					if at < len(s) {
						checkNum(t, s[:at]+sign+s[at+1:], most)
						checkNum(t, s[:at]+s[at+1:], most)
					}
				}
			}
		}
	}
}

// Promise 6.1: the bound itself is taken, what is above it is not.
func TestNumBounds(t *testing.T) {
	for _, n := range bounds() {
		for _, most := range bounds() {
			got, ok := Num(strconv.FormatUint(n, 10), most)
			if n <= most && (got != n || !ok) || n > most && (got != 0 || ok) {
				t.Errorf("Num of %d, at most %d, = %d, %v", n, most, got, ok)
			}
		}
	}
}

// Promise 6.1: Text tells what Num reads.
func TestText(t *testing.T) {
	for n, want := range map[uint64]string{0: "0", 1: "1", 9: "9", 10: "10", 100: "100", 1234567890: "1234567890", last: "253402300799", 1 << 63: "9223372036854775808", most64: "18446744073709551615"} {
		if got := Text(n); got != want {
			t.Errorf("Text(%d) = %q", n, got)
		}
	}
	for _, n := range bounds() {
		if back, ok := Num(Text(n), n); back != n || !ok {
			t.Errorf("Num(Text(%d)) = %d, %v", n, back, ok)
		}
	}
}

// Promise 6.2: ordinary seconds and the edges of the calendar, both ways, with their days of the week.
func TestSeconds(t *testing.T) {
	for _, x := range []struct {
		day, clock string
		sec        uint64
		week       int
	}{
		{"1970/01/01", "00:00:00", 0, 4},
		{"1970/01/01", "00:00:01", 1, 4},
		{"1970/01/01", "00:01:00", 60, 4},
		{"1970/01/01", "01:00:00", 3600, 4},
		{"1970/01/01", "23:59:59", 86399, 4},
		{"1970/01/02", "00:00:00", 86400, 5},
		{"1970/01/04", "00:00:00", 3 * 86400, 0},
		{"1970/02/28", "23:59:59", 59*86400 - 1, 6},
		{"1970/03/01", "00:00:00", 59 * 86400, 0},
		{"1970/12/31", "23:59:59", 365*86400 - 1, 4},
		{"1971/01/01", "00:00:00", 365 * 86400, 5},
		{"1972/02/29", "00:00:00", 68169600, 2},
		{"1972/12/31", "23:59:59", 3*365*86400 + 86400 - 1, 0},
		{"2000/02/29", "12:34:56", 951827696, 2},
		{"2000/12/31", "23:59:59", 978307199, 0},
		{"2001/09/09", "01:46:40", 1000000000, 0},
		{"2038/01/19", "03:14:07", 1<<31 - 1, 2},
		{"2100/02/28", "23:59:59", 4107542399, 0},
		{"2100/03/01", "00:00:00", 4107542400, 1},
		{"2106/02/07", "06:28:16", 1 << 32, 0},
		{"2400/02/29", "00:00:00", 13574563200, 2},
		{"9999/12/31", "00:00:00", last - 86399, 5},
		{"9999/12/31", "23:59:59", last, 5},
	} {
		if got, ok := Parse(x.day, x.clock); got != x.sec || !ok {
			t.Errorf("Parse(%q, %q) = %d, %v, want %d, true", x.day, x.clock, got, ok, x.sec)
		}
		if d, c, ok := Print(x.sec); d != x.day || c != x.clock || !ok {
			t.Errorf("Print(%d) = %q, %q, %v, want %q, %q, true", x.sec, d, c, ok, x.day, x.clock)
		}
		if got := Week(x.sec); got != x.week {
			t.Errorf("Week(%d) = %d, want %d", x.sec, got, x.week)
		}
	}
}

// Promise 6.2: which days and hours there are, of the years where the calendar turns and of years that have no name.
func TestWhichDays(t *testing.T) {
	for _, year := range []string{"0000", "0001", "0070", "1600", "1900", "1968", "1969", "1970", "1971", "1972", "1999", "2000", "2001", "2004", "2096", "2100", "2104", "2200", "2300", "2400", "4000", "9600", "9900", "9996", "9999"} {
		for month := range 100 {
			for d := range 100 {
				checkParse(t, year+"/"+two(month)+"/"+two(d), "00:00:00")
			}
		}
	}
	for a := range 100 {
		for b := range 100 {
			checkParse(t, "2024/02/29", two(a)+":"+two(b)+":00")
			checkParse(t, "2024/02/29", two(a)+":00:"+two(b))
			checkParse(t, "2024/02/29", "00:"+two(a)+":"+two(b))
		}
	}
}

func two(n int) string {
	return string([]byte{byte('0' + n/10), byte('0' + n%10)})
}

// Promise 6.2: what is no day, and what is no clock.
func TestParseRefuses(t *testing.T) {
	days := []string{
		"", "/", "//", "1970", "1970/01", "1970/01/", "1970/1/01", "1970/01/1", "1970/1/1", "1970/001/1", "1970/1/001", "1970/01/001", "01970/01/01", "11970/01/01", "970/01/01", "70/01/01", "970/001/01", "197/001/01", "10000/01/01", "19700/1/01", "19700101", "1970/0101", "197001/01", "1970/01/01/", "/1970/01/01", "1970//01/01", "1970/01/01/01",
		"1970-01-01", "1970.01.01", "1970:01:01", "1970 01 01", "1970/01-01", "1970\\01\\01", "01/01/1970", "4 1970/01/01", " 1970/01/01", "1970/01/01 ", "1970/01/01\n", "1970/01/01\x00", "1970/01/ 1", "1970/ 1/01", " 970/01/01", "1970/01/1 ", "+970/01/01", "-970/01/01", "-1970/01/01", "1970/+1/01", "1970/-1/01", "1970/01/+1", "1970/01/-1", "1970/0x/01", "1970/01/0a", "197_/01/01", "1970/1_/01", "dddd/dd/dd", "YYYY/MM/DD", "1970/01/é", "1970/01/\xff\xff", "１970/01/01", "1970/01/0１",
		"1969/12/31", "0000/01/01", "0001/01/01", "1970/00/01", "1970/13/01", "1970/99/01", "1970/01/00", "1970/01/32", "1970/01/99", "1970/02/29", "1971/02/29", "1972/02/30", "2000/02/30", "2100/02/29", "2200/02/29", "9900/02/29", "1970/04/31", "1970/06/31", "1970/09/31", "1970/11/31", "1970/12/32", "never", strings.Repeat("1970/01/01", 10000),
	}
	clocks := []string{
		"", ":", "::", "00", "00:00", "00:00:", "0:00:00", "00:0:00", "00:00:0", "0:0:0", "00:00:000", "000:00:00", "0:000:00", "000000", "00:0000", "0000:00", "00:00:00:", ":00:00:00", "00::00:00", "00:00:00:00",
		"00.00.00", "00/00/00", "00-00-00", "00 00 00", "00:00.00", " 00:00:00", "00:00:00 ", "00:00:00\n", "00:00:00\x00", "00:00: 0", " 0:00:00", "0 :00:00", "00:00:00;", "00:00:00Z", "00:00:00.0", "00:00:00,5", "+1:00:00", "-1:00:00", "00:+1:00", "00:00:-1", "0a:00:00", "00:0x:00", "00:00:0g", "0_:00:00", "dd:dd:dd", "HH:MM:SS", "00:00:é", "00:00:\xff\xff", "0１:00:00",
		"24:00:00", "24:00:01", "25:00:00", "99:00:00", "00:60:00", "00:99:00", "00:00:60", "00:00:61", "23:59:60", "00:00:99", "24:60:60", strings.Repeat("00:00:00", 10000),
	}
	refuse := func(d, c string) {
		if got, ok := Parse(d, c); got != 0 || ok {
			t.Errorf("Parse(%.40q, %.40q) = %d, %v, want 0, false", d, c, got, ok)
		}
	}
	for _, d := range days {
		refuse(d, "00:00:00")
		refuse(d, "23:59:59")
		refuse("00:00:00", d)
	}
	for _, c := range clocks {
		refuse("1970/01/01", c)
		refuse("9999/12/31", c)
		refuse(c, "1970/01/01")
	}
	for _, d := range days {
		for _, c := range clocks {
			refuse(d, c)
		}
	}
}

// Promise 6.2: every byte at every place of both texts, put in the place of what stands there, put ahead of it and left out.
func TestParseEachByte(t *testing.T) {
	each := func(s string, check func(string)) {
		for at := range len(s) + 1 {
			for b := range 256 {
				sign := string([]byte{byte(b)})
				check(s[:at] + sign + s[at:])
				if at < len(s) {
					check(s[:at] + sign + s[at+1:])
					check(s[:at] + s[at+1:])
				}
			}
		}
	}
	for _, d := range []string{"1970/01/01", "2000/02/29", "2026/11/18", "9999/12/31"} {
		each(d, func(s string) { checkParse(t, s, "12:34:56") })
	}
	for _, c := range []string{"00:00:00", "12:34:56", "23:59:59"} {
		each(c, func(s string) { checkParse(t, "2026/11/18", s) })
	}
}

// Promises 6.2 and 6.3 (W1): each day that has a name, at its beginning, its end and somewhere between.
func TestEachDay(t *testing.T) {
	source := rand.New(rand.NewSource(6))
	for start := uint64(0); start <= last; start += oneDay {
		checkSecond(t, start+uint64(source.Intn(int(oneDay))))
		if start < 800*366*oneDay || start > last-5*366*oneDay {
			checkSecond(t, start)
			checkSecond(t, start+oneDay-1)
		}
	}
}

// Promises 6.2 and 6.3 (W1): each second of a day is told apart, in the order of the seconds.
func TestEachSecond(t *testing.T) {
	was := ""
	for sec := 951782400 - uint64(60); sec < 951782400+oneDay+60; sec++ {
		checkSecond(t, sec)
		d, c, _ := Print(sec)
		if d+c <= was {
			t.Fatalf("Print(%d) = %q, %q, which is not behind the second ahead of it", sec, d, c)
		}
		was = d + c
	}
}

// Promise 6.3 (W1): whatever pair is read as a second is the very pair that the second is told as.
func TestOneName(t *testing.T) {
	source := rand.New(rand.NewSource(63))
	taken := 0
	for range 300000 {
		d := Text(uint64(1965+source.Intn(8040))) + "/" + two(source.Intn(15)) + "/" + two(source.Intn(34))
		c := two(source.Intn(27)) + ":" + two(source.Intn(63)) + ":" + two(source.Intn(63))
		checkParse(t, d, c)
		sec, ok := Parse(d, c)
		if !ok {
			continue
		}
		taken++
		if day, clock, is := Print(sec); sec > last || day != d || clock != c || !is {
			t.Errorf("%q, %q is read as %d, which is told as %q, %q, %v", d, c, sec, day, clock, is)
		}
	}
	if taken < 100000 {
		t.Errorf("only %d pairs were read", taken)
	}
}

// beyond are seconds that have no name.
func beyond() []uint64 {
	all := []uint64{last + 1, last + 2, last + oneDay, last + oneDay + 1, 1 << 62, 1<<63 - 1, 1 << 63, most64 - 1, most64}
	for n := 38; n < 64; n++ {
		all = append(all, 1<<n, 1<<n+12345)
	}
	return all
}

// Promise 6.2: false beyond 9999, and nothing beside it.
func TestPrintRefuses(t *testing.T) {
	for _, sec := range beyond() {
		if d, c, ok := Print(sec); d != "" || c != "" || ok {
			t.Errorf("Print(%d) = %q, %q, %v, want nothing, false", sec, d, c, ok)
		}
	}
}

// Promise 6.2: the week goes on beyond 9999, worked out here by numbers of any size.
func TestWeekBeyond(t *testing.T) {
	for sec, want := range map[uint64]int{last: 5, last + 1: 6, last + oneDay: 6, last + oneDay + 1: 0} {
		if got := Week(sec); got != want {
			t.Errorf("Week(%d) = %d, want %d", sec, got, want)
		}
	}
	for _, sec := range append(beyond(), bounds()...) {
		days := new(big.Int).Div(new(big.Int).SetUint64(sec), big.NewInt(86400))
		want := new(big.Int).Mod(days.Add(days, big.NewInt(4)), big.NewInt(7)).Int64()
		if got := Week(sec); int64(got) != want {
			t.Errorf("Week(%d) = %d, want %d", sec, got, want)
		}
	}
}

// noise is texts of signs that stand in numbers, days and clocks, and of any bytes.
func noise() []string {
	source := rand.New(rand.NewSource(60))
	all := make([]string, 50000)
	for i := range all {
		text := make([]byte, source.Intn(25))
		for k := range text {
			text[k] = "01234567890123456789//:: -"[source.Intn(26)]
			if source.Intn(20) == 0 {
				text[k] = byte(source.Intn(256))
			}
		}
		all[i] = string(text)
	}
	return all
}

// Promises 6.1 to 6.3, of any bytes: held against patterns and the library's calendar.
func TestNoise(t *testing.T) {
	for _, s := range noise() {
		checkNum(t, s, most64)
		checkNum(t, s, 1000)
		checkParse(t, s, "12:34:56")
		checkParse(t, "2026/11/18", s)
		checkParse(t, s, s)
	}
}

// Promise 6.4: a panic names its call here, rather than ending the run.
func TestNoCallPanics(t *testing.T) {
	try := func(name string, call func()) {
		defer func() {
			if fault := recover(); fault != nil {
				t.Errorf("%s panics: %v", name, fault)
			}
		}()
		call()
	}
	for _, s := range append(noise(), "", "/", ":", "0000/00/00", "9999/99/99", "99:99:99", strings.Repeat("9", 1000000), strings.Repeat("/", 1000000)) {
		try("Num", func() { Num(s, 0) })
		try("Num", func() { Num(s, most64) })
		try("Parse", func() { Parse(s, "00:00:00") })
		try("Parse", func() { Parse("1970/01/01", s) })
		try("Parse", func() { Parse(s, s) })
	}
	for _, n := range append(beyond(), bounds()...) {
		try("Text", func() { Text(n) })
		try("Print", func() { Print(n) })
		try("Week", func() { Week(n) })
	}
}
