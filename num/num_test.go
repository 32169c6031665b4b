package num_test

import (
	"math"
	"math/big"
	"strings"
	"testing"

	"fescue/api"
	"fescue/num"
)

const (
	least = math.MinInt64
	most  = math.MaxInt64
)

// edges answers numbers round which something turns: the ends, powers of ten and of two, each with its neighbours, and their opposites.
func edges() []int64 {
	var l []int64
	near := func(n int64) {
		for d := int64(-2); d <= 2; d++ {
			if n >= 0 && d > most-n || n < 0 && d < least-n {
				continue
			}
			l = append(l, n+d)
			if n+d != least {
				l = append(l, -(n + d))
			}
		}
	}
	for n := int64(1); ; n *= 10 {
		near(n)
		if n > most/10 {
			break
		}
	}
	for bit := range 63 {
		near(1 << bit)
	}
	for _, n := range []int64{0, least, most, most / 10, least / 10, 1234567890123456789} {
		near(n)
	}
	return l
}

// asked tells by the document's words, with numbers of any size, whether s is a number's text, and of which.
func asked(s string) (int64, api.Errno) {
	b, ok := new(big.Int).SetString(s, 10)
	if !ok || b.String() != s || !b.IsInt64() {
		return 0, api.ErrNum
	}
	return b.Int64(), api.OK
}

func mustRead(t *testing.T, s string, want int64) {
	t.Helper()
	if n, e := num.Read(s); n != want || e != api.OK {
		t.Errorf("Read(%q) = %d, %d; want %d, OK", s, n, e, want)
	}
}

func mustRefuse(t *testing.T, s string) {
	t.Helper()
	if n, e := num.Read(s); n != 0 || e != api.ErrNum {
		t.Errorf("Read(%q) = %d, %d; want 0, ErrNum", s, n, e)
	}
}

// P1.1: ordinary texts and the ends are read.
func TestReadNumbers(t *testing.T) {
	for s, want := range map[string]int64{
		"0": 0, "1": 1, "9": 9, "10": 10, "-1": -1, "-7": -7, "-10": -10, "42": 42,
		"100": 100, "-100": -100, "1234567890": 1234567890, "-1234567890": -1234567890,
		"9223372036854775806": most - 1, "9223372036854775807": most,
		"-9223372036854775807": least + 1, "-9223372036854775808": least,
		"9223372036854775799": most - 8, "-9223372036854775799": least + 9,
	} {
		mustRead(t, s, want)
	}
}

// P1.1: what is no number's text is refused, with the number 0.
func TestReadRefuses(t *testing.T) {
	for _, s := range []string{
		"", "-", "+", "--", "+1", "+0", "-+1", "+-1", "--1", "1-", "-1-", "1-1",
		"00", "01", "007", "-0", "-00", "-01", "0-", "00000000000000000001",
		" ", " 1", "1 ", "- 1", "1 2", "\t1", "1\n", "1\r", "\x001", "1\x00",
		"a", "1a", "a1", "0x1", "0b1", "0o7", "1e3", "1.0", "1.", ".1", "1,000", "1_000", "_1", "NaN", "inf",
		"/", ":", "1/", "1:", "-/", "-:", "*1", "nil",
	} {
		mustRefuse(t, s)
	}
}

// P1.1: a digit is one of ten bytes, no sign of another script, nor half of one.
func TestReadRefusesOtherDigits(t *testing.T) {
	for _, s := range []string{
		"\u0661", "1\u0662", "\u0967", "\uff11", "\u00b2", "\u2460", "\u2212" + "1", "\uff0d" + "1", "\ufeff1",
		"\xb1", "1\xb1", "\xff", "1\xff", "\xc4\xb0", "\U0001d7ce", "\u0130", "\u0131", "\U00010030",
	} {
		mustRefuse(t, s)
	}
}

// P1.1: what is just behind the ends is refused, and so is what is far behind them, also where a sum of so many bits would come round to a number.
func TestReadRefusesBeyondTheEnds(t *testing.T) {
	ten := big.NewInt(10)
	for _, bits := range []uint{63, 64, 65, 127, 128, 256} {
		for d := int64(-12); d <= 12; d++ {
			b := new(big.Int).Lsh(big.NewInt(1), bits)
			b.Add(b, big.NewInt(d))
			for range 3 {
				for _, s := range []string{b.String(), "-" + b.String()} {
					want, e := asked(s)
					if n, got := num.Read(s); n != want || got != e {
						t.Errorf("Read(%q) = %d, %d; want %d, %d", s, n, got, want, e)
					}
				}
				b.Mul(b, ten)
			}
		}
	}
	for _, s := range []string{
		"9223372036854775808", "-9223372036854775809", "9223372036854775810", "10000000000000000000",
		"18446744073709551615", "18446744073709551616", "-18446744073709551616", "99999999999999999999",
		strings.Repeat("9", 100), "-" + strings.Repeat("9", 100), strings.Repeat("0", 100),
		"1" + strings.Repeat("0", 1_000_000), "-1" + strings.Repeat("0", 1_000_000), strings.Repeat("5", 1_000_000) + "x",
	} {
		mustRefuse(t, s)
	}
}

// P1.1, P1: all texts of up to four of the bytes that matter, answered as the document's words say.
func TestReadShortTexts(t *testing.T) {
	bytes := "-+0129 a.\x00\xff/:"
	texts := []string{""}
	for at := 0; len(texts[at]) < 4; at++ {
		for i := range len(bytes) {
			texts = append(texts, texts[at]+bytes[i:i+1])
		}
	}
	for _, s := range texts {
		want, e := asked(s)
		if n, got := num.Read(s); n != want || got != e {
			t.Errorf("Read(%q) = %d, %d; want %d, %d", s, n, got, want, e)
		}
	}
}

// P1.1: each byte, alone, behind a digit, and behind a sign.
func TestReadEachByte(t *testing.T) {
	for b := range 256 {
		for _, ahead := range []string{"", "1", "-", "-1", "0"} {
			s := ahead + string([]byte{byte(b)})
			want, e := asked(s)
			if n, got := num.Read(s); n != want || got != e {
				t.Errorf("Read(%q) = %d, %d; want %d, %d", s, n, got, want, e)
			}
		}
	}
}

// P1.1: a number's text.
func TestWrite(t *testing.T) {
	for n, want := range map[int64]string{
		0: "0", 1: "1", -1: "-1", 9: "9", 10: "10", -10: "-10", 1000000: "1000000", 1234567890: "1234567890",
		most: "9223372036854775807", least + 1: "-9223372036854775807", least: "-9223372036854775808",
	} {
		if s := num.Write(n); s != want {
			t.Errorf("Write(%d) = %q; want %q", n, s, want)
		}
	}
	for _, n := range edges() {
		if s := num.Write(n); s != big.NewInt(n).String() {
			t.Errorf("Write(%d) = %q", n, s)
		}
	}
}

func mustSmall(t *testing.T, s string, atMost, want int, we api.Errno) {
	t.Helper()
	if n, e := num.Small(s, atMost); n != want || e != we {
		t.Errorf("Small(%q, %d) = %d, %d; want %d, %d", s, atMost, n, e, want, we)
	}
}

// P1.2: a number from 0 to most, both among these.
func TestSmall(t *testing.T) {
	mustSmall(t, "12", 12, 12, api.OK)
	mustSmall(t, "12", 11, 0, api.ErrNum)
	mustSmall(t, "12", 13, 12, api.OK)
	for _, atMost := range []int{0, 1, 2, 9, 10, 99, 999, 65535, 999_999, 1_000_000} {
		mustSmall(t, "0", atMost, 0, api.OK)
		mustSmall(t, num.Write(int64(atMost)), atMost, atMost, api.OK)
		mustSmall(t, num.Write(int64(atMost/2)), atMost, atMost/2, api.OK)
		mustSmall(t, num.Write(int64(atMost)+1), atMost, 0, api.ErrNum)
		mustSmall(t, "-1", atMost, 0, api.ErrNum)
	}
}

// P1.2: what is no text of a number, or of one below 0 or above most, is refused, with the number 0.
func TestSmallRefusesTexts(t *testing.T) {
	for _, s := range []string{
		"", "-", "-0", "-1", "+1", "00", "01", "012", " 1", "1 ", "x", "1x", "-12", "1e3", "1000001", "4294967296", "4294967297",
		"9223372036854775807", "9223372036854775808", "18446744073709551616", "18446744073709551617", "-9223372036854775808", "-9223372036854775809", "\u0661",
	} {
		mustSmall(t, s, 1_000_000, 0, api.ErrNum)
		mustSmall(t, s, 0, 0, api.ErrNum)
	}
}

// P1.2, P1: a bound that may not be is told ahead of a text that is none.
func TestSmallRefusesBounds(t *testing.T) {
	for _, atMost := range []int{-1, -2, -1_000_000, math.MinInt, math.MinInt + 1, 1_000_001, math.MaxInt32, math.MaxInt - 1, math.MaxInt} {
		for _, s := range []string{"0", "1", "1000000", "1000001", "-1", "", "x", "01"} {
			mustSmall(t, s, atMost, 0, api.ErrArg)
		}
	}
}

// P1.3: what is written is read.
func TestWrittenIsRead(t *testing.T) {
	for _, n := range edges() {
		mustRead(t, num.Write(n), n)
	}
	for n := int64(-2000); n <= 2000; n++ {
		mustRead(t, num.Write(n), n)
	}
}

// P1.3: what is read is written as just this text.
func TestReadIsWritten(t *testing.T) {
	for _, n := range edges() {
		own := big.NewInt(n).String()
		for _, s := range []string{own, "0" + own, "+" + own, "-" + own, own + "0", own + "9", own + " "} {
			if n, e := num.Read(s); e == api.OK && num.Write(n) != s {
				t.Errorf("%q is read as %d, which is written %q", s, n, num.Write(n))
			}
		}
		mustRead(t, own, n)
	}
}

// P1.3: of two numbers from 0 on the one whose text is longer is greater; of two texts as long, the one that is greater byte by byte.
func TestTextsAreOrderedAsNumbers(t *testing.T) {
	l := edges()
	for n := range int64(121) {
		l = append(l, n)
	}
	for _, a := range l {
		for _, b := range l {
			if a < 0 || b < 0 {
				continue
			}
			s, r := num.Write(a), num.Write(b)
			greater := len(s) > len(r) || len(s) == len(r) && s > r
			if greater != (a > b) {
				t.Errorf("%d and %d stand otherwise than their texts %q and %q", a, b, s, r)
			}
			n, e := num.Read(s)
			k, f := num.Read(r)
			if e != api.OK || f != api.OK || greater != (n > k) {
				t.Errorf("%q and %q stand otherwise than what is read of them, %d and %d", s, r, n, k)
			}
		}
	}
}

// P1.3: with a digit behind its text a number that is not 0 is ten times as much, and that digit; or none, behind the ends.
func TestDigitBehind(t *testing.T) {
	for _, n := range edges() {
		if n == 0 {
			continue
		}
		for d := range int64(10) {
			s := num.Write(n) + num.Write(d)
			b := new(big.Int).Mul(big.NewInt(n), big.NewInt(10))
			if n < 0 {
				b.Sub(b, big.NewInt(d))
			} else {
				b.Add(b, big.NewInt(d))
			}
			if b.IsInt64() {
				mustRead(t, s, b.Int64())
			} else {
				mustRefuse(t, s)
			}
		}
	}
	for d := range int64(10) { // a 0 stands alone
		mustRefuse(t, "0"+num.Write(d))
	}
}

// P1: a text is only read, and a call answers the same again.
func TestAgain(t *testing.T) {
	for _, s := range []string{"-9223372036854775808", "9223372036854775808", "12", "", "-0"} {
		n, e := num.Read(s)
		for range 3 {
			if k, f := num.Read(s); k != n || f != e {
				t.Errorf("Read(%q) = %d, %d, and then %d, %d", s, n, e, k, f)
			}
		}
	}
}
