package tests

import (
	"fmt"
	"math"
	"slices"
	"strconv"
	"strings"
	"testing"

	"loop.example/g03315/impl"
)

func TestLimitsOfText(t *testing.T) {
	got := []int{impl.MaxInputLen, impl.MaxUint, impl.MaxLineLen, impl.MaxFieldsPerLine, impl.MaxVarint, impl.MaxBytes}
	if want := []int{20000, 1000000000, 600, 24, 1099511627775, 20000}; !slices.Equal(got, want) {
		t.Errorf("the limits are %v; want %v", got, want)
	}
}

// allBytes contains every byte once, in order.
func allBytes() string {
	var b [256]byte
	for i := range b {
		b[i] = byte(i)
	}
	return string(b[:])
}

func TestEncodeHex(t *testing.T) {
	for _, s := range []string{"", "a", "az", "\x00", "\xff\x00", "\x0f\xf0", "é", allBytes(), strings.Repeat("\xfe", impl.MaxInputLen)} {
		got, ok := impl.EncodeHex(s)
		if want := fmt.Sprintf("%x", s); got != want || !ok {
			t.Errorf("EncodeHex(%.20q) = %.20q, %v; want %.20q", s, got, ok, want)
		}
	}
	for _, n := range []int{impl.MaxInputLen + 1, 2*impl.MaxInputLen + 2} {
		if got, ok := impl.EncodeHex(strings.Repeat("a", n)); got != "" || ok {
			t.Errorf("EncodeHex of %d bytes = %.20q, %v", n, got, ok)
		}
	}
}

func TestDecodeHex(t *testing.T) {
	for _, s := range []string{"", "a", "az", "\x00", allBytes(), strings.Repeat("\xfe", impl.MaxInputLen)} {
		got, ok := impl.DecodeHex(fmt.Sprintf("%x", s))
		if got != s || !ok {
			t.Errorf("DecodeHex of the digits of %.20q = %.20q, %v", s, got, ok)
		}
	}
	for _, s := range []string{"6", "617", "6A", "A6", "0x61", "6 ", " 6", "61 ", "61\n", "6g", "zz", "-1", "+1", "é", "\xff\xff", "\x00\x00"} {
		if got, ok := impl.DecodeHex(s); got != "" || ok {
			t.Errorf("DecodeHex(%q) = %q, %v", s, got, ok)
		}
	}
	for _, n := range []int{2*impl.MaxInputLen - 1, 2*impl.MaxInputLen + 1, 2*impl.MaxInputLen + 2} {
		if got, ok := impl.DecodeHex(strings.Repeat("0", n)); got != "" || ok {
			t.Errorf("DecodeHex of %d digits = %.20q, %v", n, got, ok)
		}
	}
}

func TestDecodeHexTakesOnlyLowercaseDigits(t *testing.T) {
	for b := range 256 {
		c := string([]byte{byte(b)})
		digit := strings.Index("0123456789abcdef", c)
		for _, place := range []struct {
			text string
			want string
		}{{c + "1", string([]byte{byte(16*digit + 1)})}, {"1" + c, string([]byte{byte(16 + digit)})}} {
			want := place.want
			if digit < 0 {
				want = ""
			}
			if got, ok := impl.DecodeHex(place.text); got != want || ok != (digit >= 0) {
				t.Errorf("DecodeHex(%q) = %q, %v", place.text, got, ok)
			}
		}
	}
}

func TestFormatInt(t *testing.T) {
	for n, want := range map[int]string{0: "0", 7: "7", 10: "10", -1: "-1", -30: "-30", 1000000000: "1000000000", math.MaxInt: "9223372036854775807", math.MinInt: "-9223372036854775808"} {
		if got := impl.FormatInt(n); got != want {
			t.Errorf("FormatInt(%d) = %q", n, got)
		}
	}
}

func TestParseUint(t *testing.T) {
	numbers := []int{0, 1, 9, 10, 99, 100, 120, 65536, 123456789, impl.MaxUint - 1, impl.MaxUint}
	for n := range 2000 {
		numbers = append(numbers, n)
	}
	for _, n := range numbers {
		if got, ok := impl.ParseUint(strconv.Itoa(n)); got != n || !ok {
			t.Errorf("ParseUint of %d = %d, %v", n, got, ok)
		}
	}
	for _, s := range []string{
		"", "01", "00", "007", "+1", "+0", "-0", "-1", "-1000", " 1", "1 ", "1\n", "1_000", "0x1", "1.0", "1e3", "a", "12a",
		"1000000001", "2000000000", "9999999999", "9223372036854775808", "18446744073709551617", strings.Repeat("9", 500),
		"\xd9\xa1", "\x00", "0\x00", "01000000000",
	} {
		if got, ok := impl.ParseUint(s); got != 0 || ok {
			t.Errorf("ParseUint(%q) = %d, %v", s, got, ok)
		}
	}
}

func TestSplitFields(t *testing.T) {
	for line, want := range map[string][]string{
		"":                        nil,
		" ":                       nil,
		strings.Repeat(" ", 600):  nil,
		"a":                       {"a"},
		" a":                      {"a"},
		"a ":                      {"a"},
		"  send 12  x ":           {"send", "12", "x"},
		"a b c":                   {"a", "b", "c"},
		"! ~ \"#\"":               {"!", "~", "\"#\""},
		strings.Repeat("x", 600):  {strings.Repeat("x", 600)},
		strings.Repeat("x ", 24):  strings.Fields(strings.Repeat("x ", 24)),
		strings.Repeat("  yy", 3): {"yy", "yy", "yy"},
	} {
		got, ok := impl.SplitFields(line)
		if !slices.Equal(got, want) || !ok {
			t.Errorf("SplitFields(%.30q) = %.30q, %v", line, got, ok)
		}
	}
}

func TestSplitFieldsRejects(t *testing.T) {
	for _, line := range []string{
		strings.Repeat("x", 601), strings.Repeat(" ", 601), "a" + strings.Repeat(" ", 600),
		strings.Repeat("x ", 25), strings.Repeat("x ", 24) + "x", " " + strings.Repeat("x  ", 25),
		"\ta", "a\t", "a\tb", "a\n", "\ra", "a b \x7f", "\x1f", "\x00", "é", "a \xff", "\x80 b",
		strings.Repeat("x ", 24) + "\n", strings.Repeat("x", 599) + "\x1f",
	} {
		if got, ok := impl.SplitFields(line); len(got) != 0 || ok {
			t.Errorf("SplitFields(%.30q) = %.30q, %v", line, got, ok)
		}
	}
}

func TestSplitFieldsOfEachByte(t *testing.T) {
	for b := range 256 {
		c := string([]byte{byte(b)})
		want := []string{"u", c, "v"}
		if c == " " {
			want = []string{"u", "v"}
		}
		valid := b >= 32 && b <= 126
		if !valid {
			want = nil
		}
		if got, ok := impl.SplitFields("u " + c + " v"); !slices.Equal(got, want) || ok != valid {
			t.Errorf("SplitFields with the byte %d = %q, %v", b, got, ok)
		}
	}
}

func TestClamp(t *testing.T) {
	for _, c := range []struct{ n, low, high, want int }{
		{9, 1, 5, 5}, {5, 1, 5, 5}, {4, 1, 5, 4}, {1, 1, 5, 1}, {0, 1, 5, 1}, {6, 1, 5, 5},
		{-7, -5, -1, -5}, {-3, -5, -1, -3}, {0, -5, -1, -1}, {3, 2, 2, 2}, {1, 2, 2, 2}, {2, 2, 2, 2},
		{0, 5, 1, 5}, {3, 5, 1, 5}, {9, 5, 1, 5}, {5, 5, 4, 5}, {0, 0, -1, 0}, {-9, 0, -1, 0},
		{math.MaxInt, math.MinInt, 0, 0}, {math.MinInt, 0, math.MaxInt, 0}, {math.MinInt, math.MinInt, math.MaxInt, math.MinInt},
		{7, math.MaxInt, math.MinInt, math.MaxInt},
	} {
		if got := impl.Clamp(c.n, c.low, c.high); got != c.want {
			t.Errorf("Clamp(%d, %d, %d) = %d; want %d", c.n, c.low, c.high, got, c.want)
		}
	}
}

func TestClampIsInTheRange(t *testing.T) {
	for low := -3; low <= 3; low++ {
		for high := low; high <= 3; high++ {
			for n := -5; n <= 5; n++ {
				if got := impl.Clamp(n, low, high); got != max(low, min(n, high)) {
					t.Errorf("Clamp(%d, %d, %d) = %d", n, low, high, got)
				}
			}
		}
	}
}
