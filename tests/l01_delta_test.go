package tests

import (
	"math/rand"
	"strings"
	"testing"

	"loop.example/g03315/impl"
)

func TestXorText(t *testing.T) {
	for _, c := range []struct{ a, b, want string }{
		{"", "", ""}, {"a", "", ""}, {"", "ab", "ab"}, {"a", "ab", "\x00b"}, {"ab", "a", "\x00"}, {"abc", "abc", "\x00\x00\x00"},
		{"\xff\x0f", "\x0f\xff", "\xf0\xf0"}, {"\x01\x02\x03", "\x04\x05", "\x05\x07"}, {"\xc3", "\xc3\xa9", "\x00\xa9"},
	} {
		if got := impl.XorText(c.a, c.b); got != c.want {
			t.Errorf("XorText(%q, %q) = %q; want %q", c.a, c.b, got, c.want)
		}
	}
	for x := range 256 {
		a := strings.Repeat(string([]byte{byte(x)}), 256)
		got := impl.XorText(a, allBytes())
		for y := range 256 {
			if got[y] != byte(x^y) {
				t.Errorf("XorText of the bytes %d and %d = %d", x, y, got[y])
			}
		}
	}
}

// plainZeros finds the runs byte by byte.
func plainZeros(s string) string {
	out := ""
	for s != "" {
		others := strings.TrimLeft(s, "\x00")
		zeros := len(s) - len(others)
		end := strings.IndexByte(others, 0)
		if end < 0 {
			end = len(others)
		}
		out += impl.EncodeVarint(zeros) + impl.EncodeVarint(end) + others[:end]
		s = others[end:]
	}
	return out
}

// zeroTexts are texts in which a run ends within, before and behind characters of several bytes,
// and with bytes that are part of no character.
func zeroTexts() []string {
	texts := textsOver("\x00\x01\xc3\xa9", 6)
	texts = append(texts,
		"\x00é\x00", "é\x00é", "\xe2\x82\x00", "\xe2\x00\x82", "\xe2\x82\xac\x00\xe2\x82\xac", "\xc0\x80\x00", "\xf0\x9f\x98\x80\x00\x00\xf0", "\xff\x00\xfe",
		"\xef\xbf\xbd\x00\x00\xef\xbf\xbd", allBytes(), allBytes()+allBytes())
	for _, n := range []int{127, 128, 129, 16383, 16384} {
		zeros, others := strings.Repeat("\x00", n), strings.Repeat("x", n)
		texts = append(texts, zeros, others)
		if 2*n+2 <= impl.MaxBytes {
			texts = append(texts, zeros+others, others+zeros, "x"+zeros+"x", "\x00"+others+"\x00")
		}
	}
	return texts
}

func TestPackZeros(t *testing.T) {
	for s, want := range map[string]string{
		"": "", "\x00": "\x01\x00", "a": "\x00\x01a", "\x00\x00a": "\x02\x01a", "a\x00": "\x00\x01a\x01\x00", "\x00\x00\x00": "\x03\x00",
		"ab\x00c": "\x00\x02ab\x01\x01c", "\x00a\x00\x00bc\x00": "\x01\x01a\x02\x02bc\x01\x00",
	} {
		if got := impl.PackZeros(s); got != want {
			t.Errorf("PackZeros(%q) = %q; want %q", s, got, want)
		}
	}
	for _, s := range zeroTexts() {
		packed := impl.PackZeros(s)
		if want := plainZeros(s); packed != want {
			t.Errorf("PackZeros(%.20q) = %.20q; want %.20q", s, packed, want)
		}
		if got, ok := impl.UnpackZeros(packed); got != s || !ok {
			t.Errorf("UnpackZeros(%.20q) = %.20q, %v; want %.20q", packed, got, ok, s)
		}
	}
}

func TestUnpackZerosRejects(t *testing.T) {
	for _, s := range []string{
		"\x01", "\x00", "\x02\x02a", "\x01\x01", "\x01\x00\x01", // no end
		"\x00\x00", "\x00\x00\x01\x00", "\x01\x01a\x00\x00", // both runs empty
		"\x00\x01a\x00\x01b", "\x01\x01a\x00\x01b", // no zeros between two runs
		"\x01\x00\x01\x00", "\x01\x00\x01\x01a", // nothing between zeros
		"\x00\x01\x00", "\x00\x02a\x00", "\x01\x03a\x00b", // a zero among the others
		"\x80\x00\x01a", "\x01\x81\x00a", "\x82\x00\x00", // longer than needed
		"\xff\xff\xff\xff\xff\x1f\x00", "\x00\xff\xff\xff\xff\xff\x1f", "\x80\x80\x80\x80\x80\x20\x00", "\x80", "a",
	} {
		if got, ok := impl.UnpackZeros(s); got != "" || ok {
			t.Errorf("UnpackZeros(%q) = %q, %v", s, got, ok)
		}
	}
}

func TestUnpackZerosFindsWhatPackZerosGives(t *testing.T) {
	packed := map[string]string{}
	for _, s := range textsOver("\x00\x01\x02", 9) {
		packed[impl.PackZeros(s)] = s
	}
	for _, s := range textsOver("\x00\x01\x02", 8) {
		want, found := packed[s]
		if got, ok := impl.UnpackZeros(s); got != want || ok != found {
			t.Errorf("UnpackZeros(%q) = %q, %v; want %q, %v", s, got, ok, want, found)
		}
	}
}

// textsOfLength are texts of a length, all zeros, none, and both.
func textsOfLength(n int) []string {
	zeros, others := strings.Repeat("\x00", n), strings.Repeat("x", n)
	return []string{zeros, others, zeros[1:] + "x", others[1:] + "\x00", zeros[n/2:] + others[:n/2], "x" + zeros[2:] + "x", "\x00x" + zeros[2:]}
}

func TestUnpackZerosKeepsToTheLimit(t *testing.T) {
	for _, s := range textsOfLength(impl.MaxBytes) {
		if got, ok := impl.UnpackZeros(impl.PackZeros(s)); got != s || !ok {
			t.Errorf("UnpackZeros does not give back %d bytes %.5q: %v", len(s), s, ok)
		}
	}
	for _, n := range []int{impl.MaxBytes + 1, impl.MaxBytes + 2, 3 * impl.MaxBytes} {
		for _, s := range textsOfLength(n) {
			if got, ok := impl.UnpackZeros(impl.PackZeros(s)); got != "" || ok {
				t.Errorf("UnpackZeros gives %d bytes %.5q of %d, %v", len(got), got, n, ok)
			}
		}
	}
}

func TestDeltaText(t *testing.T) {
	for _, c := range []struct{ base, next, delta string }{
		{"abc", "accd", "\x04\x01\x01\x01\x01\x01d"}, {"", "", "\x00"}, {"abc", "", "\x00"}, {"", "ab", "\x02\x00\x02ab"}, {"abc", "abc", "\x03\x03\x00"},
		{"abc", "ab", "\x02\x02\x00"}, {"ab", "abc", "\x03\x02\x01c"}, {"", "\x00\x00", "\x02\x02\x00"}, {"a", "b\x00", "\x02\x00\x01\x03\x01\x00"},
	} {
		if got := impl.DeltaText(c.base, c.next); got != c.delta {
			t.Errorf("DeltaText(%q, %q) = %q; want %q", c.base, c.next, got, c.delta)
		}
		if got, ok := impl.ApplyDelta(c.base, c.delta); got != c.next || !ok {
			t.Errorf("ApplyDelta(%q, %q) = %q, %v", c.base, c.delta, got, ok)
		}
	}
}

func TestDeltasGiveBackTexts(t *testing.T) {
	r := rand.New(rand.NewSource(1))
	for range 3000 {
		base := randomText(r, "\x00\x01\xc3\xa9a", r.Intn(12))
		next := randomText(r, "\x00\x01\xc3\xa9a", r.Intn(12))
		delta := impl.DeltaText(base, next)
		if want := impl.EncodeVarint(len(next)) + plainZeros(impl.XorText(base, next)); delta != want {
			t.Errorf("DeltaText(%q, %q) = %q; want %q", base, next, delta, want)
		}
		if got, ok := impl.ApplyDelta(base, delta); got != next || !ok {
			t.Errorf("ApplyDelta(%q, %q) = %q, %v; want %q", base, delta, got, ok, next)
		}
		checkChangedDelta(t, r, base, delta)
	}
}

// checkChangedDelta accepts a changed delta only if it is the delta of another text.
func checkChangedDelta(t *testing.T, r *rand.Rand, base, delta string) {
	b := []byte(delta)
	b[r.Intn(len(b))] ^= byte(1 + r.Intn(255))
	for _, changed := range []string{string(b), delta[:len(delta)-1], delta + "\x00", delta[1:]} {
		got, ok := impl.ApplyDelta(base, changed)
		if ok && impl.DeltaText(base, got) != changed || !ok && got != "" {
			t.Errorf("ApplyDelta(%q, %q) = %q, %v", base, changed, got, ok)
		}
	}
}

func TestApplyDeltaRejects(t *testing.T) {
	for _, delta := range []string{
		"", "\x80", "\x80\x00", "\x01", "\x00\x01\x00", "\x00\x00\x00", "\x02\x01\x00", "\x01\x02\x00", "\x03\x00\x02ab", "\x01\x00\x02ab",
		"\x83\x00\x03\x00", "\x03\x03\x00\x00", "\x02\x01\x00\x01\x00", "\x02\x00\x01a\x00\x01b", "\xff\xff\xff\xff\xff\x1f\xff\xff\xff\xff\xff\x1f\x00",
	} {
		for _, base := range []string{"", "abc", "\x00\x00\x00\x00"} {
			if got, ok := impl.ApplyDelta(base, delta); got != "" || ok {
				t.Errorf("ApplyDelta(%q, %q) = %q, %v", base, delta, got, ok)
			}
		}
	}
}

func TestApplyDeltaKeepsToTheLimit(t *testing.T) {
	bases := []string{"", "abc", strings.Repeat("x", impl.MaxBytes), strings.Repeat("x", impl.MaxBytes+5)}
	for _, base := range bases {
		for _, next := range textsOfLength(impl.MaxBytes) {
			if got, ok := impl.ApplyDelta(base, impl.DeltaText(base, next)); got != next || !ok {
				t.Errorf("ApplyDelta does not give back %d bytes %.5q: %v", len(next), next, ok)
			}
		}
		for _, next := range textsOfLength(impl.MaxBytes + 1) {
			if got, ok := impl.ApplyDelta(base, impl.DeltaText(base, next)); got != "" || ok {
				t.Errorf("ApplyDelta gives %d bytes %.5q, %v", len(got), got, ok)
			}
		}
	}
}
