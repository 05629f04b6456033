package tests

import (
	"math"
	"math/rand"
	"slices"
	"strings"
	"testing"

	"loop.example/g03315/impl"
)

const (
	leastSigned    = -549755813888
	greatestSigned = 549755813887
)

// beyond are the indexes that refer to no byte of a string of the given length.
func beyond(length int) []int {
	return []int{-1, -length - 1, math.MinInt, length, length + 1, math.MaxInt}
}

// textsOver are all strings of at most the given length over the letters.
func textsOver(letters string, length int) []string {
	texts := []string{""}
	for from := 0; length > 0; length-- {
		to := len(texts)
		for _, t := range texts[from:to] {
			for i := range len(letters) {
				texts = append(texts, t+letters[i:i+1])
			}
		}
		from = to
	}
	return texts
}

func randomText(r *rand.Rand, letters string, length int) string {
	b := make([]byte, length)
	for i := range b {
		b[i] = letters[r.Intn(len(letters))]
	}
	return string(b)
}

// varints are numbers with their bytes, at each change of the length and at the limit.
var varints = []struct {
	n    int
	text string
}{
	{0, "\x00"}, {1, "\x01"}, {127, "\x7f"}, {128, "\x80\x01"}, {129, "\x81\x01"}, {255, "\xff\x01"}, {256, "\x80\x02"}, {300, "\xac\x02"},
	{16383, "\xff\x7f"}, {16384, "\x80\x80\x01"}, {2097151, "\xff\xff\x7f"}, {2097152, "\x80\x80\x80\x01"},
	{268435455, "\xff\xff\xff\x7f"}, {268435456, "\x80\x80\x80\x80\x01"},
	{34359738367, "\xff\xff\xff\xff\x7f"}, {34359738368, "\x80\x80\x80\x80\x80\x01"},
	{impl.MaxVarint - 1, "\xfe\xff\xff\xff\xff\x1f"}, {impl.MaxVarint, "\xff\xff\xff\xff\xff\x1f"},
}

func TestVarints(t *testing.T) {
	for _, c := range varints {
		if got := impl.EncodeVarint(c.n); got != c.text {
			t.Errorf("EncodeVarint(%d) = %q; want %q", c.n, got, c.text)
		}
		for _, before := range []string{"", "\x00", "\xff\xff"} {
			for _, behind := range []string{"", "\x00", "\x80", "abc"} {
				n, size, ok := impl.DecodeVarint(before+c.text+behind, len(before))
				if n != c.n || size != len(c.text) || !ok {
					t.Errorf("DecodeVarint of %q = %d, %d, %v", before+c.text+behind, n, size, ok)
				}
			}
		}
	}
	for n := range 70000 {
		text := impl.EncodeVarint(n)
		if got, size, ok := impl.DecodeVarint(text, 0); got != n || size != len(text) || !ok {
			t.Fatalf("DecodeVarint of %d = %d, %d, %v", n, got, size, ok)
		}
	}
}

func TestVarintsRejected(t *testing.T) {
	for _, n := range []int{-1, -128, impl.MaxVarint + 1, impl.MaxVarint + 2, math.MaxInt, math.MinInt} {
		if got := impl.EncodeVarint(n); got != "" {
			t.Errorf("EncodeVarint(%d) = %q", n, got)
		}
	}
	for _, s := range []string{
		"\x80", "\xff\xff", "\xff\xff\xff\xff\xff", "\xff\xff\xff\xff\xff\xff", // no last byte
		"\x80\x00", "\xff\x00", "\x80\x80\x00", "\x81\x80\x80\x80\x80\x00", // longer than needed
		"\x80\x80\x80\x80\x80\x20", "\xff\xff\xff\xff\xff\x3f", "\xff\xff\xff\xff\xff\x7f", // more than MaxVarint
		"\x80\x80\x80\x80\x80\x80\x01", "\xff\xff\xff\xff\xff\x9f\x00", "\x80\x80\x80\x80\x80\x80\x80\x80\x80\x01",
	} {
		if n, size, ok := impl.DecodeVarint(s, 0); n != 0 || size != 0 || ok {
			t.Errorf("DecodeVarint(%q) = %d, %d, %v", s, n, size, ok)
		}
		if n, size, ok := impl.DecodeVarint("\x05"+s, 1); n != 0 || size != 0 || ok {
			t.Errorf("DecodeVarint(%q) at 1 = %d, %d, %v", s, n, size, ok)
		}
	}
	for _, s := range []string{"", "\x01", "\x01\x02\x03"} {
		for _, at := range beyond(len(s)) {
			if n, size, ok := impl.DecodeVarint(s, at); n != 0 || size != 0 || ok {
				t.Errorf("DecodeVarint(%q, %d) = %d, %d, %v", s, at, n, size, ok)
			}
		}
	}
}

func TestDecodeVarintFindsWhatEncodeVarintGives(t *testing.T) {
	prefixes := map[string]int{}
	for n := range 1 << 21 {
		prefixes[impl.EncodeVarint(n)] = n
	}
	for _, s := range textsOver("\x00\x01\x7f\x80\x81\xff", 3) {
		want, wantSize, found := 0, 0, false
		for size := 1; size <= len(s); size++ {
			if n, ok := prefixes[s[:size]]; ok {
				want, wantSize, found = n, size, true
			}
		}
		if n, size, ok := impl.DecodeVarint(s, 0); n != want || size != wantSize || ok != found {
			t.Errorf("DecodeVarint(%q) = %d, %d, %v; want %d, %d, %v", s, n, size, ok, want, wantSize, found)
		}
	}
}

func TestSignless(t *testing.T) {
	for _, c := range []struct{ n, code int }{
		{0, 0}, {-1, 1}, {1, 2}, {-2, 3}, {2, 4}, {-3, 5}, {300, 600}, {-300, 599},
		{greatestSigned, impl.MaxVarint - 1}, {leastSigned, impl.MaxVarint}, {greatestSigned - 1, impl.MaxVarint - 3}, {leastSigned + 1, impl.MaxVarint - 2},
	} {
		if got := impl.Signless(c.n); got != c.code {
			t.Errorf("Signless(%d) = %d; want %d", c.n, got, c.code)
		}
		if got := impl.Signed(c.code); got != c.n {
			t.Errorf("Signed(%d) = %d; want %d", c.code, got, c.n)
		}
	}
	for n := -1000; n <= 1000; n++ {
		if got := impl.Signed(impl.Signless(n)); got != n {
			t.Errorf("Signed of Signless(%d) = %d", n, got)
		}
	}
	for _, n := range []int{greatestSigned + 1, leastSigned - 1, math.MaxInt, math.MinInt} {
		if got := impl.Signless(n); got != -1 {
			t.Errorf("Signless(%d) = %d", n, got)
		}
	}
	for _, n := range []int{-1, -2, -5, impl.MaxVarint + 1, impl.MaxVarint + 2, math.MaxInt, math.MinInt} {
		if got := impl.Signed(n); got != 0 {
			t.Errorf("Signed(%d) = %d", n, got)
		}
	}
}

// lists are lists with their bytes.
var lists = []struct {
	list []int
	text string
}{
	{nil, "\x00"}, {[]int{0}, "\x01\x00"}, {[]int{-1, 300}, "\x02\x01\xd8\x04"}, {[]int{1, -1, 2, -2}, "\x04\x02\x01\x04\x03"},
	{[]int{63, -64, 64, -65}, "\x04\x7e\x7f\x80\x01\x81\x01"},
	{[]int{greatestSigned, leastSigned}, "\x02\xfe\xff\xff\xff\xff\x1f\xff\xff\xff\xff\xff\x1f"},
	{make([]int, 127), "\x7f" + strings.Repeat("\x00", 127)}, {make([]int, 128), "\x80\x01" + strings.Repeat("\x00", 128)},
}

func TestPackInts(t *testing.T) {
	for _, c := range lists {
		if got := impl.PackInts(c.list); got != c.text {
			t.Errorf("PackInts(%v) = %q; want %q", c.list, got, c.text)
		}
	}
	for _, n := range []int{greatestSigned + 1, leastSigned - 1, math.MaxInt, math.MinInt} {
		for _, list := range [][]int{{n}, {n, 1}, {1, n}, {1, n, 2}} {
			if got := impl.PackInts(list); got != "" {
				t.Errorf("PackInts(%v) = %q", list, got)
			}
		}
	}
}

func TestUnpackInts(t *testing.T) {
	for _, c := range lists {
		for _, before := range []string{"", "\x00", "\xff\xff"} {
			for _, behind := range []string{"", "\x00", "\x80", "abc"} {
				list, size, ok := impl.UnpackInts(before+c.text+behind, len(before))
				if !slices.Equal(list, c.list) || size != len(c.text) || !ok {
					t.Errorf("UnpackInts of %q = %v, %d, %v", before+c.text+behind, list, size, ok)
				}
			}
		}
		for end := range len(c.text) {
			if list, size, ok := impl.UnpackInts(c.text[:end], 0); len(list) != 0 || size != 0 || ok {
				t.Errorf("UnpackInts(%q) = %v, %d, %v", c.text[:end], list, size, ok)
			}
		}
		for _, at := range beyond(len(c.text)) {
			if list, size, ok := impl.UnpackInts(c.text, at); len(list) != 0 || size != 0 || ok {
				t.Errorf("UnpackInts(%q, %d) = %v, %d, %v", c.text, at, list, size, ok)
			}
		}
	}
}

func TestUnpackIntsRejects(t *testing.T) {
	for _, s := range []string{
		"", "\x80\x00", "\x81\x00\x00", "\x01\x80\x00", "\x02\x00\x80\x00", "\x01\x80", "\x03\x00\x00", "\x02\x00\x82\x80\x00",
		"\x01\x80\x80\x80\x80\x80\x20", "\x01\xff\xff\xff\xff\xff\xff\x01", "\xff\xff\xff\xff\xff\x1f", "\xff\xff\xff\xff\xff\x1f\x00\x00",
		"\xff\xff\xff\xff\x7f" + strings.Repeat("\x00", 1000),
	} {
		if list, size, ok := impl.UnpackInts(s, 0); len(list) != 0 || size != 0 || ok {
			t.Errorf("UnpackInts(%.20q) = %v, %d, %v", s, list, size, ok)
		}
	}
}

func TestLongListsAndTexts(t *testing.T) {
	list := make([]int, 50000)
	for i := range list {
		list[i] = (i - 25000) * 20000000
	}
	packed := impl.PackInts(list)
	if got, size, ok := impl.UnpackInts("xy"+packed+"z", 2); !slices.Equal(got, list) || size != len(packed) || !ok {
		t.Error("a long list is not read from its bytes", len(got), size, ok)
	}
	text := strings.Repeat("a\x00\xff", 100000)
	packed = impl.PackText(text)
	if got, size, ok := impl.UnpackText("xy"+packed+"z", 2); got != text || size != len(packed) || !ok {
		t.Error("a long text is not read from its bytes", len(got), size, ok)
	}
}

func TestPackIntsKeepsItsArgument(t *testing.T) {
	full := []int{1, 2, 3, 4, 5, 6}
	packed := impl.PackInts(full[:3])
	if !slices.Equal(full, []int{1, 2, 3, 4, 5, 6}) {
		t.Error("PackInts changed its argument or what is behind it", full)
	}
	a, _, _ := impl.UnpackInts(packed, 0)
	b, _, _ := impl.UnpackInts(packed, 0)
	a[0] = 77
	if !slices.Equal(b, []int{1, 2, 3}) {
		t.Error("two results share memory", b)
	}
}

func TestPackText(t *testing.T) {
	for _, c := range []struct{ s, text string }{
		{"", "\x00"}, {"x", "\x01x"}, {"ab", "\x02ab"}, {"\x00", "\x01\x00"}, {"é", "\x02\xc3\xa9"},
		{strings.Repeat("y", 127), "\x7f" + strings.Repeat("y", 127)}, {strings.Repeat("y", 128), "\x80\x01" + strings.Repeat("y", 128)},
		{strings.Repeat("z", 20001), "\xa1\x9c\x01" + strings.Repeat("z", 20001)},
	} {
		if got := impl.PackText(c.s); got != c.text {
			t.Errorf("PackText(%.20q) = %.20q", c.s, got)
		}
		for _, before := range []string{"", "\x00", "\xff\xff"} {
			for _, behind := range []string{"", "\x00", "abc"} {
				s, size, ok := impl.UnpackText(before+c.text+behind, len(before))
				if s != c.s || size != len(c.text) || !ok {
					t.Errorf("UnpackText of %.20q = %.20q, %d, %v", before+c.text+behind, s, size, ok)
				}
			}
		}
		for _, at := range beyond(len(c.text)) {
			if s, size, ok := impl.UnpackText(c.text, at); s != "" || size != 0 || ok {
				t.Errorf("UnpackText(%.20q, %d) = %q, %d, %v", c.text, at, s, size, ok)
			}
		}
	}
	for _, s := range []string{
		"", "\x01", "\x02a", "\x03ab", "\x80\x00", "\x81\x00a", "\x80", "\x80\x01" + strings.Repeat("a", 127),
		"\xff\xff\xff\xff\xff\x1f", "\xff\xff\xff\xff\xff\x1fabc", "\x80\x80\x80\x80\x80\x20abc",
	} {
		if got, size, ok := impl.UnpackText(s, 0); got != "" || size != 0 || ok {
			t.Errorf("UnpackText(%.20q) = %q, %d, %v", s, got, size, ok)
		}
	}
}

func plainChecksum(s string) int {
	a, b := 0, 0
	for i := range len(s) {
		a += int(s[i])
		b += int(s[i]) * (i + 1)
	}
	return a%65521 + 65536*(b%65521)
}

func TestChecksum(t *testing.T) {
	zeroSum := strings.Repeat("\xff", 256) + "\xf1" // 65521
	for s, want := range map[string]int{"": 0, "\x00\x00": 0, "a": 97 + 65536*97, "ab": 195 + 65536*293, "ba": 195 + 65536*292, "\x00\x01": 1 + 65536*2} {
		if got := impl.Checksum(s); got != want {
			t.Errorf("Checksum(%q) = %d; want %d", s, got, want)
		}
	}
	for _, s := range []string{allBytes(), zeroSum, zeroSum + "\x01", strings.Repeat("\xff", 257), strings.Repeat("\xff", 100000), strings.Repeat("az\x00", 40000)} {
		if got, want := impl.Checksum(s), plainChecksum(s); got != want {
			t.Errorf("Checksum(%.20q) = %d; want %d", s, got, want)
		}
	}
}

func TestSealText(t *testing.T) {
	for s, want := range map[string]string{
		"": "\x00\x00\x00\x00", "a": "\x61\x00\x61\x00a", "ab": "\xc3\x00\x25\x01ab", "\xff\xff\xff": "\xfd\x02\xfa\x05\xff\xff\xff",
		strings.Repeat("\xff", 257): "\x0e\x00\x0e\x07" + strings.Repeat("\xff", 257),
	} {
		if got := impl.SealText(s); got != want {
			t.Errorf("SealText(%.20q) = %.20q; want %.20q", s, got, want)
		}
		if got, ok := impl.OpenText(want); got != s || !ok {
			t.Errorf("OpenText(%.20q) = %.20q, %v", want, got, ok)
		}
	}
	for _, s := range []string{"", "a", "\x00", "\x00\x00\x00", "abc", "\x00\x00\x00\x00a", "\x61\x00\x61\x00", "\x61\x00\x61\x00b", "\x00\x61\x00\x61a", "\xc3\x00\x25\x01ba"} {
		if got, ok := impl.OpenText(s); got != "" || ok {
			t.Errorf("OpenText(%q) = %q, %v", s, got, ok)
		}
	}
}

func TestChangedSealsDoNotOpen(t *testing.T) {
	for _, s := range []string{"", "a", "\x00\x00", "hello", allBytes()} {
		sealed := impl.SealText(s)
		for at := range len(sealed) {
			for change := 1; change < 256; change++ {
				b := []byte(sealed)
				b[at] ^= byte(change)
				if got, ok := impl.OpenText(string(b)); got != "" || ok {
					t.Errorf("with the byte %d changed by %d, the seal of %.20q opens: %.20q", at, change, s, got)
				}
			}
		}
	}
}

func TestNextRandom(t *testing.T) {
	for state := range 65536 {
		if got, want := impl.NextRandom(state), (state*25173+13849)%65536; got != want {
			t.Fatalf("NextRandom(%d) = %d; want %d", state, got, want)
		}
	}
	for _, state := range []int{-1, 65536, 65537, math.MaxInt, math.MinInt} {
		if got := impl.NextRandom(state); got != 0 {
			t.Errorf("NextRandom(%d) = %d", state, got)
		}
	}
}

func TestRandomBelow(t *testing.T) {
	for _, n := range []int{1, 2, 3, 100, 255, 4095, 4096} {
		for state := range 65536 {
			next, number := impl.RandomBelow(state, n)
			want := (state*25173 + 13849) % 65536
			if next != want || number != want/16%n {
				t.Fatalf("RandomBelow(%d, %d) = %d, %d", state, n, next, number)
			}
		}
	}
	for _, c := range []struct{ state, n int }{
		{-1, 100}, {65536, 100}, {math.MaxInt, 100}, {math.MinInt, 100}, {1, 0}, {1, -1}, {1, 4097}, {1, math.MaxInt}, {1, math.MinInt}, {-1, 0},
	} {
		if next, number := impl.RandomBelow(c.state, c.n); next != 0 || number != 0 {
			t.Errorf("RandomBelow(%d, %d) = %d, %d", c.state, c.n, next, number)
		}
	}
}
