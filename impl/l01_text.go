package impl

import (
	"strconv"
	"strings"
)

const (
	MaxInputLen      = 20000
	MaxUint          = 1000000000
	MaxLineLen       = 600
	MaxFieldsPerLine = 24
	MaxVarint        = 1099511627775
	MaxBytes         = 20000
)

const (
	hexDigits   = "0123456789abcdef"
	varintBytes = 6
	minSigned   = -(MaxVarint + 1) / 2
	maxSigned   = MaxVarint / 2
	sumModulus  = 65521
	sealSize    = 4
	maxState    = 65535
	maxBelow    = 4096
)

// EncodeHex returns the lowercase hexadecimal encoding of s, two digits per byte with the high
// half first, and true. It returns "" and false if s is longer than MaxInputLen bytes. Example:
// EncodeHex("az") returns "617a" and true.
func EncodeHex(s string) (string, bool) {
	if len(s) > MaxInputLen {
		return "", false
	}
	out := make([]byte, 0, 2*len(s))
	for i := range len(s) {
		out = append(out, hexDigits[s[i]/16], hexDigits[s[i]%16])
	}
	return string(out), true
}

// DecodeHex returns the string t for which EncodeHex(t) is s, and true. It returns "" and false
// if there is no such string (an odd length, a character other than 0-9 and a-f, or a result
// longer than MaxInputLen).
func DecodeHex(s string) (string, bool) {
	if len(s)%2 != 0 || len(s)/2 > MaxInputLen {
		return "", false
	}
	out := make([]byte, 0, len(s)/2)
	for i := 0; i < len(s); i += 2 {
		high := strings.IndexByte(hexDigits, s[i])
		low := strings.IndexByte(hexDigits, s[i+1])
		if high < 0 || low < 0 {
			return "", false
		}
		out = append(out, byte(16*high+low))
	}
	return string(out), true
}

// FormatInt returns n in decimal without leading zeros, with a leading `-` for a negative number.
// It is defined for every int; FormatInt(0) is "0".
func FormatInt(n int) string { return strconv.Itoa(n) }

// ParseUint returns the number n in the range 0 to MaxUint for which FormatInt(n) is s, and true.
// It returns 0 and false if there is none. Example: ParseUint("01") returns 0 and false.
func ParseUint(s string) (int, bool) {
	n, err := strconv.Atoi(s)
	if err != nil || n < 0 || n > MaxUint {
		return 0, false
	}
	// Atoi also takes a plus sign, a minus sign before 0 and leading zeros.
	if FormatInt(n) != s {
		return 0, false
	}
	return n, true
}

// SplitFields returns the fields of a line in order, and true. Fields are maximal runs of bytes
// other than the space (byte 32); leading and trailing spaces are ignored. SplitFields returns
// nil and false if the line is longer than MaxLineLen bytes, contains a byte outside the range 32
// to 126, or has more than MaxFieldsPerLine fields. An empty line and a line of spaces have no
// fields.
func SplitFields(line string) ([]string, bool) {
	if len(line) > MaxLineLen {
		return nil, false
	}
	var fields []string
	begin, at := 0, 0
scan:
	for ; at < len(line); at++ {
		switch b := line[at]; {
		case b < 32 || b > 126:
			break scan
		case b == ' ':
			fields = appendField(fields, line[begin:at])
			begin = at + 1
		}
	}
	if at < len(line) {
		return nil, false
	}
	fields = appendField(fields, line[begin:])
	if len(fields) > MaxFieldsPerLine {
		return nil, false
	}
	return fields, true
}

// appendField leaves out the empty runs beside and between spaces, which are no fields.
func appendField(fields []string, run string) []string {
	if run == "" {
		return fields
	}
	return append(fields, run)
}

// Clamp returns n clamped to the range low to high. If high is less than low, it returns low.
func Clamp(n int, low int, high int) int {
	if high < low || n < low {
		return low
	}
	if n > high {
		return high
	}
	return n
}

// EncodeVarint returns the bytes of a number from 0 to MaxVarint, 7 bits in each, the lowest ones
// first; all bytes but the last one have the highest bit set, and there are no more bytes than
// needed (one for 0). It returns "" if n is out of range.
func EncodeVarint(n int) string {
	if n < 0 || n > MaxVarint {
		return ""
	}
	out := make([]byte, 0, varintBytes)
	for n > 127 {
		out = append(out, byte(n%128+128))
		n /= 128
	}
	return string(append(out, byte(n)))
}

// DecodeVarint returns the number whose EncodeVarint begins at an index of s, the number of its
// bytes, and true; 0, 0 and false if there is none.
func DecodeVarint(s string, at int) (int, int, bool) {
	if at < 0 || at >= len(s) {
		return 0, 0, false
	}
	n := 0
	for i := range min(len(s)-at, varintBytes) {
		b := int(s[at+i])
		n += (b % 128) << (7 * i)
		if b > 127 {
			continue
		}
		// A last byte 0 behind others means that fewer bytes would do.
		if n > MaxVarint || b == 0 && i > 0 {
			return 0, 0, false
		}
		return n, i + 1, true
	}
	return 0, 0, false
}

// Signless returns 2*n for a number of at least 0, and -2*n - 1 for a negative one; -1 if n is
// not in the range -549755813888 to 549755813887.
func Signless(n int) int {
	if n < minSigned || n > maxSigned {
		return -1
	}
	if n < 0 {
		return -2*n - 1
	}
	return 2 * n
}

// Signed returns the number whose Signless is n, for n from 0 to MaxVarint; 0 otherwise.
func Signed(n int) int {
	if n < 0 || n > MaxVarint {
		return 0
	}
	if n%2 != 0 {
		return -(n + 1) / 2
	}
	return n / 2
}

// PackInts returns EncodeVarint of the length of a list and of Signless of each number, one after
// the other; "" if one of the numbers is out of the range of Signless.
func PackInts(list []int) string {
	var out strings.Builder
	out.WriteString(EncodeVarint(len(list)))
	for _, n := range list {
		code := Signless(n)
		if code < 0 {
			return ""
		}
		out.WriteString(EncodeVarint(code))
	}
	return out.String()
}

// UnpackInts returns the list whose PackInts begins at an index of s, the number of its bytes,
// and true; nil, 0 and false if there is none.
func UnpackInts(s string, at int) ([]int, int, bool) {
	count, size, ok := DecodeVarint(s, at)
	// Each number takes a byte at least: a count that cannot be right must not reserve memory.
	if !ok || count > len(s)-at-size {
		return nil, 0, false
	}
	list := make([]int, 0, count)
	for range count {
		code, length, ok := DecodeVarint(s, at+size)
		if !ok {
			return nil, 0, false
		}
		list = append(list, Signed(code))
		size += length
	}
	return list, size, true
}

// PackText returns EncodeVarint of the length of s, followed by s.
func PackText(s string) string { return EncodeVarint(len(s)) + s }

// UnpackText returns the string whose PackText begins at an index of s, the number of the bytes
// of PackText, and true; "", 0 and false if there is none.
func UnpackText(s string, at int) (string, int, bool) {
	count, size, ok := DecodeVarint(s, at)
	if !ok || count > len(s)-at-size {
		return "", 0, false
	}
	begin := at + size
	return s[begin : begin+count], size + count, true
}

// Checksum returns a + 65536*b, where a is the sum of all bytes modulo 65521, and b the sum over
// all bytes of the product of the byte and its index plus 1 (so the first byte counts once, the
// second one twice, and so on), modulo 65521.
func Checksum(s string) int {
	a, b := 0, 0
	for i := range len(s) {
		a = (a + int(s[i])) % sumModulus
		b = (b + int(s[i])*(i+1)) % sumModulus
	}
	return a + 65536*b
}

// SealText returns 4 bytes, followed by s: with Checksum(s) = a + 65536*b, these are the lowest
// and the highest 8 bits of a, and then those of b.
func SealText(s string) string {
	seal := sealOf(s)
	return string(seal[:]) + s
}

// OpenText returns the string for which SealText returns s, and true; "" and false if there is
// none.
func OpenText(s string) (string, bool) {
	if len(s) < sealSize {
		return "", false
	}
	text := s[sealSize:]
	if [sealSize]byte([]byte(s[:sealSize])) != sealOf(text) {
		return "", false
	}
	return text, true
}

func sealOf(s string) [sealSize]byte {
	sum := Checksum(s)
	return [sealSize]byte{byte(sum), byte(sum >> 8), byte(sum >> 16), byte(sum >> 24)}
}

// NextRandom returns (state*25173 + 13849) mod 65536 for a state in the range 0 to 65535, and 0
// otherwise.
func NextRandom(state int) int {
	if state < 0 || state > maxState {
		return 0
	}
	return (state*25173 + 13849) % (maxState + 1)
}

// RandomBelow returns NextRandom(state), and this number divided by 16 (rounded down) modulo n; 0
// and 0 if state is not in the range 0 to 65535 or n is not in the range 1 to 4096.
func RandomBelow(state int, n int) (int, int) {
	if state < 0 || state > maxState || n < 1 || n > maxBelow {
		return 0, 0
	}
	next := NextRandom(state)
	return next, next / 16 % n
}

// XorText returns a string as long as b whose byte at each index is the exclusive disjunction of
// the bytes of a and b there; a byte that a does not have counts as 0.
func XorText(a string, b string) string {
	out := []byte(b)
	for i := range min(len(a), len(b)) {
		out[i] ^= a[i]
	}
	return string(out)
}

// PackZeros returns, for each maximal run of bytes 0 in s that begins at the beginning or behind
// a run of other bytes, and the maximal run of other bytes behind it: EncodeVarint of the length
// of the first run, and PackText of the second one. Either run may be empty, but not both: if s
// begins with another byte than 0, the first run of zeros has the length 0; if s ends with zeros,
// the last run of other bytes is empty. For the empty string it returns "".
func PackZeros(s string) string {
	if s == "" {
		return ""
	}
	var out strings.Builder
	begin, others, inZeros := 0, 0, true
	// A byte 0 is a character of its own wherever it stands, even where s is no valid text.
	for i, r := range s {
		if r == 0 && !inZeros {
			writeRuns(&out, others-begin, s[others:i])
			begin, inZeros = i, true
		} else if r != 0 && inZeros {
			others, inZeros = i, false
		}
	}
	if inZeros {
		others = len(s)
	}
	writeRuns(&out, others-begin, s[others:])
	return out.String()
}

func writeRuns(out *strings.Builder, zeros int, others string) {
	out.WriteString(EncodeVarint(zeros))
	out.WriteString(PackText(others))
}

// UnpackZeros returns the string of at most MaxBytes bytes for which PackZeros returns s, and
// true; "" and false if there is none.
func UnpackZeros(s string) (string, bool) {
	var out []byte
	for at := 0; at < len(s); {
		zeros, size, ok := DecodeVarint(s, at)
		if !ok {
			return "", false
		}
		others, length, ok := UnpackText(s, at+size)
		if !ok || len(out)+zeros+len(others) > MaxBytes {
			return "", false
		}
		out = append(out, make([]byte, zeros)...)
		out = append(out, others...)
		at += size + length
	}
	text := string(out)
	// The same text can be divided into runs that are not maximal, or empty in the wrong place.
	if PackZeros(text) != s {
		return "", false
	}
	return text, true
}

// DeltaText returns EncodeVarint of the length of next, followed by PackZeros of XorText(base,
// next).
func DeltaText(base string, next string) string {
	return EncodeVarint(len(next)) + PackZeros(XorText(base, next))
}

// ApplyDelta returns the string of at most MaxBytes bytes for which DeltaText with base returns
// delta, and true; "" and false if there is none.
func ApplyDelta(base string, delta string) (string, bool) {
	length, size, ok := DecodeVarint(delta, 0)
	if !ok {
		return "", false
	}
	changes, ok := UnpackZeros(delta[size:])
	if !ok || len(changes) != length {
		return "", false
	}
	return XorText(base, changes), true
}
