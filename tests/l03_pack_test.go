package tests

import (
	"math/rand"
	"slices"
	"strings"
	"testing"

	"loop.example/g03315/impl"
)

// packedTracks are inputs with their bytes.
var packedTracks = []struct {
	inputs []int
	text   string
}{
	{nil, ""}, {[]int{0}, "\x10"}, {[]int{15}, "\x1f"}, {[]int{2, 2, 6}, "\x22\x16"}, {[]int{0, 1, 0}, "\x10\x11\x10"}, {[]int{3, 3, 3, 3}, "\x43"},
	{make([]int, 7), "\x70"}, {make([]int, 8), "\x80\x01"}, {slices.Repeat([]int{15}, 7), "\x7f"}, {slices.Repeat([]int{15}, 8), "\x8f\x01"},
	{make([]int, 9), "\x90\x01"}, {make([]int, 400), "\x80\x32"}, {slices.Repeat([]int{15}, 400), "\x8f\x32"}, {make([]int, 399), "\xf0\x31"},
	{append(make([]int, 399), 1), "\xf0\x31\x11"}, {append([]int{9}, make([]int, 8)...), "\x19\x80\x01"},
}

func TestPackTrack(t *testing.T) {
	for _, c := range packedTracks {
		if got := impl.PackTrack(c.inputs); got != c.text {
			t.Errorf("PackTrack(%v) = %q; want %q", c.inputs, got, c.text)
		}
		if got, ok := impl.UnpackTrack(c.text); !slices.Equal(got, c.inputs) || !ok {
			t.Errorf("UnpackTrack(%q) = %v, %v; want %v", c.text, got, ok, c.inputs)
		}
	}
	if got := impl.PackTrack([]int{}); got != "" {
		t.Errorf("PackTrack of no inputs = %q", got)
	}
	for _, bad := range badTracks() {
		if got := impl.PackTrack(bad.Inputs); got != "" {
			t.Errorf("PackTrack(%v) = %q", bad, got)
		}
	}
}

func TestUnpackTrackRejects(t *testing.T) {
	for _, s := range []string{
		"\x00", "\x0f", "\x05", "\x10\x00", "\x00\x10", "\x11\x0f\x12", // runs without inputs
		"\x10\x10", "\x20\x10", "\x15\x25", "\x70\x10", "\x80\x01\x10", "\x11\x10\x10", // runs that are not maximal
		"\x80", "\x10\x80", "\xff\xff", "\x10\x80\x80", // no last byte
		"\x90\x00", "\x80\x00", "\x80\x81\x00", "\x11\xa0\x00", // longer than needed
		"\x90\x32", "\x9f\x32", "\x80\x32\x11", "\x11\x80\x32", "\x81\x19\x92\x19", "\xff\x7f", // too many inputs
		"\xff\xff\xff\xff\xff\x1f", "\x10\xff\xff\xff\xff\xff\x1f", "\x80\x80\x80\x80\x80\x20", "\x80\x80\x80\x80\x80\x80\x80\x80\x80\x01",
		strings.Repeat("\x10", 401), strings.Repeat("\x10\x11", 201), strings.Repeat("\x10\x11", 100000), strings.Repeat("\x00", 100000),
	} {
		if got, ok := impl.UnpackTrack(s); len(got) != 0 || ok {
			t.Errorf("UnpackTrack(%.20q) = %v, %v", s, got, ok)
		}
	}
}

func TestUnpackTrackFindsWhatPackTrackGives(t *testing.T) {
	packed := map[string][]int{}
	var pack func(inputs []int)
	pack = func(inputs []int) {
		packed[plainPack(inputs)] = slices.Clone(inputs)
		if len(inputs) == 9 {
			return
		}
		for _, input := range []int{0, 1, 15} {
			pack(append(inputs, input))
		}
	}
	pack(nil)
	for text, inputs := range packed {
		if got := impl.PackTrack(inputs); got != text {
			t.Fatalf("PackTrack(%v) = %q; want %q", inputs, got, text)
		}
	}
	// No other track than those above has the bytes of these texts, if it has at most three runs.
	for _, s := range textsOver("\x00\x01\x0f\x10\x11\x1f\x20\x21\x30\x80\x81\x90", 3) {
		want, found := packed[s]
		got, ok := impl.UnpackTrack(s)
		if ok && len(got) > 9 {
			found, want = plainPack(got) == s, got
		}
		if !slices.Equal(got, want) || ok != found {
			t.Errorf("UnpackTrack(%q) = %v, %v; want %v, %v", s, got, ok, want, found)
		}
	}
}

func TestTracksAreReadFromTheirBytes(t *testing.T) {
	r := rand.New(rand.NewSource(302))
	for range 2000 {
		inputs := randomInputs(r, r.Intn(401))
		text := impl.PackTrack(inputs)
		if text != plainPack(inputs) {
			t.Fatalf("PackTrack(%v) = %q", inputs, text)
		}
		if got, ok := impl.UnpackTrack(text); !slices.Equal(got, inputs) || !ok {
			t.Fatalf("UnpackTrack(%q) = %v, %v; want %v", text, got, ok, inputs)
		}
		if text == "" {
			continue
		}
		b := []byte(text)
		b[r.Intn(len(b))] ^= byte(1 + r.Intn(255))
		for _, changed := range []string{string(b), text[1:], text[:len(text)-1], text + "\x00", text + "\x10", text + text} {
			got, ok := impl.UnpackTrack(changed)
			if ok && (plainPack(got) != changed || len(got) > 400) || !ok && len(got) != 0 {
				t.Fatalf("UnpackTrack(%q) = %v, %v", changed, got, ok)
			}
		}
	}
}
