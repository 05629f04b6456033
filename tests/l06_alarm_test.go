package tests

import (
	"math"
	"math/rand"
	"slices"
	"strings"
	"testing"

	"loop.example/g03315/impl"
)

// alarmTexts are alarms that can be read from their texts.
func alarmTexts() map[string]impl.Alarm {
	return map[string]impl.Alarm{
		"0:":                   {},
		"3:":                   {Tick: 3},
		"1000000000:":          {Tick: 1000000000},
		"3:score 1":            {Tick: 3, Parts: []string{"score 1"}},
		"3:score 1,body 0":     {Tick: 3, Parts: []string{"score 1", "body 0"}},
		"12:seed,body 23":      {Tick: 12, Parts: []string{"seed", "body 23"}},
		"3:,":                  {Tick: 3, Parts: []string{"", ""}},
		"3:,,a":                {Tick: 3, Parts: []string{"", "", "a"}},
		"3:a,":                 {Tick: 3, Parts: []string{"a", ""}},
		"3::":                  {Tick: 3, Parts: []string{":"}},
		"3:a:b,4:c":            {Tick: 3, Parts: []string{"a:b", "4:c"}},
		"400: ":                {Tick: 400, Parts: []string{" "}},
		"400: a , b ":          {Tick: 400, Parts: []string{" a ", " b "}},
		"7:\x00,\xff\n,\u00e9": {Tick: 7, Parts: []string{"\x00", "\xff\n", "\u00e9"}},
	}
}

func TestAlarmsAndTheirTexts(t *testing.T) {
	for text, a := range alarmTexts() {
		if got := impl.FormatAlarm(a); got != text {
			t.Errorf("FormatAlarm of %v = %q; want %q", a, got, text)
		}
		if got, ok := impl.ParseAlarm(text); !ok || !sameAlarm(got, a) {
			t.Errorf("ParseAlarm of %q = %v, %v; want %v", text, got, ok, a)
		}
	}
	many := impl.Alarm{Tick: 5, Parts: slices.Repeat([]string{"part"}, 9000)}
	if got, ok := impl.ParseAlarm(impl.FormatAlarm(many)); !ok || !sameAlarm(got, many) {
		t.Error("ParseAlarm of many parts")
	}
}

// TestFormatAlarmOfAnything has alarms whose texts are those of other alarms, or of none.
func TestFormatAlarmOfAnything(t *testing.T) {
	for text, a := range map[string]impl.Alarm{
		"5:":                    {Tick: 5, Parts: []string{""}},
		"5:a,b":                 {Tick: 5, Parts: []string{"a,b"}},
		"5:a,b,":                {Tick: 5, Parts: []string{"a,b,"}},
		"-1:a":                  {Tick: -1, Parts: []string{"a"}},
		"1000000001:":           {Tick: 1000000001},
		"9223372036854775807:x": {Tick: math.MaxInt, Parts: []string{"x"}},
		"-9223372036854775808:": {Tick: math.MinInt, Parts: []string{}},
	} {
		if got := impl.FormatAlarm(a); got != text {
			t.Errorf("FormatAlarm of %v = %q; want %q", a, got, text)
		}
	}
}

func TestParseAlarmRejects(t *testing.T) {
	for _, s := range []string{
		"", "3", "score 1", "3;score 1", "3,score 1", ":", "::", ":score 1", ":3", "a:b", " 3:a", "3 :a", "03:a", "00:a", "+3:a", "-3:a", "-0:", "3.0:a", "3a:b",
		"0x3:a", "1_0:a", "1000000001:a", "18446744073709551619:a", "99999999999999999999999:a", "3\n:a", "\x003:a", "seed:3", ",:a", "3,:a", ",3:a", "3\uff1aa",
		strings.Repeat("3", 5000) + ":a", strings.Repeat(",", 5000),
	} {
		if got, ok := impl.ParseAlarm(s); ok || !sameAlarm(got, impl.Alarm{}) {
			t.Errorf("ParseAlarm of %q = %v, %v", brief(s), got, ok)
		}
	}
}

// TestParseAlarmOfRandomTexts compares with a reading byte by byte.
func TestParseAlarmOfRandomTexts(t *testing.T) {
	r := rand.New(rand.NewSource(604))
	read := 0
	for range 20000 {
		s := randomText(r, "01:,a", r.Intn(9))
		colon := strings.Index(s, ":")
		want, wantOk := impl.Alarm{}, false
		if colon >= 0 {
			want.Tick, wantOk = impl.ParseUint(s[:colon])
		}
		part := ""
		for i := colon + 1; wantOk && colon+1 < len(s) && i <= len(s); i++ {
			if i == len(s) || s[i] == ',' {
				want.Parts = append(want.Parts, part)
				part = ""
			} else {
				part += s[i : i+1]
			}
		}
		got, ok := impl.ParseAlarm(s)
		if ok != wantOk || !sameAlarm(got, want) {
			t.Fatalf("ParseAlarm of %q = %v, %v; want %v, %v", s, got, ok, want, wantOk)
		}
		if ok && impl.FormatAlarm(got) != s {
			t.Fatalf("FormatAlarm of %v = %q; want %q", got, impl.FormatAlarm(got), s)
		}
		if ok {
			read++
		}
	}
	if read < 1000 {
		t.Errorf("only %d texts of alarms", read)
	}
}

func TestBlame(t *testing.T) {
	a, b, c := []int{1, 2, 3}, []int{1, 2, 9}, []int{1, 4, 3}
	for _, x := range []struct {
		lists [][]int
		tick  int
		want  int
	}{
		{nil, 0, -1}, {[][]int{a}, 0, -1}, {[][]int{a, b}, 2, -1}, {[][]int{a, b}, 0, -1}, {[][]int{a, a, a}, 1, -1}, {[][]int{a, b, c}, 0, -1},
		{[][]int{a, b, c}, 1, 2}, {[][]int{a, b, c}, 2, 1}, {[][]int{c, a, b}, 1, 0}, {[][]int{a, b, a, c}, 2, 1}, {[][]int{b, a, a, c}, 1, 3},
		{[][]int{a, b, b}, 2, 0}, {[][]int{a, b, b, a}, 2, -1}, {[][]int{a, a, b, b}, 2, -1}, {[][]int{a, a, b, b, a}, 2, -1}, {[][]int{{1}, {2}, {3}}, 0, -1},
		{[][]int{{1}, {2}, {1}, {3}}, 0, -1}, {[][]int{{2}, {1}, {1}, {3}}, 0, -1}, {[][]int{{1}, {1}, {1}, {1}, {1}, {7}}, 0, 5},
		// Who has no such element cannot be compared.
		{[][]int{a, b, c}, 3, -1}, {[][]int{a, b, c}, -1, -1}, {[][]int{a, b, c}, math.MaxInt, -1}, {[][]int{a, b, c}, math.MinInt, -1},
		{[][]int{a, b, a, nil}, 2, -1}, {[][]int{a, b, a, {1, 2}}, 2, -1}, {[][]int{nil, a, b, a}, 2, -1}, {[][]int{nil, nil, nil}, 0, -1}, {[][]int{{1, 2}, a, b, a}, 1, -1},
		{[][]int{{}, {5}, {5}}, 0, -1}, {[][]int{{5}, {6}, {}}, 0, -1},
	} {
		if got := impl.Blame(x.lists, x.tick); got != x.want {
			t.Errorf("Blame of %v at %d = %d; want %d", x.lists, x.tick, got, x.want)
		}
	}
}

// TestBlameOfAll has up to six lists with each of three elements or none.
func TestBlameOfAll(t *testing.T) {
	code := 1
	for n := range 7 {
		for k := range code {
			var lists [][]int
			for rest := k; len(lists) < n; rest /= 4 {
				lists = append(lists, [][]int{{0, 0, 8}, {0, 1, 8}, {0, 2, 8}, {0}}[rest%4])
			}
			for tick := -1; tick < 4; tick++ {
				if got, want := impl.Blame(lists, tick), plainBlame(lists, tick); got != want {
					t.Fatalf("Blame of %v at %d = %d; want %d", lists, tick, got, want)
				}
			}
		}
		code *= 4
	}
}
