package ident_test

import (
	"fmt"
	"math"
	"math/rand"
	"slices"
	"sort"
	"strings"
	"sync"
	"testing"
	"unsafe"

	"gleaner/api"
	"gleaner/ident"
)

// slowValid says whether a name can be, as P701 words it.
func slowValid(id api.ID) bool {
	wrong := 0
	for _, b := range []byte(id) {
		if int(b) > 15 {
			wrong++
		}
	}
	return wrong == 0 && len(id) <= 12
}

// slowText writes a name out, as P701 words it.
func slowText(id api.ID) string {
	if !slowValid(id) {
		return ""
	}
	s := "r"
	for _, b := range []byte(id) {
		s += fmt.Sprintf("%x", int(b))
	}
	return s
}

// slowRead looks for the name whose text s is among those that are as long.
func slowRead(s string) (api.ID, bool) {
	var id api.ID
	for len(id)+1 < len(s) {
		k := 0
		for k < 16 && slowText(id+api.ID([]byte{byte(k)})) != s[:len(id)+2] {
			k++
		}
		if k == 16 {
			return "", false
		}
		id += api.ID([]byte{byte(k)})
	}
	if slowText(id) != s {
		return "", false
	}
	return id, true
}

// slowSort takes each name the first time it stands there, and lets the library sort them as strings.
func slowSort(l []api.ID) []api.ID {
	var texts []string
	seen := map[api.ID]int{}
	for _, id := range l {
		seen[id]++
		if seen[id] == 1 {
			texts = append(texts, string(id))
		}
	}
	sort.Strings(texts)
	var out []api.ID
	for _, s := range texts {
		out = append(out, api.ID(s))
	}
	return out
}

// slowCommon tries each beginning of the first name, the longest first.
func slowCommon(l []api.ID) api.ID {
	if len(l) == 0 {
		return ""
	}
	for n := len(l[0]); n > 0; n-- {
		all := true
		for _, id := range l {
			all = all && strings.HasPrefix(string(id), string(l[0][:n]))
		}
		if all {
			return l[0][:n]
		}
	}
	return ""
}

// longest is a name than which none is longer.
func longest(b byte) api.ID {
	return api.ID(strings.Repeat(string([]byte{b}), 12))
}

// goodNames are names that can be, the edges among them.
func goodNames() []api.ID {
	l := []api.ID{"", "\x00\x00", "\x0f\x0f", "\x00\x01\x02\x03\x04\x05\x06\x07", "\x08\x09\x0a\x0b\x0c\x0d\x0e\x0f", "\x0f\x00", longest(0), longest(15), longest(9), longest(10), longest(7)[:11]}
	for b := range 16 {
		l = append(l, api.ID([]byte{byte(b)}), api.ID([]byte{3, byte(b)}), api.ID([]byte{byte(b), 0}))
	}
	return l
}

// badNames are names that no task has.
func badNames() []api.ID {
	l := []api.ID{"r", "r2", "0", "a", " ", "\xff\xff", longest(0) + "\x00", longest(15) + "\x0f", longest(16), longest(255), longest(1) + longest(1), api.ID(strings.Repeat("\x00", 1000)), "\u0100", "\u0001\u0080"}
	for at := range 12 { // one byte that is too great, at each place
		for _, b := range []byte{16, 17, 31, 32, 127, 128, 255} {
			id := []byte(longest(5))
			id[at] = b
			l = append(l, api.ID(id), api.ID(id[:at+1]), api.ID(id[at:]))
		}
	}
	return l
}

// someName makes a name, one that can be nearly always.
func someName(r *rand.Rand) api.ID {
	id := make([]byte, r.Intn(14))
	for i := range id {
		id[i] = byte(r.Intn(16))
		if r.Intn(100) == 0 {
			id[i] = byte(r.Intn(256))
		}
	}
	return api.ID(id)
}

// nearNames makes names of few bytes, many of which are the same or begin alike.
func nearNames(r *rand.Rand) []api.ID {
	var l []api.ID
	begins := someName(r)
	for range r.Intn(12) {
		id := begins[:r.Intn(len(begins)+1)]
		for range r.Intn(3) {
			id += api.ID([]byte{[]byte{0, 1, 9, 10, 15, 97, 255}[r.Intn(7)]})
		}
		l = append(l, id)
	}
	return l
}

func TestP701Valid(t *testing.T) {
	for _, id := range goodNames() {
		if !ident.Valid(id) || !slowValid(id) {
			t.Errorf("P701: Valid(%q) does not hold", id)
		}
	}
	for _, id := range badNames() {
		if ident.Valid(id) || slowValid(id) {
			t.Errorf("P701: Valid(%q) holds", id)
		}
	}
}

func TestP701ValidOfEachByteAndLength(t *testing.T) {
	for b := range 256 {
		for n := 1; n <= 14; n++ {
			id := api.ID(strings.Repeat(string([]byte{byte(b)}), n))
			if got := ident.Valid(id); got != (b < api.MaxKids && n <= api.MaxDeep) {
				t.Errorf("P701: Valid of %d bytes %d: %v", n, b, got)
			}
		}
	}
}

func TestP701TextExamples(t *testing.T) {
	third, ok := ident.Kid("", 2)
	if !ok || ident.Text(third) != "r2" {
		t.Errorf("P701: the first task's third spawn: %q %v", ident.Text(third), ok)
	}
	for _, x := range []struct {
		id   api.ID
		want string
	}{
		{"", "r"},
		{"\x00", "r0"},
		{"\x09\x0a\x0f", "r9af"},
		{"\x00\x01\x02\x03\x04\x05\x06\x07\x08\x09\x0a\x0b", "r0123456789ab"},
		{"\x0c\x0d\x0e\x0f", "rcdef"},
		{longest(15), "rffffffffffff"},
	} {
		if got := ident.Text(x.id); got != x.want {
			t.Errorf("P701: Text(%q): %q, not %q", x.id, got, x.want)
		}
		if id, ok := ident.Read(x.want); id != x.id || !ok {
			t.Errorf("P701: Read(%q): %q %v, not %q", x.want, id, ok, x.id)
		}
	}
}

func TestP701TextAndRead(t *testing.T) {
	for _, id := range goodNames() {
		if got := ident.Text(id); got != slowText(id) {
			t.Errorf("P701: Text(%q): %q, not %q", id, got, slowText(id))
		}
		if back, ok := ident.Read(slowText(id)); back != id || !ok {
			t.Errorf("P701: Read(%q): %q %v, not %q", slowText(id), back, ok, id)
		}
	}
}

func TestP701TextOfNoName(t *testing.T) {
	for _, id := range badNames() {
		if got := ident.Text(id); got != "" {
			t.Errorf("P701: Text(%q): %q", id, got)
		}
	}
}

func TestP701TextOfRandomNames(t *testing.T) {
	r := rand.New(rand.NewSource(701))
	texts := map[string]api.ID{}
	for range 20000 {
		id := someName(r)
		text := ident.Text(id)
		if text != slowText(id) {
			t.Fatalf("P701: Text(%q): %q, not %q", id, text, slowText(id))
		}
		if text == "" {
			continue
		}
		if other, ok := texts[text]; ok && other != id {
			t.Fatalf("P701: Text of %q and of %q: %q", id, other, text)
		}
		texts[text] = id
		if back, ok := ident.Read(text); back != id || !ok {
			t.Fatalf("P701: Read(%q): %q %v, not %q", text, back, ok, id)
		}
	}
}

func TestP701ReadOfNoText(t *testing.T) {
	texts := []string{
		"", "x", "R", "rr", "2", "02", "r-1", "r+1", "r 1", " r1", "r1 ", "r1\n", "r\x00", "r\x02", "r0x1", "r_", "r1_2", "rg", "r/", "r:", "r`", "rA", "rF", "r1G", "s1", "q1",
		"r" + strings.Repeat("0", 13), "r" + strings.Repeat("f", 13), "r" + strings.Repeat("0", 12) + "\x00", "r" + strings.Repeat("0", 100000), "r０", "r\u0660", "r\xff", "r0123456789AB",
	}
	for at := range 12 { // one byte that is no digit, at each place
		for _, b := range []byte("g/:`G@ \x00\xff") {
			s := []byte("r555555555555")
			s[at+1] = b
			texts = append(texts, string(s), string(s[:at+2]))
		}
	}
	for _, s := range texts {
		if id, ok := ident.Read(s); ok || id != "" {
			t.Errorf("P701: Read(%q): %q %v", s, id, ok)
		}
	}
}

func TestP701ReadOfEachShortText(t *testing.T) {
	for a := range 256 {
		for b := range 256 {
			s := string([]byte{byte(a), byte(b)})
			want, is := slowRead(s)
			if id, ok := ident.Read(s); id != want || ok != is {
				t.Fatalf("P701: Read(%q): %q %v, not %q %v", s, id, ok, want, is)
			}
			s = "r" + s
			want, is = slowRead(s)
			if id, ok := ident.Read(s); id != want || ok != is {
				t.Fatalf("P701: Read(%q): %q %v, not %q %v", s, id, ok, want, is)
			}
		}
	}
}

func TestP701Kid(t *testing.T) {
	for _, id := range goodNames() {
		for k := range 16 {
			want, is := id+api.ID([]byte{byte(k)}), true
			if len(id) == 12 {
				want, is = "", false
			}
			if got, ok := ident.Kid(id, k); got != want || ok != is {
				t.Errorf("P701: Kid(%q, %d): %q %v, not %q %v", id, k, got, ok, want, is)
			}
		}
	}
}

func TestP701KidThatCanNotBe(t *testing.T) {
	for _, k := range []int{-1, -16, 16, 17, 255, 256, 257, 1 << 32, 1<<32 + 3, 1 << 62, math.MaxInt, math.MinInt, math.MinInt + 1} {
		for _, id := range append(goodNames(), badNames()...) {
			if got, ok := ident.Kid(id, k); got != "" || ok {
				t.Errorf("P701: Kid(%q, %d): %q %v", id, k, got, ok)
			}
		}
	}
	for _, id := range badNames() {
		for k := range 16 {
			if got, ok := ident.Kid(id, k); got != "" || ok {
				t.Errorf("P701: Kid(%q, %d): %q %v", id, k, got, ok)
			}
		}
	}
}

func TestP701KidsDownToTheDeepest(t *testing.T) {
	var id api.ID
	for n := range api.MaxDeep {
		kid, ok := ident.Kid(id, n)
		if !ok || !ident.Valid(kid) || len(kid) != n+1 {
			t.Fatalf("P701: Kid(%q, %d): %q %v", id, n, kid, ok)
		}
		id = kid
	}
	if got := ident.Text(id); got != "r0123456789ab" {
		t.Errorf("P701: the deepest: %q", got)
	}
	if kid, ok := ident.Kid(id, 0); ok || kid != "" {
		t.Errorf("P701: below the deepest: %q", kid)
	}
}

func TestP701Up(t *testing.T) {
	for _, id := range goodNames() {
		up, k, ok := ident.Up(id)
		if id == "" {
			if up != "" || k != 0 || ok {
				t.Errorf("P701: Up of the first task: %q %d %v", up, k, ok)
			}
			continue
		}
		n := len(id) - 1
		if up != id[:n] || k != int(id[n]) || !ok {
			t.Errorf("P701: Up(%q): %q %d %v", id, up, k, ok)
		}
		if kid, ok := ident.Kid(up, k); kid != id || !ok {
			t.Errorf("P701: Kid of Up of %q: %q %v", id, kid, ok)
		}
	}
}

func TestP701UpOfNoName(t *testing.T) {
	for _, id := range badNames() {
		if up, k, ok := ident.Up(id); up != "" || k != 0 || ok {
			t.Errorf("P701: Up(%q): %q %d %v", id, up, k, ok)
		}
	}
}

func TestP702SortExamples(t *testing.T) {
	for _, x := range []struct{ l, want []api.ID }{
		{nil, nil},
		{[]api.ID{}, nil},
		{[]api.ID{""}, []api.ID{""}},
		{[]api.ID{"", "", ""}, []api.ID{""}},
		{[]api.ID{"\x02", "\x01"}, []api.ID{"\x01", "\x02"}},
		{[]api.ID{"\x01\x00", "\x01", "", "\x00\x0f", "\x0a", "\x09"}, []api.ID{"", "\x00\x0f", "\x01", "\x01\x00", "\x09", "\x0a"}},
		{[]api.ID{"\x03", "\x02", "\x03", "\x02", "\x03"}, []api.ID{"\x02", "\x03"}},
		{[]api.ID{"\x0f", "\x00\x00\x00", "\x00\x00", "\x00"}, []api.ID{"\x00", "\x00\x00", "\x00\x00\x00", "\x0f"}},
		{[]api.ID{"\xff", "z", "\x80", "\x7f", longest(0) + "\x00", longest(0)}, []api.ID{longest(0), longest(0) + "\x00", "z", "\x7f", "\x80", "\xff"}}, // names that can't be, too
	} {
		if got := ident.Sort(x.l...); !slices.Equal(got, x.want) {
			t.Errorf("P702: Sort(%q): %q, not %q", x.l, got, x.want)
		}
	}
	if got := ident.Sort("\x02", "\x01", "\x02"); !slices.Equal(got, []api.ID{"\x01", "\x02"}) {
		t.Errorf("P702: Sort of names one by one: %q", got)
	}
}

func TestP702SortOfAllOrders(t *testing.T) {
	names := []api.ID{"", "\x00", "\x00\x00", "\x01", "\x00"}
	want := []api.ID{"", "\x00", "\x00\x00", "\x01"}
	var try func(done, left []api.ID)
	try = func(done, left []api.ID) {
		if len(left) == 0 {
			if got := ident.Sort(done...); !slices.Equal(got, want) {
				t.Errorf("P702: Sort(%q): %q", done, got)
			}
		}
		for i, id := range left {
			try(append(slices.Clone(done), id), slices.Delete(slices.Clone(left), i, i+1))
		}
	}
	try(nil, names)
}

func TestP702SortOfRandomNames(t *testing.T) {
	r := rand.New(rand.NewSource(702))
	for range 5000 {
		l := nearNames(r)
		got := ident.Sort(l...)
		if !slices.Equal(got, slowSort(l)) {
			t.Fatalf("P702: Sort(%q): %q, not %q", l, got, slowSort(l))
		}
		if again := ident.Sort(got...); !slices.Equal(again, got) {
			t.Fatalf("P702: Sort of Sort(%q): %q", l, again)
		}
	}
}

func TestP702SortRisesAsTextsDo(t *testing.T) {
	l := ident.Sort(goodNames()...)
	var texts []string
	for _, id := range l {
		texts = append(texts, ident.Text(id))
	}
	if !sort.StringsAreSorted(texts) {
		t.Errorf("P702: the texts of Sort: %q", texts)
	}
}

func TestP702SortOfMany(t *testing.T) {
	r := rand.New(rand.NewSource(7022))
	var l []api.ID
	for range 200000 {
		l = append(l, someName(r))
	}
	if got := ident.Sort(l...); !slices.Equal(got, slowSort(l)) {
		t.Errorf("P702: Sort of %d names: %d", len(l), len(got))
	}
	same := slices.Repeat([]api.ID{"\x01\x02"}, 100000)
	if got := ident.Sort(same...); !slices.Equal(got, []api.ID{"\x01\x02"}) {
		t.Errorf("P702: Sort of one name %d times: %d", len(same), len(got))
	}
}

func TestP702CommonExamples(t *testing.T) {
	for _, x := range []struct {
		l    []api.ID
		want api.ID
	}{
		{nil, ""},
		{[]api.ID{}, ""},
		{[]api.ID{""}, ""},
		{[]api.ID{"\x01\x02"}, "\x01\x02"},
		{[]api.ID{"\x01\x02", "\x01\x02"}, "\x01\x02"},
		{[]api.ID{"\x01\x02\x03", "\x01\x02\x04"}, "\x01\x02"},
		{[]api.ID{"\x01\x02\x03", "\x01\x02"}, "\x01\x02"},
		{[]api.ID{"\x01\x02", "\x01\x02\x03"}, "\x01\x02"},
		{[]api.ID{"\x01\x02", "\x01\x02\x03", "\x01\x05"}, "\x01"},
		{[]api.ID{"\x01\x02", "\x02\x02"}, ""},
		{[]api.ID{"", "\x01"}, ""},
		{[]api.ID{"\x01", "", "\x01"}, ""},
		{[]api.ID{"\x00\x00", "\x00"}, "\x00"},
		{[]api.ID{longest(15), longest(15), longest(15)[:11]}, longest(15)[:11]},
		{[]api.ID{"\x01\x02\x05", "\x01\x03\x05"}, "\x01"}, // what is alike behind a difference is none of it
		{[]api.ID{longest(3) + "\x03\x04", longest(3) + "\x03\x05"}, longest(3) + "\x03"},
		{[]api.ID{"abc", "abd"}, "ab"},
		{[]api.ID{"\xff\xfe", "\xff\xfd"}, "\xff"},
	} {
		if got := ident.Common(x.l...); got != x.want {
			t.Errorf("P702: Common(%q): %q, not %q", x.l, got, x.want)
		}
	}
	if got := ident.Common("\x01\x02", "\x01"); got != "\x01" {
		t.Errorf("P702: Common of names one by one: %q", got)
	}
}

func TestP702CommonOfRandomNames(t *testing.T) {
	r := rand.New(rand.NewSource(7023))
	some := 0
	for range 20000 {
		l := nearNames(r)
		got := ident.Common(l...)
		if got != slowCommon(l) {
			t.Fatalf("P702: Common(%q): %q, not %q", l, got, slowCommon(l))
		}
		if got != "" {
			some++
		}
	}
	if some < 1000 {
		t.Errorf("P702: only %d lists begin alike", some)
	}
}

func TestP702CommonOfALongList(t *testing.T) {
	l := slices.Repeat([]api.ID{"\x01\x02\x03"}, 100000)
	if got := ident.Common(l...); got != "\x01\x02\x03" {
		t.Errorf("P702: Common of one name %d times: %q", len(l), got)
	}
	l[len(l)-1] = "\x01\x03"
	if got := ident.Common(l...); got != "\x01" {
		t.Errorf("P702: Common, the last one another: %q", got)
	}
}

func TestP703HandedInStays(t *testing.T) {
	r := rand.New(rand.NewSource(703))
	for range 1000 {
		spare := append(nearNames(r), "\x0e", "\x0d", "\x0c")
		l := spare[:len(spare)-3]
		was := slices.Clone(spare)
		ident.Sort(l...)
		ident.Common(l...)
		if !slices.Equal(spare, was) {
			t.Fatalf("P703: the names were %q, are %q", was, spare)
		}
	}
}

func TestP703SortIsNewMemory(t *testing.T) {
	for _, l := range [][]api.ID{{"\x01"}, {"\x01", "\x02"}, {"\x02", "\x01"}, {"\x01", "\x01"}} {
		was := slices.Clone(l)
		a, b := ident.Sort(l...), ident.Sort(l...)
		want := slices.Clone(b)
		for i := range a[:cap(a)] {
			a[:cap(a)][i] = "\x09"
		}
		if !slices.Equal(l, was) || !slices.Equal(b, want) {
			t.Errorf("P703: what Sort(%q) answers is not its own: %q %q", was, l, b)
		}
		for i := range l {
			l[i] = "\x08"
		}
		if !slices.Equal(b, want) {
			t.Errorf("P703: what Sort(%q) answers turns with what was handed in: %q", was, b)
		}
	}
}

func TestP703NamesShareNoBytes(t *testing.T) {
	id := api.ID(strings.Clone("\x01\x02\x03"))
	up, _, _ := ident.Up(id)
	kid, _ := ident.Kid(id, 4)
	for _, got := range []api.ID{up, kid, ident.Common(id), ident.Common(id, "\x01\x02"), ident.Common(id, id), ident.Sort(id)[0]} {
		if got == "" || unsafe.StringData(string(got)) == unsafe.StringData(string(id)) {
			t.Errorf("P703: %q is a piece of what was handed in", got)
		}
	}
}

func TestP703ArgumentsAlone(t *testing.T) {
	r := rand.New(rand.NewSource(7032))
	var l [][]api.ID
	var want []string
	tell := func(l []api.ID) string {
		s := fmt.Sprintf("%q %q", ident.Sort(l...), ident.Common(l...))
		for _, id := range l {
			back, read := ident.Read(ident.Text(id))
			kid, is := ident.Kid(id, len(l))
			up, k, has := ident.Up(id)
			s += fmt.Sprintf(" %v %q %q %v %q %v %q %d %v", ident.Valid(id), ident.Text(id), back, read, kid, is, up, k, has)
		}
		return s
	}
	for range 200 {
		l = append(l, nearNames(r))
		want = append(want, tell(l[len(l)-1]))
	}
	var all sync.WaitGroup
	for range 4 {
		all.Go(func() {
			for i := range l {
				if got := tell(l[i]); got != want[i] {
					t.Errorf("P703: of %q: %s, not %s", l[i], got, want[i])
				}
			}
		})
	}
	all.Wait()
}

func FuzzP701(f *testing.F) {
	for _, s := range []string{"", "r", "r2", "r0123456789ab", "rA", "\x00\x0f", "\x10", "rfffffffffffff"} {
		f.Add(s, 3)
	}
	f.Fuzz(func(t *testing.T, s string, k int) {
		want, is := api.ID(""), false
		if len(s) < 100 {
			want, is = slowRead(s)
		}
		if id, ok := ident.Read(s); id != want || ok != is {
			t.Errorf("P701: Read(%q): %q %v, not %q %v", s, id, ok, want, is)
		}
		id := api.ID(s)
		if ident.Valid(id) != slowValid(id) || ident.Text(id) != slowText(id) {
			t.Errorf("P701: %q: Valid %v, Text %q", id, ident.Valid(id), ident.Text(id))
		}
		kid, ok := ident.Kid(id, k)
		if may := slowValid(id) && len(s) < 12 && k >= 0 && k < 16; ok != may || !ok && kid != "" {
			t.Errorf("P701: Kid(%q, %d): %q %v", id, k, kid, ok)
		}
		if up, at, was := ident.Up(kid); ok && (up != id || at != k || !was) {
			t.Errorf("P701: Up(%q): %q %d %v", kid, up, at, was)
		}
	})
}

func FuzzP702(f *testing.F) {
	f.Add("", byte(','))
	f.Add("ab,abc,ab,a", byte(','))
	f.Add("\x01\x02\x00\x01\x03\x00\x01", byte(0))
	f.Fuzz(func(t *testing.T, s string, at byte) {
		var l []api.ID
		for _, x := range strings.Split(s, string([]byte{at})) {
			l = append(l, api.ID(x))
		}
		if got := ident.Sort(l...); !slices.Equal(got, slowSort(l)) {
			t.Errorf("P702: Sort(%q): %q", l, got)
		}
		if got := ident.Common(l...); got != slowCommon(l) {
			t.Errorf("P702: Common(%q): %q", l, got)
		}
	})
}
