package tests

import (
	"fmt"
	"math"
	"math/rand"
	"strings"
	"testing"

	"loop.example/g00526/impl"
)

// someNames returns names of every length, among them the least and the greatest and names that are the beginning of others.
func someNames() []string {
	return []string{
		"a", "aa", "aaaaaaa", "aaaaaaaa", "aaaaaaab", "ab", "abc", "az", "b", "ba", "hijklmno", "m",
		"y", "yz", "z", "za", "zzzzzzz", "zzzzzzza", "zzzzzzzz", "abcdefgh", "ijklmnop", "qrstuvwx",
	}
}

func notNames() []string {
	return []string{
		"", "aaaaaaaaa", "abcdefghi", "zzzzzzzzz", strings.Repeat("a", 16), strings.Repeat("a", 264), strings.Repeat("z", 1000),
		"A", "Z", "aB", "Ab", "`", "{", "a`", "{a", "0", "a1", "1a", "_", "a_b", "-", "a-b", ".", "/",
		" ", "a ", " a", "a b", "a\n", "\x00", "a\x00", "\x00a", "\x01", "a\x01", "\x01a", "a\x01b", "\x02", "\x7f", "\x80", "\xff", "a\xff",
		"\u00e4", "a\u00e4", "\u0430", "\uff41", "\xe1", "\u0161",
	}
}

func someTimes() []int64 {
	return []int64{0, 1, 2, 9, 10, 11, 99999, 100000, 499999, 500000, 500001, 900000, 900001, 999990, 999998, 999999, 1000000}
}

func notTimes() []int64 {
	return []int64{
		-1, -2, -1000000, -9000000, -9000001, 1000001, 1000002, 2000000, 10000000, 4294967296, 4294967297, -4294967295,
		math.MinInt64, math.MinInt64 + 1, math.MinInt64 + 1000000, math.MaxInt64 - 1, math.MaxInt64,
	}
}

func someKeys() []impl.Key {
	var keys []impl.Key
	for _, row := range []string{"a", "aa", "ab", "b", "zzzzzzzz"} {
		for _, bin := range []string{"a", "aaaaaaaa", "ab", "b", "z"} {
			for _, time := range []int64{0, 1, 9, 10, 500000, 999999, 1000000} {
				keys = append(keys, impl.Key{Row: row, Bin: bin, Time: time})
			}
		}
	}
	return keys
}

// notKeys returns keys with one invalid field, and with several.
func notKeys() []impl.Key {
	keys := []impl.Key{{}, {Time: 7}, {Time: -1}, {Row: "a"}, {Bin: "a"}, {Row: "A", Bin: "B", Time: -1}}
	for _, s := range notNames() {
		keys = append(keys, impl.Key{Row: s, Bin: "b", Time: 7}, impl.Key{Row: "a", Bin: s, Time: 7}, impl.Key{Row: s, Bin: s, Time: 7})
	}
	for _, n := range notTimes() {
		keys = append(keys, impl.Key{Row: "a", Bin: "b", Time: n})
	}
	return keys
}

func anyName(source *rand.Rand) string {
	// Few letters, so that names often begin alike.
	letters := []string{"ab", "az", "abcdefghijklmnopqrstuvwxyz"}[source.Intn(3)]
	name := make([]byte, 1+source.Intn(8))
	for i := range name {
		name[i] = letters[source.Intn(len(letters))]
	}
	return string(name)
}

func anyKey(source *rand.Rand) impl.Key {
	time := source.Int63n(impl.MaxTime + 1)
	if source.Intn(2) == 0 {
		time = someTimes()[source.Intn(len(someTimes()))]
	}
	return impl.Key{Row: anyName(source), Bin: anyName(source), Time: time}
}

func wantedText(k impl.Key) string {
	return fmt.Sprintf("%s\x01%s\x01%07d", k.Row, k.Bin, 1000000-k.Time)
}

func wantedLess(a, b impl.Key) bool {
	switch {
	case a.Row != b.Row:
		return a.Row < b.Row
	case a.Bin != b.Bin:
		return a.Bin < b.Bin
	}
	return a.Time > b.Time
}

func checkKeyText(t *testing.T, k impl.Key, want string) {
	t.Helper()
	if got := impl.KeyText(k); got != want {
		t.Errorf("KeyText(%+v) = %q, want %q", k, got, want)
	}
}

func checkKeyOf(t *testing.T, s string, want impl.Key, wantOk bool) {
	t.Helper()
	if got, ok := impl.KeyOf(s); got != want || ok != wantOk {
		t.Errorf("KeyOf(%q) = %+v, %v, want %+v, %v", s, got, ok, want, wantOk)
	}
}

func checkKeyLess(t *testing.T, a, b impl.Key, want bool) {
	t.Helper()
	if got := impl.KeyLess(a, b); got != want {
		t.Errorf("KeyLess(%+v, %+v) = %v, want %v", a, b, got, want)
	}
}

// checkOrder checks that the texts of two valid keys are ordered as the keys are.
func checkOrder(t *testing.T, a, b impl.Key) {
	t.Helper()
	checkKeyLess(t, a, b, wantedLess(a, b))
	if less := impl.KeyText(a) < impl.KeyText(b); less != impl.KeyLess(a, b) {
		t.Errorf("KeyText(%+v) < KeyText(%+v) is %v, but KeyLess is not", a, b, less)
	}
}

func checkThereAndBack(t *testing.T, k impl.Key) {
	t.Helper()
	checkKeyText(t, k, wantedText(k))
	checkKeyOf(t, impl.KeyText(k), k, true)
}

func TestMaxTime(t *testing.T) {
	if impl.MaxTime != 1000000 {
		t.Error(impl.MaxTime)
	}
}

func TestNameOk(t *testing.T) {
	for _, s := range someNames() {
		if !impl.NameOk(s) {
			t.Errorf("NameOk(%q) = false", s)
		}
	}
	for _, s := range notNames() {
		if impl.NameOk(s) {
			t.Errorf("NameOk(%q) = true", s)
		}
	}
}

func TestNameOkOfEveryLength(t *testing.T) {
	for n := range 600 {
		if got, want := impl.NameOk(strings.Repeat("k", n)), n >= 1 && n <= 8; got != want {
			t.Errorf("NameOk of %d bytes = %v", n, got)
		}
	}
}

func TestNameOkOfEveryByte(t *testing.T) {
	for b := range 256 {
		for n := 1; n <= 8; n++ {
			for i := range n {
				name := []byte(strings.Repeat("k", n))
				name[i] = byte(b)
				if got, want := impl.NameOk(string(name)), b >= 'a' && b <= 'z'; got != want {
					t.Errorf("NameOk(%q) = %v", name, got)
				}
			}
		}
	}
}

func TestKeyOk(t *testing.T) {
	for _, row := range someNames() {
		for _, bin := range someNames() {
			for _, time := range someTimes() {
				if k := (impl.Key{Row: row, Bin: bin, Time: time}); !impl.KeyOk(k) {
					t.Errorf("KeyOk(%+v) = false", k)
				}
			}
		}
	}
	for _, k := range notKeys() {
		if impl.KeyOk(k) {
			t.Errorf("KeyOk(%+v) = true", k)
		}
	}
}

func TestKeyTextExamples(t *testing.T) {
	for _, c := range []struct {
		row, bin string
		time     int64
		want     string
	}{
		{"a", "b", 0, "a\x01b\x011000000"},
		{"a", "b", 1, "a\x01b\x010999999"},
		{"a", "b", 999990, "a\x01b\x010000010"},
		{"a", "b", 999999, "a\x01b\x010000001"},
		{"a", "b", 1000000, "a\x01b\x010000000"},
		{"ab", "c", 7, "ab\x01c\x010999993"},
		{"a", "bc", 7, "a\x01bc\x010999993"},
		{"abcdefgh", "stuvwxyz", 876543, "abcdefgh\x01stuvwxyz\x010123457"},
	} {
		k := impl.Key{Row: c.row, Bin: c.bin, Time: c.time}
		checkKeyText(t, k, c.want)
		checkKeyOf(t, c.want, k, true)
	}
}

func TestKeyTextRejects(t *testing.T) {
	for _, k := range notKeys() {
		checkKeyText(t, k, "")
	}
}

func TestKeyOfGivesBackTheKey(t *testing.T) {
	for _, name := range someNames() {
		for _, time := range someTimes() {
			checkThereAndBack(t, impl.Key{Row: name, Bin: "b", Time: time})
			checkThereAndBack(t, impl.Key{Row: "a", Bin: name, Time: time})
		}
	}
	source := rand.New(rand.NewSource(3))
	for range 5000 {
		checkThereAndBack(t, anyKey(source))
	}
}

func TestKeyOfRejectsBytes(t *testing.T) {
	for _, s := range []string{
		"", "\x01", "\x01\x01", "\x01\x01\x01", "a", "a\x01", "a\x01b", "a\x01b\x01", "ab0999993", "0999993", "\x010999993", "\x01\x010999993",
		"a\x010999993", "ab\x010999993", "a\x01b0999993", "a\x01\x010999993", "\x01b\x010999993",
		"\x01a\x01b\x010999993", "a\x01\x01b\x010999993", "a\x01b\x01\x010999993", "a\x01b\x010999993\x01", "a\x01b\x01c\x010999993", "a\x01b\x010999993\x010999993",
		"a\x00b\x000999993", "a\x02b\x020999993", "a b 0999993", "a\x01b 0999993", "a b\x010999993", "a\nb\n0999993",
		"a\x01b\x010999993\n", "\na\x01b\x010999993", "a\x01b\x01 999993", "a\x01b\x010999993 ", "a\x01b\x01 0999993", "a\x01b\x010999993\x00",
		"A\x01b\x010999993", "a\x01B\x010999993", "1\x01b\x010999993", "a\x01\xff\x010999993", "a\x01\u00e4\x010999993",
		"abcdefghi\x01b\x010999993", "a\x01abcdefghi\x010999993", "0999993\x01b\x01a", "a\x010999993\x01b",
	} {
		checkKeyOf(t, s, impl.Key{}, false)
	}
}

func TestKeyOfRejectsNumbers(t *testing.T) {
	for _, digits := range []string{
		"", "0", "7", "00", "000000", "999993", "100000", "00000000", "00999993", "01000000", "10000000", "0000000000", "09999930",
		"1000001", "1000010", "1999999", "2000000", "9999999", "-000001", "+000001", "-999999", "+999999", "-1000000", "+1000000", "-0", "-0000000", "+0000000", "+0999993",
		"0x00001", "0b00001", "0o00001", "099_993", "1e00005", "000000.", "00000.0", "000000a", "a000000", "000 000", "0000\x0100", "000000/", "000000:", "000000\xff",
		"\u0660000000", "\uff10000000", "18446744073709551616", "9223372036854775807", "9223372036854775808", "-9223372036854775808", "-9223372036854775809",
		"4294967296", strings.Repeat("0", 1000), strings.Repeat("9", 1000),
	} {
		checkKeyOf(t, "a\x01b\x01"+digits, impl.Key{}, false)
	}
}

// Whatever one change makes of a key's text, KeyOf takes it only if it is the text of the key that it returns.
func TestKeyOfOfChangedTexts(t *testing.T) {
	for _, k := range []impl.Key{{Row: "a", Bin: "b", Time: 7}, {Row: "abcdefgh", Bin: "zzzzzzzz", Time: 0}, {Row: "ab", Bin: "c", Time: 1000000}} {
		text := wantedText(k)
		for i := range len(text) + 1 {
			for b := range 256 {
				checkChangedText(t, text[:i]+string([]byte{byte(b)})+text[i:])
				if i < len(text) {
					checkChangedText(t, text[:i]+string([]byte{byte(b)})+text[i+1:])
				}
			}
			if i < len(text) {
				checkChangedText(t, text[:i]+text[i+1:])
				checkChangedText(t, text[:i])
				checkChangedText(t, text[i+1:])
			}
		}
	}
}

func checkChangedText(t *testing.T, s string) {
	t.Helper()
	k, ok := plainKey(s)
	checkKeyOf(t, s, k, ok)
}

// plainKey reads the text byte by byte.
func plainKey(s string) (impl.Key, bool) {
	parts := strings.Split(s, "\x01")
	if len(parts) != 3 || !plainName(parts[0]) || !plainName(parts[1]) || len(parts[2]) != 7 {
		return impl.Key{}, false
	}
	left := int64(0)
	for _, b := range []byte(parts[2]) {
		if b < '0' || b > '9' {
			return impl.Key{}, false
		}
		left = 10*left + int64(b-'0')
	}
	if left > 1000000 {
		return impl.Key{}, false
	}
	return impl.Key{Row: parts[0], Bin: parts[1], Time: 1000000 - left}, true
}

func plainName(s string) bool {
	return len(s) >= 1 && len(s) <= 8 && strings.Trim(s, "abcdefghijklmnopqrstuvwxyz") == ""
}

func TestKeyLessExamples(t *testing.T) {
	for _, c := range []struct{ first, second impl.Key }{
		{impl.Key{Row: "a", Bin: "b", Time: 7}, impl.Key{Row: "a", Bin: "b", Time: 6}},
		{impl.Key{Row: "a", Bin: "b", Time: 10}, impl.Key{Row: "a", Bin: "b", Time: 9}},
		{impl.Key{Row: "a", Bin: "b", Time: 1000000}, impl.Key{Row: "a", Bin: "b", Time: 0}},
		{impl.Key{Row: "a", Bin: "b", Time: 7}, impl.Key{Row: "a", Bin: "c", Time: 7}},
		{impl.Key{Row: "a", Bin: "b", Time: 7}, impl.Key{Row: "b", Bin: "b", Time: 7}},
		{impl.Key{Row: "a", Bin: "b", Time: 0}, impl.Key{Row: "a", Bin: "c", Time: 1000000}},
		{impl.Key{Row: "a", Bin: "z", Time: 0}, impl.Key{Row: "b", Bin: "a", Time: 1000000}},
		{impl.Key{Row: "a", Bin: "z", Time: 0}, impl.Key{Row: "ab", Bin: "a", Time: 1000000}},
		{impl.Key{Row: "a", Bin: "b", Time: 0}, impl.Key{Row: "a", Bin: "ba", Time: 1000000}},
		{impl.Key{Row: "a", Bin: "bc", Time: 7}, impl.Key{Row: "ab", Bin: "c", Time: 7}},
		{impl.Key{Row: "az", Bin: "b", Time: 7}, impl.Key{Row: "b", Bin: "a", Time: 7}},
		{impl.Key{Row: "aaaaaaaa", Bin: "b", Time: 7}, impl.Key{Row: "aaaaaaab", Bin: "b", Time: 7}},
		{impl.Key{Row: "aaaaaaa", Bin: "b", Time: 7}, impl.Key{Row: "aaaaaaaa", Bin: "b", Time: 7}},
	} {
		checkKeyLess(t, c.first, c.second, true)
		checkKeyLess(t, c.second, c.first, false)
		checkOrder(t, c.first, c.second)
		checkOrder(t, c.second, c.first)
	}
}

func TestKeyLessOfAKeyAndItself(t *testing.T) {
	for _, k := range someKeys() {
		checkKeyLess(t, k, k, false)
	}
}

func TestTextsAreOrderedAsKeys(t *testing.T) {
	keys := someKeys()
	for _, a := range keys {
		for _, b := range keys {
			checkOrder(t, a, b)
		}
	}
}

func TestTextsOfAnyKeysAreOrderedAsKeys(t *testing.T) {
	source := rand.New(rand.NewSource(4))
	for range 20000 {
		a, b := anyKey(source), anyKey(source)
		if source.Intn(2) == 0 {
			b.Row = a.Row
		}
		if source.Intn(3) == 0 {
			b.Bin = a.Bin
		}
		checkOrder(t, a, b)
	}
}

func TestKeyLessRejects(t *testing.T) {
	// The first and the last of all keys: each is less or greater than any key that only its validity rules out.
	first := impl.Key{Row: "a", Bin: "a", Time: 1000000}
	last := impl.Key{Row: "zzzzzzzz", Bin: "zzzzzzzz", Time: 0}
	middle := impl.Key{Row: "a", Bin: "b", Time: 7}
	for _, bad := range notKeys() {
		for _, k := range []impl.Key{first, middle, last} {
			checkKeyLess(t, bad, k, false)
			checkKeyLess(t, k, bad, false)
		}
		for _, other := range notKeys() {
			checkKeyLess(t, bad, other, false)
		}
	}
}
