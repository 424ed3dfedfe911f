package tests

import (
	"fmt"
	"math/big"
	"math/rand"
	"slices"
	"strconv"
	"strings"
	"testing"

	"loop.example/g00526/impl"
)

// someTexts returns texts that can be framed, among them some that look like parts of a frame.
func someTexts() []string {
	texts := []string{
		"", "a", "ab", "hay", "7", "0", "12", "300", " ", "  ", " a", "a ", " a ", "a b", "a  b c", "0 7 ", "1 1 a", "2 2022 ab", "2 2022 ", "-", "-1", "+1",
		"\x00", "\x01", "\x09", "\x0b", "\x0d", "a\x00b", "\x7f", "\x80", "\xff", "\xfe\xff\x00", "\r", "\u00e4\u4e16", "\u2028", "\x1a\x1b", "A_z~",
	}
	for _, size := range []int{9, 10, 11, 99, 100, 101, 298, 299, 300} {
		texts = append(texts, strings.Repeat("k", size), strings.Repeat(" ", size), strings.Repeat("9", size), strings.Repeat("\xff", size), strings.Repeat("\x00", size))
	}
	return texts
}

// notTexts returns texts that are too long or contain a newline.
func notTexts() []string {
	texts := []string{"\n", "\n\n", "a\n", "\na", "a\nb", "0 7 \n", "2 2022 ab\n", "ab\r\n", strings.Repeat("k", 299) + "\n", "\n" + strings.Repeat("k", 299), strings.Repeat("\n", 300)}
	for _, size := range []int{301, 302, 556, 600, 3000, 19990, 20000, 20001, 70000} {
		texts = append(texts, strings.Repeat("k", size), strings.Repeat("\n", size))
	}
	return texts
}

func anyText(source *rand.Rand) string {
	size := source.Intn(12)
	if source.Intn(8) == 0 {
		size = source.Intn(301)
	}
	bytes := make([]byte, size)
	for i := range bytes {
		bytes[i] = " 0123456789ab"[source.Intn(13)]
		if source.Intn(4) == 0 {
			bytes[i] = byte(source.Intn(256))
		}
		if bytes[i] == '\n' {
			bytes[i] = ' '
		}
	}
	return string(bytes)
}

func anyTexts(source *rand.Rand, count int) []string {
	texts := make([]string, count)
	for i := range texts {
		texts[i] = anyText(source)
	}
	return texts
}

// plainMark takes the remainder of an unlimited number once, at the end.
func plainMark(s string) int64 {
	h := big.NewInt(7)
	for _, b := range []byte(s) {
		h.Mul(h, big.NewInt(131)).Add(h, big.NewInt(int64(b)+1))
	}
	return h.Mod(h, big.NewInt(65521)).Int64()
}

func plainFramed(s string) string { return fmt.Sprintf("%d %d %s\n", len(s), plainMark(s), s) }

func fileOf(texts []string) string {
	var file strings.Builder
	for _, s := range texts {
		file.WriteString(plainFramed(s))
	}
	return file.String()
}

// plainFirst tries every size of a text and every number of digits of its Mark.
func plainFirst(s string) (string, bool) {
	for size := range 301 {
		head := strconv.Itoa(size) + " "
		if !strings.HasPrefix(s, head) {
			continue
		}
		for digits := 1; digits <= 5; digits++ {
			from := len(head) + digits + 1
			if from+size+1 > len(s) {
				continue
			}
			text := s[from : from+size]
			if !strings.Contains(text, "\n") && strings.HasPrefix(s, plainFramed(text)) {
				return text, true
			}
		}
	}
	return "", false
}

func plainFrames(s string) ([]string, int64) {
	var texts []string
	taken := 0
	for len(s) <= 20000 {
		text, is := plainFirst(s[taken:])
		if !is {
			break
		}
		texts = append(texts, text)
		taken += len(plainFramed(text))
	}
	return texts, int64(taken)
}

func checkFramesIn(t *testing.T, s string, want []string, wantTaken int64) {
	t.Helper()
	if got, taken := impl.FramesIn(s); !slices.Equal(got, want) || taken != wantTaken {
		t.Errorf("FramesIn(%s) = %q, %d, want %q, %d", shown(s), got, taken, want, wantTaken)
	}
}

// shown shortens a file for a message.
func shown(s string) string {
	if len(s) > 400 {
		return fmt.Sprintf("%q.. (%d bytes)", s[:400], len(s))
	}
	return strconv.Quote(s)
}

// checkBroken checks that part is not a frame: at the beginning of a file, behind frames, before them and with more bytes behind it.
func checkBroken(t *testing.T, part string) {
	t.Helper()
	before := []string{"ab", "", "c d"}
	file := fileOf(before)
	checkFramesIn(t, part, nil, 0)
	checkFramesIn(t, part+file, nil, 0)
	checkFramesIn(t, file+part, before, int64(len(file)))
	checkFramesIn(t, file+part+file, before, int64(len(file)))
	checkAppended(t, file+part+file, "hay", file+plainFramed("hay"), true)
}

func checkAppended(t *testing.T, file, s, want string, wantOk bool) {
	t.Helper()
	if got, ok := impl.Appended(file, s); got != want || ok != wantOk {
		t.Errorf("Appended(%s, %s) = %s, %v, want %s, %v", shown(file), shown(s), shown(got), ok, shown(want), wantOk)
	}
}

// textFramedIn returns a text whose frame has this number of bytes.
func textFramedIn(t *testing.T, size int) string {
	t.Helper()
	for n := max(size-11, 0); n <= 300; n++ {
		for b := 'a'; b <= 'z'; b++ {
			if s := strings.Repeat(string(b), n); len(plainFramed(s)) == size {
				return s
			}
		}
	}
	t.Fatalf("no frame of %d bytes", size)
	return ""
}

// textsOfSize returns texts whose frames have this number of bytes in all.
func textsOfSize(t *testing.T, size int) []string {
	t.Helper()
	var texts []string
	for size > 250 {
		texts = append(texts, textFramedIn(t, 110))
		size -= 110
	}
	return append(texts, textFramedIn(t, size))
}

func TestFrameLimits(t *testing.T) {
	if impl.MaxText != 300 || impl.MaxFile != 20000 {
		t.Error(impl.MaxText, impl.MaxFile)
	}
}

func TestMarkExamples(t *testing.T) {
	for _, c := range []struct {
		text string
		want int64
	}{
		{"", 7}, {"\x00", 918}, {"\n", 928}, {"a", 1015}, {"ab", 2022}, {"ba", 2152}, {"\xff", 1173}, {"aa", 2021}, {"abc", 2898}, {"~~~", 45615}, {"a b", 59772}, {"\xff\xff", 22877},
	} {
		if got := impl.Mark(c.text); got != c.want || got != plainMark(c.text) {
			t.Errorf("Mark(%q) = %d, want %d", c.text, got, c.want)
		}
	}
}

func TestMark(t *testing.T) {
	source := rand.New(rand.NewSource(5))
	for _, s := range slices.Concat(someTexts(), notTexts(), anyTexts(source, 2000)) {
		if got, want := impl.Mark(s), plainMark(s); got != want {
			t.Errorf("Mark(%s) = %d, want %d", shown(s), got, want)
		}
	}
}

func TestMarkOfEveryByte(t *testing.T) {
	for b := range 256 {
		s := string([]byte{byte(b)})
		if got, want := impl.Mark(s), int64(131*7+b+1); got != want {
			t.Errorf("Mark(%q) = %d, want %d", s, got, want)
		}
	}
}

func TestFramedExamples(t *testing.T) {
	for _, c := range []struct{ text, want string }{
		{"", "0 7 \n"},
		{"ab", "2 2022 ab\n"},
		{" ", "1 950  \n"},
		{"a b", "3 59772 a b\n"},
		{"12", "2 61207 12\n"},
		{"0 7 ", "4 11875 0 7 \n"},
		{"\x00", "1 918 \x00\n"},
		{"\xff\xff", "2 22877 \xff\xff\n"},
		{strings.Repeat("k", 300), "300 55897 " + strings.Repeat("k", 300) + "\n"},
	} {
		if got := impl.Framed(c.text); got != c.want {
			t.Errorf("Framed(%q) = %q, want %q", c.text, got, c.want)
		}
		checkFramesIn(t, c.want, []string{c.text}, int64(len(c.want)))
		checkAppended(t, "", c.text, c.want, true)
	}
}

func TestFramed(t *testing.T) {
	source := rand.New(rand.NewSource(6))
	for _, s := range append(someTexts(), anyTexts(source, 2000)...) {
		if got, want := impl.Framed(s), plainFramed(s); got != want {
			t.Errorf("Framed(%s) = %q, want %q", shown(s), got, want)
		}
	}
}

func TestFramedRejects(t *testing.T) {
	for _, s := range notTexts() {
		if got := impl.Framed(s); got != "" {
			t.Errorf("Framed(%s) = %q", shown(s), got)
		}
	}
}

func TestFramedOfEveryByte(t *testing.T) {
	for b := range 256 {
		s := "x" + string([]byte{byte(b)}) + "y"
		want := plainFramed(s)
		if b == '\n' {
			want = ""
		}
		if got := impl.Framed(s); got != want {
			t.Errorf("Framed(%q) = %q, want %q", s, got, want)
		}
	}
}

func TestFramesInOfEachText(t *testing.T) {
	for _, s := range someTexts() {
		frame := plainFramed(s)
		checkFramesIn(t, frame, []string{s}, int64(len(frame)))
		checkFramesIn(t, frame+frame, []string{s, s}, int64(2*len(frame)))
	}
}

func TestFramesInOfTheEmptyFile(t *testing.T) {
	checkFramesIn(t, "", nil, 0)
}

// Promise 3, of whole files.
func TestFramesInAreTheTextsThatWereAppended(t *testing.T) {
	source := rand.New(rand.NewSource(7))
	for range 300 {
		texts, file, ok := anyTexts(source, source.Intn(30)), "", true
		for i, s := range texts {
			file, ok = impl.Appended(file, s)
			if want := fileOf(texts[:i+1]); !ok || file != want {
				t.Fatalf("after %q the file is %q, %v, want %q", texts[:i+1], file, ok, want)
			}
			checkFramesIn(t, file, texts[:i+1], int64(len(file)))
		}
	}
}

// Promise 3, of truncated files: whole says of how many texts the frames are complete.
func TestFramesInOfATruncatedFile(t *testing.T) {
	source := rand.New(rand.NewSource(8))
	for _, texts := range [][]string{
		{"ab", "", "hay", "", "1 1015 a", strings.Repeat("k", 300)}, {""}, {" ", "  "}, {"0 7 "}, someTexts()[:20], anyTexts(source, 20), anyTexts(source, 20),
	} {
		file, whole := fileOf(texts), 0
		for size := range len(file) + 1 {
			for whole < len(texts) && len(fileOf(texts[:whole+1])) <= size {
				whole++
			}
			taken := len(fileOf(texts[:whole]))
			checkFramesIn(t, file[:size], texts[:whole], int64(taken))
			checkAppended(t, file[:size], "c 7", file[:taken]+plainFramed("c 7"), true)
		}
	}
}

func TestFramesInOfNoFrame(t *testing.T) {
	for _, part := range []string{
		"\n", " ", "0", "a", "\x00", "\xff", "ab\n", "\n\n", "  \n", "   \n", "7 \n", " 7 \n", "0 \n", "0\n", "0 7", "0 7\n", "0 7 ", "07 \n", "0 7 7\n", "0  \n", "-\n", "2022 ab\n", "2 ab\n", "ab 2 2022\n",
		"2 2022 ab", "2 2022 a", "2 2022 a\n", "2 2022 abc\n", "2 2022 ab\r\n", "2 2022 ab\x00", "2 2022 ab ", "2 2022 ab \n", "2 2022 ab\x0b", "2 2022 abab\n",
		"2 2022 \nab\n", "2 2022\nab\n", "2\n2022 ab\n", "\n2 2022 ab\n", "2 2022 a\nb\n", "2 2022 ba\n", "2 2022 AB\n", "2 2022 ac\n",
	} {
		checkBroken(t, part)
	}
}

func TestFramesInOfWrongSizes(t *testing.T) {
	for _, size := range []string{
		"", "0", "1", "3", "4", "12", "20", "22", "02", "002", "+2", "-2", "2.", "2.0", "2a", "a", "a2", "0x2", "2_", "b", "/", ":", "\x002", "2\x00", "\xb2", "\u0662", "\uff12", "258", "300", "301", "-0", "-1",
		"65538", "4294967298", "2147483648", "9223372036854775807", "9223372036854775808", "18446744073709551618", "36893488147419103234",
		strings.Repeat("0", 400) + "2", strings.Repeat("2", 5000),
	} {
		checkBroken(t, size+" 2022 ab\n")
	}
	for _, size := range []string{"", "00", "+0", "-0", "1", "2"} {
		checkBroken(t, size+" 7 \n")
	}
	// The Mark is that of the text, and the size is that of another part of the file.
	checkBroken(t, "1 2022 ab\n")
	checkBroken(t, "9 2022 ab\n0 7 \n")
	checkBroken(t, "8 2022 ab\n0 7 \n")
}

func TestFramesInOfWrongMarks(t *testing.T) {
	for _, mark := range []string{
		"", "0", "7", "202", "022", "2021", "2023", "1015", "20220", "02022", "002022", "+2022", "-2022", "-63499", "2022.", "2022a", "a2022", "a", "7e6", "0x7e6", "2_022", "/", ":", "2022\x00", "\uff12022",
		"67543", "133064", "65521", "4294969318", "18446744073709553638", strings.Repeat("0", 400) + "2022", strings.Repeat("9", 5000),
	} {
		checkBroken(t, "2 "+mark+" ab\n")
	}
	for _, mark := range []string{"", "0", "07", "007", "+7", "-7", "8", "65528", "70"} {
		checkBroken(t, "0 "+mark+" \n")
	}
}

func TestFramesInOfWrongGaps(t *testing.T) {
	for _, part := range []string{
		"22022 ab\n", "2 2022ab\n", "22022ab\n", "2  2022 ab\n", "2 2022  ab\n", "2  2022  ab\n", " 2 2022 ab\n", "  2 2022 ab\n", "2 2022 ab \n",
		"2\t2022 ab\n", "2 2022\tab\n", "2\x002022 ab\n", "2 2022\x00ab\n", "2\n2022 ab\n", "2 2022\nab\n", "2-2022-ab\n", "2\u00a02022 ab\n", "2!2022 ab\n", "2 2022\x1fab\n",
		"2 2022 ab\r", "2 2022 ab\t", "2 2022 ab\x0b", "2 2022 ab\x0c", "2 2022 ab;", "2 2022 ab\u0085", "2 2022 ab\u2028",
	} {
		checkBroken(t, part)
	}
	// A doubled newline ends the frames behind the first one.
	checkFramesIn(t, "2 2022 ab\n\n2 2022 ab\n", []string{"ab"}, 10)
	checkAppended(t, "2 2022 ab\n\n2 2022 ab\n", "", "2 2022 ab\n0 7 \n", true)
}

func TestFramesInOfTextsThatCannotBeFramed(t *testing.T) {
	for _, s := range notTexts() {
		if len(s) < 10000 {
			checkBroken(t, plainFramed(s))
		}
	}
}

// Whatever one change makes of a file, FramesIn takes it only as far as it consists of frames.
func TestFramesInOfChangedFiles(t *testing.T) {
	file := fileOf([]string{"", "ab", "c 7", "1"})
	for i := range len(file) + 1 {
		for b := range 256 {
			other := string([]byte{byte(b)})
			checkChangedFile(t, file[:i]+other+file[i:])
			if i < len(file) {
				checkChangedFile(t, file[:i]+other+file[i+1:])
			}
		}
		for end := i; end <= len(file); end++ {
			checkChangedFile(t, file[:i]+file[end:])
			checkChangedFile(t, file[:end]+file[i:])
		}
	}
}

func checkChangedFile(t *testing.T, s string) {
	t.Helper()
	texts, taken := plainFrames(s)
	checkFramesIn(t, s, texts, taken)
	checkAppended(t, s, "hay", s[:taken]+plainFramed("hay"), true)
}

func TestFramesInOfAnyBytes(t *testing.T) {
	source := rand.New(rand.NewSource(9))
	for range 20000 {
		file := make([]byte, source.Intn(30))
		for i := range file {
			file[i] = "0127 \n\n  ab"[source.Intn(11)]
		}
		checkChangedFile(t, string(file))
		checkChangedFile(t, "2 2022 ab\n"+string(file))
	}
}

func TestFramesInOfTheGreatestFile(t *testing.T) {
	for _, size := range []int{19998, 19999, 20000} {
		texts := textsOfSize(t, size)
		checkFramesIn(t, fileOf(texts), texts, int64(size))
	}
	checkFramesIn(t, fileOf(textsOfSize(t, 20001)), nil, 0)
	checkFramesIn(t, fileOf(textsOfSize(t, 20010)), nil, 0)
	many := slices.Repeat([]string{""}, 4000)
	checkFramesIn(t, fileOf(many), many, 20000)
	checkFramesIn(t, fileOf(many)+"0", nil, 0)
	checkFramesIn(t, fileOf(many)+"0 7 \n", nil, 0)
	checkFramesIn(t, fileOf(many)[:19999], many[:3999], 19995)
}

func TestFramesInOfGreatFilesOfOtherParts(t *testing.T) {
	for _, part := range []string{"a", "0", " ", "\n", "7 ", "0 7 ", "\xff"} {
		for _, size := range []int{20000, 20001, 100000} {
			file := ("2 2022 ab\n" + strings.Repeat(part, size))[:size]
			if texts, taken := plainFrames(file); size <= 20000 {
				checkFramesIn(t, file, texts, taken)
				checkFramesIn(t, file, []string{"ab"}, 10)
				checkAppended(t, file, "", "2 2022 ab\n0 7 \n", true)
			} else {
				checkFramesIn(t, file, nil, 0)
				checkAppended(t, file, "", file, false)
			}
		}
	}
}

func TestAppendedToFramesAndAPart(t *testing.T) {
	for _, s := range someTexts() {
		for _, part := range []string{"", "2 2022 a", "3 1 tor", "x", "\n", "0 8 \n", "2 2022 ab", "0 8 \n2 2022 ab\n"} {
			checkAppended(t, part, s, plainFramed(s), true)
			checkAppended(t, "2 2022 ab\n0 7 \n"+part, s, "2 2022 ab\n0 7 \n"+plainFramed(s), true)
		}
	}
}

func TestAppendedRejectsTexts(t *testing.T) {
	for _, s := range notTexts() {
		for _, file := range []string{"", "2 2022 ab\n", "2 2022 ab\n0 7", "x", strings.Repeat("x", 20000), strings.Repeat("x", 20001)} {
			checkAppended(t, file, s, file, false)
		}
	}
}

func TestAppendedUpToTheGreatestFile(t *testing.T) {
	for _, s := range []string{"", "ab", "a b", strings.Repeat("k", 100), strings.Repeat("k", 300)} {
		frame := plainFramed(s)
		for more := -2; more <= 2; more++ {
			file := fileOf(textsOfSize(t, 20000-len(frame)+more))
			if more <= 0 {
				checkAppended(t, file, s, file+frame, true)
			} else {
				checkAppended(t, file, s, file, false)
			}
			// The incomplete part is left out of the result, so its bytes do not count there.
			tail := strings.Repeat("x", 20000-len(file))
			if more <= 0 {
				checkAppended(t, file+tail, s, file+frame, true)
				checkAppended(t, file+tail+"x", s, file+tail+"x", false)
			} else {
				checkAppended(t, file+tail, s, file+tail, false)
			}
		}
	}
}

func TestAppendedToAFileThatIsTooGreat(t *testing.T) {
	for _, file := range []string{
		strings.Repeat("x", 20001), strings.Repeat("\n", 20001), "2 2022 ab\n" + strings.Repeat("x", 19991), "2 2022 ab\n" + strings.Repeat("x", 70000),
		fileOf(textsOfSize(t, 20001)), fileOf(textsOfSize(t, 20500)),
	} {
		checkAppended(t, file, "ab", file, false)
		checkAppended(t, file, "", file, false)
	}
	checkAppended(t, strings.Repeat("x", 20000), "ab", "2 2022 ab\n", true)
	checkAppended(t, fileOf(textsOfSize(t, 20000)), "", fileOf(textsOfSize(t, 20000)), false)
}

func TestFramesInReturnsNewMemory(t *testing.T) {
	file := "2 2022 ab\n0 7 \n"
	first, _ := impl.FramesIn(file)
	first[0], first[1] = "x", "y"
	_ = append(first[:1], "z")
	checkFramesIn(t, file, []string{"ab", ""}, 15)
}
