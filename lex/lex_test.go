package lex_test

import (
	"math"
	"slices"
	"strconv"
	"strings"
	"testing"
	"unsafe"

	"fescue/api"
	"fescue/lex"
)

// isBlank tells by the document's words whether a byte is a blank.
func isBlank(b byte) bool { return b == 32 || b == 9 || b == 13 }

// linesOf tells by the document's words what Lines answers of s.
func linesOf(s string) ([][]string, api.Errno) {
	if len(s) > 16384 {
		return nil, api.ErrMany
	}
	var all [][]string
	for _, line := range strings.Split(s, "\n") {
		line, _, _ = strings.Cut(line, "#")
		var words []string
		for line != "" {
			if isBlank(line[0]) {
				line = line[1:]
				continue
			}
			size := 1
			for size < len(line) && !isBlank(line[size]) {
				size++
			}
			words, line = append(words, line[:size]), line[size:]
		}
		if len(words) > 64 {
			return nil, api.ErrMany
		}
		if len(words) > 0 {
			all = append(all, words)
		}
	}
	return all, api.OK
}

// wordMay tells by the document's words whether a word may be.
func wordMay(w string) bool {
	for _, c := range []string{" ", "\t", "\r", "\n", "#"} {
		if strings.Contains(w, c) {
			return false
		}
	}
	return len(w) > 0
}

// textOf tells by the document's words what Join answers of l.
func textOf(l [][]string) (string, api.Errno) {
	text, many := "", false
	for _, words := range l {
		if len(words) == 0 {
			return "", api.ErrArg
		}
		many = many || len(words) > 64
		for i, w := range words {
			if !wordMay(w) {
				return "", api.ErrArg
			}
			if i > 0 {
				text += " "
			}
			text += w
		}
		text += "\n"
	}
	if many || len(text) > 16384 {
		return "", api.ErrMany
	}
	return text, api.OK
}

// alike tells whether both have the same lines, word by word.
func alike(a, b [][]string) bool {
	return slices.EqualFunc(a, b, func(x, y []string) bool { return slices.Equal(x, y) })
}

// copied answers l in new memory.
func copied(l [][]string) [][]string {
	var all [][]string
	for _, words := range l {
		all = append(all, append(make([]string, 0, len(words)), words...))
	}
	return all
}

// short answers a text, or the beginning of one that is long.
func short(s string) string {
	if len(s) <= 200 {
		return strconv.Quote(s)
	}
	return strconv.Quote(s[:200]) + " and so on, " + strconv.Itoa(len(s)) + " bytes"
}

// mustHave holds what Lines answers of s against lines.
func mustHave(t *testing.T, s string, want ...[]string) {
	t.Helper()
	if l, e := lex.Lines(s); e != api.OK || !alike(l, want) {
		t.Errorf("Lines(%s) = %q, %d; want %q, OK", short(s), l, e, want)
	}
}

// mustBeMany holds Lines of s against ErrMany, with no lines beside it.
func mustBeMany(t *testing.T, s string) {
	t.Helper()
	if l, e := lex.Lines(s); l != nil || e != api.ErrMany {
		t.Errorf("Lines(%s) = %d lines, %d; want none, ErrMany", short(s), len(l), e)
	}
}

// mustAgree holds Lines of s against the document's words.
func mustAgree(t *testing.T, s string) {
	t.Helper()
	want, we := linesOf(s)
	if l, e := lex.Lines(s); e != we || !alike(l, want) {
		t.Fatalf("Lines(%s) = %q, %d; want %q, %d", short(s), l, e, want, we)
	}
}

// mustJoin holds Join of l against a text.
func mustJoin(t *testing.T, want string, l ...[]string) {
	t.Helper()
	if s, e := lex.Join(l); s != want || e != api.OK {
		t.Errorf("Join(%q) = %s, %d; want %s, OK", l, short(s), e, short(want))
	}
}

// mustRefuse holds Join of l against an error, with an empty text beside it.
func mustRefuse(t *testing.T, want api.Errno, l ...[]string) {
	t.Helper()
	if s, e := lex.Join(l); s != "" || e != want {
		t.Errorf("Join of %d lines = %s, %d; want nothing, %d", len(l), short(s), e, want)
	}
}

// mustMark holds Mark of s and c against a number and an error.
func mustMark(t *testing.T, s string, c byte, want int, we api.Errno) {
	t.Helper()
	if n, e := lex.Mark(s, c); n != want || e != we {
		t.Errorf("Mark(%s, %d) = %d, %d; want %d, %d", short(s), c, n, e, want, we)
	}
}

// row answers a line of so many words.
func row(many int, word string) []string { return slices.Repeat([]string{word}, many) }

// spaced answers the text of a line of so many words, without a line feed.
func spaced(many int) string { return strings.Repeat("w ", many-1) + "w" }

// mixed answers texts by the thousand, that come out alike each time.
func mixed() []string {
	state := uint64(5)
	next := func(below int) int {
		state = state*6364136223846793005 + 1442695040888963407
		return int((state >> 33) % uint64(below))
	}
	pieces := []string{
		" ", " ", "  ", "\t", "\r", "\n", "\n", "\r\n", "\n\n", "#", " #", "# ", "a", "b", "r12", "type", "-7", "\x80", "\xff\xfe", "é", "\u00a0", "\u2028", "\v", "\f", "\x00", "\x1f", "!", "\"",
	}
	var all []string
	for range 4000 {
		var s strings.Builder
		for range next(60) {
			s.WriteString(pieces[next(len(pieces))])
		}
		all = append(all, s.String())
	}
	for range 300 { // lines of about as many words as there may be
		var s strings.Builder
		for range 1 + next(3) {
			for range 60 + next(7) {
				s.WriteString("w" + pieces[next(5)])
			}
			s.WriteString(pieces[5+next(7)])
		}
		all = append(all, s.String())
	}
	return all
}

// P5.1: ordinary texts, and the document's example.
func TestLines(t *testing.T) {
	mustHave(t, "a  b # c\n#\n\td", []string{"a", "b"}, []string{"d"})
	mustHave(t, "type int\ntype fn t0\nfunc t1\nblock\nr0 t0 = int 5\nreturn r0\n",
		[]string{"type", "int"}, []string{"type", "fn", "t0"}, []string{"func", "t1"}, []string{"block"}, []string{"r0", "t0", "=", "int", "5"}, []string{"return", "r0"})
	mustHave(t, "a\nb\nc", []string{"a"}, []string{"b"}, []string{"c"})
	mustHave(t, "a a a\na a a\n", []string{"a", "a", "a"}, []string{"a", "a", "a"})
}

// P5.1: texts and lines without words.
func TestLinesOfNothing(t *testing.T) {
	for _, s := range []string{
		"", " ", "\t", "\r", "   ", " \t\r \t\r", "\n", "\n\n", "\n\n\n", "\r\n", "\r\n\r\n", " \n", "\n ", " \n\t\n\r", "#", "##", "###", "#\n", "\n#", "#\n#", "#a", "# a", " #", "\t#", "\r#a b c", "#a\n#b\n#c\n", "# # #\n", "#\r\n#\r\n", "#\x00\xff", strings.Repeat("\n", 16000), strings.Repeat(" ", 16000), strings.Repeat("#", 16000), "#" + strings.Repeat("a ", 8000),
	} {
		mustHave(t, s)
		mustHave(t, s+"\na", []string{"a"})
		mustHave(t, "a\n"+s, []string{"a"})
		mustHave(t, "a b\n"+s+"\nc d\n", []string{"a", "b"}, []string{"c", "d"})
	}
}

// P5.1: with a line feed at the end, and without one.
func TestLinesEnd(t *testing.T) {
	for _, end := range []string{"", "\n", "\n\n", " ", " \n", "\r", "\r\n", "\t", "#", "#\n", " #", "#a", "# a b\n", "\n#", "\n "} {
		mustHave(t, "a"+end, []string{"a"})
		mustHave(t, "ab cd"+end, []string{"ab", "cd"})
		mustHave(t, "a\nb c"+end, []string{"a"}, []string{"b", "c"})
	}
}

// P5.1: each of the blanks, one and several of them, ahead of the first word, between words, and behind the last.
func TestLinesBlanks(t *testing.T) {
	blanks := []string{" ", "\t", "\r", "  ", "\t\t", "\r\r", " \t", "\t ", " \r", "\r ", "\t\r", "\r\t", " \t\r", "\r\t ", strings.Repeat(" ", 500), strings.Repeat("\t", 500), strings.Repeat("\r", 500), strings.Repeat("\r \t", 200)}
	for _, x := range blanks {
		mustHave(t, x+"a", []string{"a"})
		mustHave(t, "a"+x, []string{"a"})
		mustHave(t, "a"+x+"b", []string{"a", "b"})
		mustHave(t, x+"a"+x+"b"+x, []string{"a", "b"})
		mustHave(t, "a"+x+"#"+x+"b", []string{"a"})
		mustHave(t, x+"a"+x+"\n"+x+"b"+x+"\n"+x, []string{"a"}, []string{"b"})
		for _, y := range blanks {
			mustHave(t, x+"ab"+y+"cd"+x, []string{"ab", "cd"})
		}
	}
}

// P5.1: a # at a line's begin, right behind a word, behind blanks, and behind a #; the next line begins anew.
func TestLinesHash(t *testing.T) {
	mustHave(t, "a#b", []string{"a"})
	mustHave(t, "a#", []string{"a"})
	mustHave(t, "a##b", []string{"a"})
	mustHave(t, "a# b", []string{"a"})
	mustHave(t, "a #b c", []string{"a"})
	mustHave(t, "a b#c d#e", []string{"a", "b"})
	mustHave(t, "a b # c # d", []string{"a", "b"})
	mustHave(t, "#a\nb", []string{"b"})
	mustHave(t, "#a#b\nb#\nc", []string{"b"}, []string{"c"})
	mustHave(t, "a#b\nc#d\n#e\nf", []string{"a"}, []string{"c"}, []string{"f"})
	mustHave(t, "a#\n#\nb", []string{"a"}, []string{"b"})
	mustHave(t, "a # \r b \t c\r\nd", []string{"a"}, []string{"d"})
}

// P5.1: each byte, alone, in a word, ahead of one, behind one, and behind a #: only the blanks, the line feed and the # are other than a word's.
func TestLinesEachByte(t *testing.T) {
	for n := range 256 {
		b := string([]byte{byte(n)})
		for _, s := range []string{b, b + b, "a" + b, b + "a", "a" + b + "c", "a " + b + " c", "a" + b + b + "c", "a#" + b + "c", "a\n" + b + "c", b + "\na"} {
			mustAgree(t, s)
		}
		switch n {
		case 32, 9, 13:
			mustHave(t, "a"+b+"c", []string{"a", "c"})
		case 10:
			mustHave(t, "a"+b+"c", []string{"a"}, []string{"c"})
		case 35:
			mustHave(t, "a"+b+"c", []string{"a"})
		default:
			mustHave(t, "a"+b+"c", []string{"a" + b + "c"})
			mustHave(t, b, []string{b})
		}
	}
}

// P5.1: bytes above 127, those of runes and those of none, are a word's, also where a rune is a blank, or a part of its number is one of ours.
func TestLinesHighBytes(t *testing.T) {
	for _, w := range []string{
		"é", "\u0085", "\u00a0", "\u1680", "\u2003", "\u2028", "\u2029", "\u202f", "\u3000", "\ufeff", "\ufffd", "\u0120", "\u0109", "\u010d", "\u010a", "\u0123", "\U00010020", "\U0001f600",
		"\x80", "\xa0", "\x85", "\xa3", "\x8a", "\xff", "\xfe\xff", "\xc3", "\xe2\x80", "\xf0\x90\x80", "\xc0\xa0", "\xc0\x8a", "\xed\xa0\x80", "\xf4\x90\x80\x80", "\x00", "\x7f", "\v", "\f", "\b", "\x1b", "\"", "'", "\\", "\\n", "//", ";",
	} {
		mustHave(t, w, []string{w})
		mustHave(t, "a "+w+" b\n"+w+w, []string{"a", w, "b"}, []string{w + w})
		mustHave(t, w+"#"+w, []string{w})
		mustHave(t, "a"+w+"\tb", []string{"a" + w, "b"})
		mustHave(t, "#"+w+"\n"+w, []string{w})
	}
}

// P5.1: all texts of up to six of the bytes that matter.
func TestLinesShort(t *testing.T) {
	bytes := "a \t\n#\xe9\r"
	texts := []string{""}
	for at := 0; len(texts[at]) < 6; at++ {
		for i := range len(bytes) {
			texts = append(texts, texts[at]+bytes[i:i+1])
		}
	}
	for _, s := range texts {
		mustAgree(t, s)
	}
}

// P5.1: texts of all sorts.
func TestLinesMixed(t *testing.T) {
	told := map[api.Errno]int{}
	for _, s := range mixed() {
		mustAgree(t, s)
		_, e := lex.Lines(s)
		told[e]++
	}
	if told[api.OK] < 1000 || told[api.ErrMany] < 30 {
		t.Errorf("texts are too much alike: %v", told)
	}
}

// P5.1: a text of MaxText bytes, and of one more, whatever these bytes are.
func TestLinesMaxText(t *testing.T) {
	for _, piece := range []string{"a", " ", "\n", "#", "\t", "\xff", "a\n", "# a", "a b#c\n", "\n\n", "é"} {
		s := strings.Repeat(piece, 16384/len(piece)+2)
		mustAgree(t, s[:16383])
		mustAgree(t, s[:16384])
		if _, e := lex.Lines(s[:16384]); e != api.OK {
			t.Errorf("Lines of MaxText bytes of %q: %d; want OK", piece, e)
		}
		mustBeMany(t, s[:16385])
		mustBeMany(t, strings.Repeat(s, 3))
	}
	word := strings.Repeat("w", 16384)
	mustHave(t, word, []string{word})
	mustHave(t, word[1:]+"\n", []string{word[1:]})
	mustBeMany(t, word+"\n")
	mustBeMany(t, word+"#")
	mustBeMany(t, "#"+word)
	mustBeMany(t, strings.Repeat("a", 10_000_000))
	mustBeMany(t, strings.Repeat("\n", 1<<24))
}

// P5.1: a line of MaxWords words, and of one more, wherever it stands; words behind a # don't count, nor those of other lines.
func TestLinesMaxWords(t *testing.T) {
	full := row(64, "w")
	for _, s := range []string{spaced(64), spaced(64) + "\n", "\t" + spaced(64) + " \r", spaced(64) + "#w", spaced(64) + " # w", spaced(64) + " # w w w\n", spaced(64) + "##" + spaced(70), strings.ReplaceAll(spaced(64), " ", "\r\t ")} {
		mustHave(t, s, full)
		mustHave(t, "a\n"+s, []string{"a"}, full)
		mustHave(t, s+"\nb c", full, []string{"b", "c"})
		mustHave(t, s+"\n"+s, full, full)
	}
	for _, s := range []string{spaced(65), spaced(65) + "\n", "\t" + spaced(65) + " \r", spaced(65) + "#", spaced(65) + " # w", spaced(66), spaced(1000), spaced(8192), strings.ReplaceAll(spaced(65), " ", "\r\t ")} {
		mustBeMany(t, s)
		mustBeMany(t, "a\n"+s)
		mustBeMany(t, "#\n\n"+s)
		if len(s) < 10_000 {
			mustBeMany(t, s+"\nb c")
			mustBeMany(t, spaced(64)+"\n"+s+"\n"+spaced(64)+"\n")
			mustHave(t, "#"+s)
			mustHave(t, "a # "+s+"\nb", []string{"a"}, []string{"b"})
		}
	}
	lines := slices.Repeat([][]string{full}, 128)
	mustHave(t, strings.Repeat(spaced(64)+"\n", 128), lines...)
	mustBeMany(t, strings.Repeat(spaced(64)+"\n", 127)+spaced(65)[1:]+"w")
	mustBeMany(t, strings.Repeat(spaced(64)+"\n", 127)[2:]+spaced(65))
}

// P5.2: ordinary lines.
func TestJoin(t *testing.T) {
	mustJoin(t, "")
	mustJoin(t, "a\n", []string{"a"})
	mustJoin(t, "a b\nd\n", []string{"a", "b"}, []string{"d"})
	mustJoin(t, "a\na\na\n", []string{"a"}, []string{"a"}, []string{"a"})
	mustJoin(t, "r0 t0 = int -5\nreturn r0\n", []string{"r0", "t0", "=", "int", "-5"}, []string{"return", "r0"})
	if s, e := lex.Join([][]string{}); s != "" || e != api.OK {
		t.Errorf("Join of an empty list: %q, %d", s, e)
	}
}

// P5.2: a word has no blank, no line feed and no #, and any other byte.
func TestJoinEachByte(t *testing.T) {
	for n := range 256 {
		b := string([]byte{byte(n)})
		for _, w := range []string{b, "a" + b, b + "a", "a" + b + "c", b + b} {
			if !wordMay(w) {
				mustRefuse(t, api.ErrArg, []string{w})
				mustRefuse(t, api.ErrArg, []string{"a", w, "b"})
				mustRefuse(t, api.ErrArg, []string{"a"}, []string{w, "b"}, []string{"c"})
				continue
			}
			mustJoin(t, w+"\n", []string{w})
			mustJoin(t, "a "+w+"\n"+w+"\n", []string{"a", w}, []string{w})
		}
	}
	for _, w := range []string{"\u0085", "\u00a0", "\u2028", "\u3000", "\u0120", "\u010a", "\u0123", "\xc0\xa0", "\xe2\x80", "\xff\xfe"} {
		mustJoin(t, w+"\n", []string{w})
	}
	for _, b := range []byte{9, 10, 13, 32, 35} {
		mustRefuse(t, api.ErrArg, []string{string([]byte{b})})
	}
}

// P5.2: a line without words, and an empty word, wherever they stand.
func TestJoinNothing(t *testing.T) {
	for _, none := range [][]string{nil, {}, {""}, {"", ""}, {"", "a"}, {"a", ""}, {"a", "", "b"}, {" "}, {"a", "\n"}, {"#"}, {"a", "b#"}, {"a b"}, {"a\tb"}, {"\r"}} {
		mustRefuse(t, api.ErrArg, none)
		mustRefuse(t, api.ErrArg, none, none)
		mustRefuse(t, api.ErrArg, none, []string{"a"})
		mustRefuse(t, api.ErrArg, []string{"a"}, none)
		mustRefuse(t, api.ErrArg, []string{"a"}, none, []string{"b"})
	}
}

// P5.2: a line of MaxWords words, and of one more.
func TestJoinMaxWords(t *testing.T) {
	full := row(64, "w")
	text := spaced(64) + "\n"
	mustJoin(t, text, full)
	mustJoin(t, "a\n"+text+"b\n", []string{"a"}, full, []string{"b"})
	mustJoin(t, strings.Repeat(text, 128), slices.Repeat([][]string{full}, 128)...)
	for _, many := range []int{65, 66, 128, 8192, 100_000} {
		mustRefuse(t, api.ErrMany, row(many, "w"))
		mustRefuse(t, api.ErrMany, []string{"a"}, row(many, "w"))
		mustRefuse(t, api.ErrMany, row(many, "w"), []string{"a"})
		mustRefuse(t, api.ErrMany, full, row(many, "w"), full)
	}
}

// P5.2: a text of MaxText bytes, and of one more: the line feed behind the last line counts.
func TestJoinMaxText(t *testing.T) {
	word := strings.Repeat("w", 16384)
	mustJoin(t, word[1:]+"\n", []string{word[1:]})
	mustRefuse(t, api.ErrMany, []string{word})
	mustRefuse(t, api.ErrMany, []string{word + "w"})
	mustJoin(t, "a "+word[3:]+"\n", []string{"a", word[3:]})
	mustRefuse(t, api.ErrMany, []string{"a", word[2:]})
	mustJoin(t, "a\n"+word[3:]+"\n", []string{"a"}, []string{word[3:]})
	mustRefuse(t, api.ErrMany, []string{"a"}, []string{word[2:]})
	mustJoin(t, strings.Repeat("a\n", 8192), slices.Repeat([][]string{{"a"}}, 8192)...)
	mustRefuse(t, api.ErrMany, slices.Repeat([][]string{{"a"}}, 8193)...)
	mustRefuse(t, api.ErrMany, append(slices.Repeat([][]string{{"a"}}, 8191), []string{"aa"})...)
	full := slices.Repeat([][]string{row(64, "w")}, 128)
	full[127] = append(row(63, "w"), "ww")
	mustRefuse(t, api.ErrMany, full...)
	full[127] = row(63, "w")
	mustJoin(t, strings.Repeat(spaced(64)+"\n", 127)+spaced(63)+"\n", full...)
	mustRefuse(t, api.ErrMany, slices.Repeat([][]string{row(64, "w")}, 100_000)...)
	mustRefuse(t, api.ErrMany, row(64, strings.Repeat("é", 1_000_000)))
}

// P5.2, P1: what may not be is told ahead of what is too much, wherever both stand.
func TestJoinWhichFirst(t *testing.T) {
	long := strings.Repeat("w", 16385)
	for _, much := range [][]string{row(65, "w"), row(1000, "w"), {long}, {"a", long}, row(65, long)} {
		for _, bad := range [][]string{nil, {}, {""}, {"a", " "}, {"#"}, {"a", "b\n"}, append(row(64, "w"), ""), {long + " "}} {
			mustRefuse(t, api.ErrArg, much, bad)
			mustRefuse(t, api.ErrArg, bad, much)
			mustRefuse(t, api.ErrArg, much, []string{"a"}, bad)
			mustRefuse(t, api.ErrArg, slices.Concat(much, bad, []string{""}))
		}
	}
	mustRefuse(t, api.ErrArg, append(slices.Repeat([][]string{{"a"}}, 9000), nil)...)
	mustRefuse(t, api.ErrArg, append(slices.Repeat([][]string{{"a"}}, 9000), []string{"#"})...)
}

// P5.2: lines of all sorts.
func TestJoinMixed(t *testing.T) {
	told := map[api.Errno]int{}
	for _, s := range mixed() {
		for _, cut := range []string{" ", "\n", "\t"} {
			var l [][]string
			for _, line := range strings.Split(s, "\n") {
				l = append(l, strings.Split(line, cut))
			}
			want, we := textOf(l)
			told[we]++
			if got, e := lex.Join(l); got != want || e != we {
				t.Fatalf("Join(%q) = %s, %d; want %s, %d", l, short(got), e, short(want), we)
			}
		}
	}
	if told[api.OK] < 20 || told[api.ErrArg] < 1000 {
		t.Errorf("lines are too much alike: %v", told)
	}
}

// P5.3: the numbers from 0 to 999, and the document's example.
func TestMark(t *testing.T) {
	mustMark(t, "r12", 'r', 12, api.OK)
	mustMark(t, "r012", 'r', 0, api.ErrNum)
	mustMark(t, "r", 'r', 0, api.ErrNum)
	mustMark(t, "x1", 'r', 0, api.ErrNum)
	for n := range 1000 {
		own := strconv.Itoa(n)
		for _, c := range []byte{'r', 't', 'b', 'f', 0, ' ', '\n', '#', '-', '+', '0', '1', '9', 127, 128, 255} {
			mark := string([]byte{c}) + own
			mustMark(t, mark, c, n, api.OK)
			mustMark(t, mark, c+1, 0, api.ErrNum)
			mustMark(t, string([]byte{c, '0'})+own, c, 0, api.ErrNum)
			mustMark(t, string([]byte{c, '-'})+own, c, 0, api.ErrNum)
			mustMark(t, string([]byte{c, '+'})+own, c, 0, api.ErrNum)
			if n == 0 || n >= 100 {
				mustMark(t, mark+"0", c, 0, api.ErrNum)
			}
		}
	}
}

// P5.3: what is no mark of the byte is refused, with the number 0.
func TestMarkRefuses(t *testing.T) {
	for _, s := range []string{
		"", "r", "rr", "r1r", "rr1", "r-", "r+", "r-0", "r-1", "r+1", "r-999", "r00", "r01", "r001", "r0999", "r1000", "r1001", "r9999", "r10000", "r1000000", "r1000001", "r4294967296", "r18446744073709551616", "r9223372036854775807", "r9223372036854775808", "r-9223372036854775808",
		"r 1", "r1 ", " r1", "r1\n", "\nr1", "r1#", "#r1", "r\t1", "r\x001", "r1\x00", "r1.0", "r1e2", "r0x1", "r1_0", "r٣", "r１", "r\xb1", "R1", "x1", "t1", "1", "12", "1r", "r" + strings.Repeat("0", 100_000), "r" + strings.Repeat("9", 100_000),
	} {
		mustMark(t, s, 'r', 0, api.ErrNum)
	}
	for n := range 256 { // an empty text, the byte alone, two of it
		c := byte(n)
		mustMark(t, "", c, 0, api.ErrNum)
		mustMark(t, string([]byte{c}), c, 0, api.ErrNum)
		if c < '0' || c > '9' {
			mustMark(t, string([]byte{c, c}), c, 0, api.ErrNum)
		}
		if c != 'r' {
			mustMark(t, "r7", c, 0, api.ErrNum)
		}
	}
}

// P5.3: the byte is a byte, not a rune.
func TestMarkBytes(t *testing.T) {
	mustMark(t, "\xe97", 0xe9, 7, api.OK)
	mustMark(t, "\u00e97", 0xe9, 0, api.ErrNum)
	mustMark(t, "\u00e97", 0xc3, 0, api.ErrNum)
	mustMark(t, "\u00727", 'r', 7, api.OK)
	mustMark(t, "\u01727", 'r', 0, api.ErrNum)
	mustMark(t, "77", '7', 7, api.OK)
	mustMark(t, "-7", '-', 7, api.OK)
	mustMark(t, "--7", '-', 0, api.ErrNum)
	mustMark(t, "00", '0', 0, api.OK)
	mustMark(t, "000", '0', 0, api.ErrNum)
}

// P5.3: all texts of up to four of the bytes that matter: those that are marks, and no other ones.
func TestMarkShort(t *testing.T) {
	bytes := "r0192-+ x"
	for _, c := range []byte("r0-") {
		marks := map[string]int{}
		for n := range 1000 {
			marks[string([]byte{c})+strconv.Itoa(n)] = n
		}
		texts := []string{""}
		for at := 0; len(texts[at]) < 5; at++ {
			s := texts[at]
			if n, is := marks[s]; is {
				mustMark(t, s, c, n, api.OK)
			} else {
				mustMark(t, s, c, 0, api.ErrNum)
			}
			for i := range len(bytes) {
				texts = append(texts, s+bytes[i:i+1])
			}
		}
	}
}

// P5.4: what is handed in is only read, also behind its end, and shares nothing with what is answered.
func TestJoinOnlyReads(t *testing.T) {
	for _, l := range [][][]string{
		{{"a", "b"}, {"d"}}, {{"a"}}, {{"a", " "}, {"b"}}, {{}, {"b"}}, {row(65, "w"), {"b"}}, {row(64, "w"), row(64, "é")},
	} {
		whole := append(copied(l), []string{"behind"}, nil)
		for i := range l {
			whole[i] = append(whole[i], "behind", "#")[:len(l[i])]
		}
		held := copied(whole)
		first, e := lex.Join(whole[:len(l)])
		if !alike(whole, held) {
			t.Errorf("what was handed in, %q, is %q", held, whole)
		}
		for i := range l {
			if behind := whole[i][:len(l[i])+2]; behind[len(l[i])] != "behind" || behind[len(l[i])+1] != "#" {
				t.Errorf("behind the words of %q stands %q", l[i], behind[len(l[i]):])
			}
		}
		for _, words := range whole[:len(l)] {
			clear(words)
		}
		if second, f := lex.Join(l); first != second || e != f {
			t.Errorf("Join of %q: %q, %d, and then %q, %d", l, first, e, second, f)
		}
	}
}

// P5.4: lines share no memory with each other, nor with those of the next call, nor with the text.
func TestLinesAreNew(t *testing.T) {
	for _, s := range []string{"a b\nc\n\nd e f # g\nh", "a", spaced(64) + "\n" + spaced(64) + "\nx", "r0 t0 = int 5\nreturn r0\n"} {
		want, _ := linesOf(s)
		first, _ := lex.Lines(s)
		second, _ := lex.Lines(s)
		for i := range first {
			for k := range first[i][:cap(first[i])] {
				first[i][:cap(first[i])][k] = "other"
			}
			for k := range first {
				if k > i && !slices.Equal(first[k], want[k]) {
					t.Fatalf("lines %d and %d of %s share memory", i, k, short(s))
				}
			}
		}
		clear(first[:cap(first)])
		third, _ := lex.Lines(s)
		if !alike(second, want) || !alike(third, want) {
			t.Fatalf("the lines of %s share memory with those of another call", short(s))
		}
		begin := uintptr(unsafe.Pointer(unsafe.StringData(s)))
		for _, words := range second {
			for _, w := range words {
				if at := uintptr(unsafe.Pointer(unsafe.StringData(w))); at >= begin && at < begin+uintptr(len(s)) {
					t.Fatalf("the word %q of %s is a part of it", w, short(s))
				}
			}
		}
	}
}

// P5.5: what is joined has these lines.
func TestJoinedHasTheseLines(t *testing.T) {
	many := [][][]string{
		{}, {{"a"}}, {{"a", "b"}, {"d"}}, {{"r0", "t0", "=", "int", "5"}, {"return", "r0"}}, {row(64, "w"), row(64, "v")}, slices.Repeat([][]string{row(64, "w")}, 128), slices.Repeat([][]string{{"a"}}, 8192), {{strings.Repeat("w", 16383)}}, {{"\xff", "\x00", "é", "\u00a0", "\v"}, {"\u2028"}},
	}
	for _, s := range mixed() {
		l, _ := linesOf(s)
		many = append(many, l)
	}
	for _, l := range many {
		s, e := lex.Join(l)
		if e != api.OK {
			t.Fatalf("Join(%q): %d", l, e)
		}
		if got, e := lex.Lines(s); e != api.OK || !alike(got, l) {
			t.Fatalf("%q is joined as %s, which has the lines %q, %d", l, short(s), got, e)
		}
	}
}

// P5.5: what has lines, joined, has the same lines, and is joined once more the same text. Only where there is no room for a last line feed a text is not joined.
func TestLinesJoined(t *testing.T) {
	texts := append(mixed(), "", "a", " a#b\n\n\tc \r\n", strings.Repeat("w", 16383), strings.Repeat("a\n", 8192), strings.Repeat("w ", 32)+"\n#"+strings.Repeat("x", 16000))
	for _, s := range texts {
		l, e := lex.Lines(s)
		if e != api.OK {
			continue
		}
		joined, e := lex.Join(l)
		if e != api.OK {
			t.Fatalf("Join of the lines of %s: %d", short(s), e)
		}
		again, e := lex.Lines(joined)
		if e != api.OK || !alike(again, l) {
			t.Fatalf("the lines of %s, joined, are %q, %d; were %q", short(s), again, e, l)
		}
		if twice, e := lex.Join(again); twice != joined || e != api.OK {
			t.Fatalf("%s, joined again, is %s, %d", short(joined), short(twice), e)
		}
	}
	l, e := lex.Lines(strings.Repeat("w", 16384))
	if e != api.OK {
		t.Fatalf("Lines of one word of MaxText bytes: %d", e)
	}
	mustRefuse(t, api.ErrMany, l...)
}

// P5.5: how many blanks there are, lines without words, and what stands behind a #, count for nothing.
func TestWhatCountsForNothing(t *testing.T) {
	blanks := []string{" ", "\t", "\r", " \t\r ", "   "}
	ends := []string{"\n", "\r\n", "#\n", " # a b c\n", "#x\n", "\n\n", "\n \n", "\n#\n", "\n\t# r0 r1 r2\n\n", "## #\n", "#\xff\x00\n"}
	for at, s := range mixed() {
		want, e := linesOf(s)
		if e != api.OK {
			continue
		}
		var other strings.Builder
		other.WriteString([]string{"", "\n", "#\n", " "}[at%4])
		for i, words := range want {
			other.WriteString(blanks[(at+i)%5])
			for k, w := range words {
				other.WriteString(w + blanks[(at+i+k)%5])
			}
			other.WriteString(ends[(at+i)%len(ends)])
		}
		mustHave(t, other.String(), want...)
	}
}

// P1: each call answers the same again, whatever was asked between, and ends at all arguments.
func TestAgain(t *testing.T) {
	for range 3 {
		mustHave(t, "a  b # c\n#\n\td", []string{"a", "b"}, []string{"d"})
		mustBeMany(t, spaced(65))
		mustJoin(t, "a b\nd\n", []string{"a", "b"}, []string{"d"})
		mustRefuse(t, api.ErrArg, []string{"a"}, nil)
		mustMark(t, "r12", 'r', 12, api.OK)
		mustMark(t, "r"+strconv.Itoa(math.MaxInt64), 'r', 0, api.ErrNum)
	}
}
