package spell_test

import (
	"encoding/base32"
	"fmt"
	"math/rand"
	"strings"
	"sync"
	"testing"
	"unicode/utf8"

	"swinggate/api"
	"swinggate/spell"
)

const (
	most        = api.MaxBytes
	mostLetters = most * 8 / 5
	fair        = "0123456789ABCDEFGHJKMNPQRSTVWXYZ"
)

func wantWrite(t *testing.T, s, spelled string, e api.Errno) {
	t.Helper()
	if got, err := spell.Write(s); got != spelled || err != e {
		t.Errorf("Write(%q): %q %d, and must be %q %d", s, got, err, spelled, e)
	}
}

// wantRead: letters spell that text, whose fair spelling is that one.
func wantRead(t *testing.T, spelled, s, fairly string) {
	t.Helper()
	if got, err := spell.Read(spelled); got != s || err != api.OK {
		t.Errorf("Read(%q): %q %d, and must be %q", spelled, got, err, s)
	}
	if got, err := spell.Fair(spelled); got != fairly || err != api.OK {
		t.Errorf("Fair(%q): %q %d, and must be %q", spelled, got, err, fairly)
	}
}

// wantWrong: both calls that read answer that error, and nothing else.
func wantWrong(t *testing.T, spelled string, e api.Errno) {
	t.Helper()
	if got, err := spell.Read(spelled); got != "" || err != e {
		t.Errorf("Read(%q): %q %d, and must be an error %d", spelled, got, err, e)
	}
	if got, err := spell.Fair(spelled); got != "" || err != e {
		t.Errorf("Fair(%q): %q %d, and must be an error %d", spelled, got, err, e)
	}
}

// spelledOf a text, by the library.
func spelledOf(s string) string {
	return base32.NewEncoding(fair).WithPadding(base32.NoPadding).EncodeToString([]byte(s))
}

// numberOf a byte that is a letter, by the promise's own words; below 0, if it is none.
func numberOf(c byte) int {
	switch c {
	case 'o', 'O':
		return 0
	case 'i', 'I', 'l', 'L':
		return 1
	}
	return strings.Index(fair, strings.ToUpper(string(rune(c))))
}

// readOf letters, by the promise's own words, with the bits written out as a text.
func readOf(spelled string) (string, api.Errno) {
	bits := ""
	for i := range len(spelled) {
		if spelled[i] == '-' {
			continue
		}
		if spelled[i] > 127 || numberOf(spelled[i]) < 0 {
			return "", api.ErrForm
		}
		bits += fmt.Sprintf("%05b", numberOf(spelled[i]))
	}
	if over := len(bits) / 5 % 8; over == 1 || over == 3 || over == 6 {
		return "", api.ErrForm
	}
	if len(bits)/8 > most {
		return "", api.ErrMany
	}
	var s []byte
	for ; len(bits) >= 8; bits = bits[8:] {
		var b byte
		fmt.Sscanf(bits[:8], "%b", &b)
		s = append(s, b)
	}
	if strings.Contains(bits, "1") {
		return "", api.ErrForm
	}
	return string(s), api.OK
}

// wantAsTold: it is read as the promise's words say.
func wantAsTold(t *testing.T, spelled string) {
	t.Helper()
	if s, err := readOf(spelled); err != api.OK {
		wantWrong(t, spelled, err)
	} else {
		wantRead(t, spelled, s, spelledOf(s))
	}
}

func drawnText(r *rand.Rand, many int) string {
	b := make([]byte, many)
	for i := range b {
		b[i] = byte(r.Intn(256))
	}
	return string(b)
}

// drawnOf bytes of a text, so many.
func drawnOf(r *rand.Rand, of string, many int) string {
	b := make([]byte, many)
	for i := range b {
		b[i] = of[r.Intn(len(of))]
	}
	return string(b)
}

// rewritten: the same letters, written otherwise, with dashes among them.
func rewritten(r *rand.Rand, spelled string) string {
	others := map[rune]string{'0': "0oO", '1': "1iIlL"}
	var out strings.Builder
	for _, c := range spelled {
		out.WriteString(strings.Repeat("-", r.Intn(3)/2*r.Intn(4)))
		ways := others[c]
		if ways == "" {
			ways = string(c) + strings.ToLower(string(c))
		}
		out.WriteByte(ways[r.Intn(len(ways))])
	}
	return out.String() + strings.Repeat("-", r.Intn(2))
}

func TestI1Write(t *testing.T) {
	wantWrite(t, "", "", api.OK)
	wantWrite(t, "\x00", "00", api.OK)
	wantWrite(t, "\xff", "ZW", api.OK)
	wantWrite(t, "\x80", "G0", api.OK)
	wantWrite(t, "\x01", "04", api.OK)
	wantWrite(t, "a", "C4", api.OK)
	wantWrite(t, "ab", "C5H0", api.OK)
	wantWrite(t, "abc", "C5H66", api.OK)
	wantWrite(t, "abcd", "C5H66S0", api.OK)
	wantWrite(t, "abcde", "C5H66S35", api.OK)
	wantWrite(t, "\x00\x44\x32\x14\xc7\x42\x54\xb6\x35\xcf\x84\x65\x3a\x56\xd7\xc6\x75\xbe\x77\xdf", fair, api.OK)
}

// TestI1EveryText: all of one byte and of two, and drawn ones of every length, as the library spells them.
func TestI1EveryText(t *testing.T) {
	for a := range 256 {
		s := string([]byte{byte(a)})
		wantWrite(t, s, spelledOf(s), api.OK)
		for b := range 256 {
			s := string([]byte{byte(a), byte(b)})
			wantWrite(t, s, spelledOf(s), api.OK)
		}
	}
	r := rand.New(rand.NewSource(1))
	for many := range most + 1 {
		for range 20 {
			s := drawnText(r, many)
			wantWrite(t, s, spelledOf(s), api.OK)
		}
	}
}

func TestI1Many(t *testing.T) {
	for _, b := range []string{"\x00", "a", "\xff"} {
		wantWrite(t, strings.Repeat(b, most), spelledOf(strings.Repeat(b, most)), api.OK)
		for _, many := range []int{1, 2, most, 1 << 20} {
			wantWrite(t, strings.Repeat(b, most+many), "", api.ErrMany)
		}
	}
	// Bytes are counted, not signs.
	wantWrite(t, strings.Repeat("é", most/2), spelledOf(strings.Repeat("é", most/2)), api.OK)
	wantWrite(t, strings.Repeat("é", most/2)+"a", "", api.ErrMany)
}

func TestI2Read(t *testing.T) {
	wantRead(t, "", "", "")
	wantRead(t, "00", "\x00", "00")
	wantRead(t, "zw", "\xff", "ZW")
	wantRead(t, "C5H66S35", "abcde", "C5H66S35")
	wantRead(t, "c5h66s35", "abcde", "C5H66S35")
	wantRead(t, "Oo", "\x00", "00")
	wantRead(t, "0oO0OoO0", "\x00\x00\x00\x00\x00", "00000000")
	wantRead(t, "1iIlL1il", "\x08\x42\x10\x84\x21", "11111111")
	wantRead(t, fair, "\x00\x44\x32\x14\xc7\x42\x54\xb6\x35\xcf\x84\x65\x3a\x56\xd7\xc6\x75\xbe\x77\xdf", fair)
	wantRead(t, strings.ToLower(fair), "\x00\x44\x32\x14\xc7\x42\x54\xb6\x35\xcf\x84\x65\x3a\x56\xd7\xc6\x75\xbe\x77\xdf", fair)
}

func TestI2Dashes(t *testing.T) {
	wantRead(t, "-", "", "")
	wantRead(t, "--------", "", "")
	wantRead(t, strings.Repeat("-", 1<<20), "", "")
	wantRead(t, "-C-4-", "a", "C4")
	wantRead(t, "C5H6-6S35", "abcde", "C5H66S35")
	wantRead(t, "---c5h66s35---", "abcde", "C5H66S35")
	wantRead(t, "C"+strings.Repeat("-", 1000)+"4", "a", "C4")
	wantWrong(t, "0-", api.ErrForm)
	wantWrong(t, "-00-0-", api.ErrForm)
}

// TestI2EveryPair: of all bytes, and behind them what makes the number of letters right.
func TestI2EveryPair(t *testing.T) {
	for a := range 256 {
		wantAsTold(t, string([]byte{byte(a)}))
		for b := range 256 {
			pair := string([]byte{byte(a), byte(b)})
			wantAsTold(t, pair)
			wantAsTold(t, "00"+pair)
		}
	}
}

// TestI2EveryEnd: for each number of letters, each last one is taken or not by the bits behind the last whole byte.
func TestI2EveryEnd(t *testing.T) {
	for many := range 18 {
		for _, c := range fair {
			wantAsTold(t, strings.Repeat("Z", many)+string(c))
			wantAsTold(t, strings.Repeat("0", many)+string(c)+"-")
		}
	}
}

func TestI2HowMany(t *testing.T) {
	for many := range mostLetters + 1 {
		zeros := strings.Repeat("0", many)
		switch many % 8 {
		case 1, 3, 6:
			wantWrong(t, zeros, api.ErrForm)
		default:
			wantRead(t, zeros, strings.Repeat("\x00", many*5/8), zeros)
		}
	}
}

func TestI2Bits(t *testing.T) {
	for _, spelled := range []string{"01", "02", "03", "0Z", "0001", "0002", "0004", "0008", "00001", "0000001", "0000002", "0000004", "zz", "ZZZZ", "ZZZZZ", "ZZZZZZZ"} {
		wantWrong(t, spelled, api.ErrForm)
	}
	wantRead(t, "04", "\x01", "04")
	wantRead(t, "000G", "\x00\x01", "000G")
	wantRead(t, "00002", "\x00\x00\x01", "00002")
	wantRead(t, "0000008", "\x00\x00\x00\x01", "0000008")
	wantRead(t, "00000001", "\x00\x00\x00\x00\x01", "00000001")
}

// TestI2OtherBytes: each byte that is no letter and no dash tells, wherever it stands, and however many letters there are.
func TestI2OtherBytes(t *testing.T) {
	for c := range 256 {
		other := string([]byte{byte(c)})
		if c == '-' || c < 128 && numberOf(byte(c)) >= 0 {
			continue
		}
		wantWrong(t, other, api.ErrForm)
		for _, many := range []int{1, 2, 7, 8, mostLetters - 1, mostLetters, 1000} {
			letters := strings.Repeat("7", many)
			wantWrong(t, other+letters, api.ErrForm)
			wantWrong(t, letters[:many/2]+other+letters[many/2:], api.ErrForm)
			wantWrong(t, letters+other, api.ErrForm)
		}
	}
	for _, spelled := range []string{"uu", "UU", "0U", "0 0", " 00", "00\n", "0_0", "0=", "00======", "+0", "0\x00"} {
		wantWrong(t, spelled, api.ErrForm)
	}
}

// TestI2OtherSigns: no sign of more than one byte is a letter, not those whose great letter is one, nor those whose last byte is one.
func TestI2OtherSigns(t *testing.T) {
	for c := rune(128); c <= utf8.MaxRune; c++ {
		if _, err := spell.Read("0" + string(c)); err != api.ErrForm {
			t.Errorf("Read of 0 and the sign %x: %d", c, err)
		}
	}
	for _, spelled := range []string{"0\u017f", "0\u212a", "0\u0131", "0\u0130", "0\uff10", "0\u0660", "0\u2010", "0\u2212", "0\xc0\xb0", "\xed\xa0\x80", "\xef\xbb\xbf00", "0\ufffd"} {
		wantWrong(t, spelled, api.ErrForm)
	}
}

func TestI2Many(t *testing.T) {
	for _, letter := range []string{"0", "z", "L"} {
		longest := strings.Repeat(letter, mostLetters)
		wantAsTold(t, longest)
		if s, err := spell.Read(longest); len(s) != most || err != api.OK {
			t.Errorf("Read of %d letters: %d bytes, %d", mostLetters, len(s), err)
		}
		for _, many := range []int{2, 4, 5, 7, 8, 10, 1000, 1 << 20} {
			wantWrong(t, longest+strings.Repeat(letter, many), api.ErrMany)
			wantWrong(t, "--"+longest+strings.Repeat(letter+"-", many), api.ErrMany)
		}
	}
	// Dashes are not counted.
	wantRead(t, strings.Repeat("0-", mostLetters), strings.Repeat("\x00", most), strings.Repeat("0", mostLetters))
}

// TestI2WhichTellsFirst: another byte, then how many letters, then a text that is too long, then bits.
func TestI2WhichTellsFirst(t *testing.T) {
	longest := strings.Repeat("0", mostLetters)
	wantWrong(t, longest+"00", api.ErrMany)
	wantWrong(t, longest+"0Z", api.ErrMany)
	wantWrong(t, longest+"000Z", api.ErrMany)
	for _, many := range []int{1, 3, 6, 9, 11, 14, 1001} {
		wantWrong(t, longest+strings.Repeat("0", many), api.ErrForm)
		wantWrong(t, longest+strings.Repeat("Z", many), api.ErrForm)
	}
	wantWrong(t, longest+"00U", api.ErrForm)
	wantWrong(t, "U"+longest+"00", api.ErrForm)
	wantWrong(t, longest+"0Z\xff", api.ErrForm)
}

// TestI2DrawnLetters: of letters in all their ways, of dashes, and now and then of another byte.
func TestI2DrawnLetters(t *testing.T) {
	r := rand.New(rand.NewSource(2))
	ways := fair + strings.ToLower(fair) + "oOiIlL----"
	for range 20000 {
		spelled := drawnOf(r, ways, r.Intn(30))
		if r.Intn(10) == 0 {
			spelled += drawnText(r, 1) + drawnOf(r, ways, r.Intn(5))
		}
		wantAsTold(t, spelled)
	}
	for range 300 {
		wantAsTold(t, drawnOf(r, ways, mostLetters-10+r.Intn(30)))
	}
}

// TestI3ReadAsItWas: from its fair text, and from each other way of writing that, which is made fair again.
func TestI3ReadAsItWas(t *testing.T) {
	r := rand.New(rand.NewSource(3))
	for many := range most + 1 {
		for range 20 {
			s := drawnText(r, many)
			fairly, err := spell.Write(s)
			if err != api.OK {
				t.Fatalf("Write(%q): %d", s, err)
			}
			wantRead(t, fairly, s, fairly)
			wantRead(t, rewritten(r, fairly), s, fairly)
		}
	}
}

// TestI3OneFairText: all texts of one byte and of two have fair texts of their own.
func TestI3OneFairText(t *testing.T) {
	seen := map[string]string{}
	for n := range 256 + 256*256 {
		s := string([]byte{byte(n)})
		if n >= 256 {
			s = string([]byte{byte(n), byte(n>>8 - 1)})
		}
		fairly, _ := spell.Write(s)
		if was, ok := seen[fairly]; ok {
			t.Errorf("%q and %q are both spelled %q", was, s, fairly)
		}
		seen[fairly] = s
	}
}

// told: all answers of a text.
func told(s string) string {
	a, e1 := spell.Write(s)
	b, e2 := spell.Read(s)
	c, e3 := spell.Fair(s)
	return fmt.Sprintf("%q %d %q %d %q %d", a, e1, b, e2, c, e3)
}

// TestP1AnyText: no call panics, and with an error there is no text.
func TestP1AnyText(t *testing.T) {
	r := rand.New(rand.NewSource(4))
	for range 20000 {
		s := drawnText(r, r.Intn(250))
		for name, call := range map[string]func(string) (string, api.Errno){"Write": spell.Write, "Read": spell.Read, "Fair": spell.Fair} {
			if got, err := call(s); err != api.OK && got != "" {
				t.Errorf("%s(%q): %q %d", name, s, got, err)
			}
		}
	}
}

// TestP3NothingIsKept: asked backward and by many at once, the answers are the same.
func TestP3NothingIsKept(t *testing.T) {
	r := rand.New(rand.NewSource(5))
	texts, first := make([]string, 300), make([]string, 300)
	for i := range texts {
		texts[i] = drawnOf(r, fair+"-", r.Intn(2*most))
		if r.Intn(5) == 0 {
			texts[i] += "u"
		}
		first[i] = told(texts[i])
	}
	var all sync.WaitGroup
	for range 4 {
		all.Go(func() {
			for i := len(texts) - 1; i >= 0; i-- {
				if again := told(texts[i]); again != first[i] {
					t.Errorf("%s, and it was %s", again, first[i])
				}
			}
		})
	}
	all.Wait()
}
