package tag_test

import (
	"fmt"
	"math"
	"math/big"
	"math/rand"
	"slices"
	"strings"
	"sync"
	"testing"

	"swinggate/api"
	"swinggate/tag"
)

type words = [4]uint64

var counting = api.Key{A: 0x0706050403020100, B: 0x0f0e0d0c0b0a0908}

// known tags by the key of the bytes 0 to 15: of no byte, of the byte 0, of the bytes 0 and 1, and so on. (Reckoned by another program.)
var known = [64]uint64{
	0x726fdb47dd0e0e31, 0x74f839c593dc67fd, 0x0d6c8009d9a94f5a, 0x85676696d7fb7e2d,
	0xcf2794e0277187b7, 0x18765564cd99a68d, 0xcbc9466e58fee3ce, 0xab0200f58b01d137,
	0x93f5f5799a932462, 0x9e0082df0ba9e4b0, 0x7a5dbbc594ddb9f3, 0xf4b32f46226bada7,
	0x751e8fbc860ee5fb, 0x14ea5627c0843d90, 0xf723ca908e7af2ee, 0xa129ca6149be45e5,
	0x3f2acc7f57c29bdb, 0x699ae9f52cbe4794, 0x4bc1b3f0968dd39c, 0xbb6dc91da77961bd,
	0xbed65cf21aa2ee98, 0xd0f2cbb02e3b67c7, 0x93536795e3a33e88, 0xa80c038ccd5ccec8,
	0xb8ad50c6f649af94, 0xbce192de8a85b8ea, 0x17d835b85bbb15f3, 0x2f2e6163076bcfad,
	0xde4daaaca71dc9a5, 0xa6a2506687956571, 0xad87a3535c49ef28, 0x32d892fad841c342,
	0x7127512f72f27cce, 0xa7f32346f95978e3, 0x12e0b01abb051238, 0x15e034d40fa197ae,
	0x314dffbe0815a3b4, 0x027990f029623981, 0xcadcd4e59ef40c4d, 0x9abfd8766a33735c,
	0x0e3ea96b5304a7d0, 0xad0c42d6fc585992, 0x187306c89bc215a9, 0xd4a60abcf3792b95,
	0xf935451de4f21df2, 0xa9538f0419755787, 0xdb9acddff56ca510, 0xd06c98cd5c0975eb,
	0xe612a3cb9ecba951, 0xc766e62cfcadaf96, 0xee64435a9752fe72, 0xa192d576b245165a,
	0x0a8787bf8ecb74b2, 0x81b3e73d20b49b6f, 0x7fa8220ba3b2ecea, 0x245731c13ca42499,
	0xb78dbfaf3a8d83bd, 0xea1ad565322a1a0b, 0x60e61c23a3795013, 0x6606d7e446282b93,
	0x6ca4ecb15c5f91e1, 0x9f626da15c9625f3, 0xe51b38608ef25f57, 0x958a324ceb064572,
}

func drawnText(r *rand.Rand, many int) string {
	b := make([]byte, many)
	for i := range b {
		b[i] = byte(r.Intn(256))
	}
	return string(b)
}

func drawnKey(r *rand.Rand) api.Key { return api.Key{A: r.Uint64(), B: r.Uint64()} }

// someWords: of the edges in all places, of one bit each, and drawn ones.
func someWords(r *rand.Rand) []words {
	var out []words
	edges := []uint64{0, 1, math.MaxUint64, 1 << 63, 1<<63 - 1, 1<<32 - 1}
	for _, a := range edges {
		for _, b := range edges {
			for _, c := range edges {
				for _, d := range edges {
					out = append(out, words{a, b, c, d})
				}
			}
		}
	}
	for bit := range 256 {
		var v words
		v[bit/64] = 1 << (bit % 64)
		out = append(out, v)
	}
	for range 2000 {
		out = append(out, words{r.Uint64(), r.Uint64(), r.Uint64(), r.Uint64()})
	}
	return out
}

// added modulo 2^64, by numbers of any size.
func added(a, b uint64) uint64 {
	sum := new(big.Int).Add(new(big.Int).SetUint64(a), new(big.Int).SetUint64(b))
	return sum.Mod(sum, new(big.Int).Lsh(big.NewInt(1), 64)).Uint64()
}

// turned by r, bit by bit, by the promise's own words.
func turned(n uint64, r int) uint64 {
	var out uint64
	for place := range 64 {
		if n>>place&1 == 1 {
			out |= 1 << ((place + r) % 64)
		}
	}
	return out
}

// roundOf words, by the promise's own words.
func roundOf(v words) words {
	v0, v1, v2, v3 := v[0], v[1], v[2], v[3]
	v0 = added(v0, v1)
	v1 = turned(v1, 13) ^ v0
	v0 = turned(v0, 32)
	v2 = added(v2, v3)
	v3 = turned(v3, 16) ^ v2
	v0 = added(v0, v3)
	v3 = turned(v3, 21) ^ v0
	v2 = added(v2, v1)
	v1 = turned(v1, 17) ^ v2
	v2 = turned(v2, 32)
	return words{v0, v1, v2, v3}
}

// wordsOf a text, by the promise's own words: filled up with noughts and the length, and cut into eights.
func wordsOf(s string) []uint64 {
	b := []byte(s)
	for len(b)%8 != 7 {
		b = append(b, 0)
	}
	b = append(b, byte(len(s)%256))
	var out []uint64
	for part := range slices.Chunk(b, 8) {
		var n uint64
		for i := 7; i >= 0; i-- {
			n = n*256 + uint64(part[i])
		}
		out = append(out, n)
	}
	return out
}

// textOf words: the one text of which they are the words.
func textOf(l []uint64) string {
	var b []byte
	for _, n := range l {
		for range 8 {
			b = append(b, byte(n))
			n >>= 8
		}
	}
	left := int(b[len(b)-1]) % 8
	return string(b[:len(b)-8+left])
}

func wantWords(t *testing.T, s string, l ...uint64) {
	t.Helper()
	if got := tag.Words(s); !slices.Equal(got, l) {
		t.Errorf("Words(%q): %x, and must be %x", s, got, l)
	}
}

func wantOf(t *testing.T, k api.Key, s string, n uint64) {
	t.Helper()
	if got := tag.Of(k, s); got != n {
		t.Errorf("Of(%x, %q): %x, and must be %x", k, s, got, n)
	}
}

func TestJ1Round(t *testing.T) {
	if got := tag.Round(words{}); got != (words{}) {
		t.Errorf("Round of noughts: %x", got)
	}
	v := words{1, 1 << 63, 0x0123456789abcdef, math.MaxUint64}
	if got, want := tag.Round(v), (words{0xfedcba99f6543211, 0x81234567a9a8ddef, 0x89abddef81234567, 0xadd2701fb46be986}); got != want {
		t.Errorf("Round(%x): %x, and must be %x", v, got, want)
	}
	for _, v := range someWords(rand.New(rand.NewSource(1))) {
		if got, want := tag.Round(v), roundOf(v); got != want {
			t.Errorf("Round(%x): %x, and must be %x", v, got, want)
		}
	}
}

func TestJ1Back(t *testing.T) {
	for _, v := range someWords(rand.New(rand.NewSource(2))) {
		if got := tag.Back(v); roundOf(got) != v {
			t.Errorf("Back(%x): %x, of which a Round makes %x", v, got, roundOf(got))
		}
	}
}

func TestJ2Words(t *testing.T) {
	wantWords(t, "", 0)
	wantWords(t, "\x00", 0x0100000000000000)
	wantWords(t, "\xff", 0x01000000000000ff)
	wantWords(t, "a", 0x0100000000000061)
	wantWords(t, "abcdefg", 0x0767666564636261)
	wantWords(t, "abcdefgh", 0x6867666564636261, 0x0800000000000000)
	wantWords(t, "abcdefghi", 0x6867666564636261, 0x0900000000000069)
	wantWords(t, "\xff\xff\xff\xff\xff\xff\xff\xff", math.MaxUint64, 0x0800000000000000)
	wantWords(t, "é", 0x020000000000a9c3)
}

// TestJ2EveryLength: up to and beyond those where the length begins anew from 0.
func TestJ2EveryLength(t *testing.T) {
	r := rand.New(rand.NewSource(3))
	for many := range 1100 {
		for _, s := range []string{strings.Repeat("\x00", many), strings.Repeat("\xff", many), drawnText(r, many)} {
			wantWords(t, s, wordsOf(s)...)
		}
	}
	for many, greatest := range map[int]uint64{255: 255, 256: 0, 257: 1, 511: 255, 512: 0, 1 << 20: 0, 1<<20 + 300: 44} {
		l := tag.Words(strings.Repeat("\xff", many))
		if len(l) != many/8+1 || l[len(l)-1]>>56 != greatest {
			t.Errorf("Words of %d bytes: %d, the last one %x", many, len(l), l[len(l)-1])
		}
	}
}

func TestJ2Start(t *testing.T) {
	none := words{0x736f6d6570736575, 0x646f72616e646f6d, 0x6c7967656e657261, 0x7465646279746573}
	if got := tag.Start(api.Key{}); got != none {
		t.Errorf("Start of no key: %x", got)
	}
	if got, want := tag.Start(counting), (words{0x7469686173716475, 0x6b617f6d656e6665, 0x6b7f62616d677361, 0x7b6b696e727e6c7b}); got != want {
		t.Errorf("Start(%x): %x, and must be %x", counting, got, want)
	}
	r := rand.New(rand.NewSource(4))
	keys := []api.Key{{A: 1}, {B: 1}, {A: 1 << 63}, {B: 1 << 63}, {A: math.MaxUint64}, {B: math.MaxUint64}, drawnKey(r), drawnKey(r)}
	for _, k := range keys {
		want := words{none[0] ^ k.A, none[1] ^ k.B, none[2] ^ k.A, none[3] ^ k.B}
		if got := tag.Start(k); got != want {
			t.Errorf("Start(%x): %x, and must be %x", k, got, want)
		}
	}
}

func TestJ2Take(t *testing.T) {
	r := rand.New(rand.NewSource(5))
	for _, v := range someWords(r) {
		for _, m := range []uint64{0, 1, 1 << 63, math.MaxUint64, r.Uint64()} {
			want := roundOf(roundOf(words{v[0], v[1], v[2], v[3] ^ m}))
			want[0] ^= m
			if got := tag.Take(v, m); got != want {
				t.Errorf("Take(%x, %x): %x, and must be %x", v, m, got, want)
			}
		}
	}
}

func TestJ2Finish(t *testing.T) {
	v := words{1, 1 << 63, 0x0123456789abcdef, math.MaxUint64}
	if got := tag.Finish(v); got != 0x7374726c2d90480f {
		t.Errorf("Finish(%x): %x", v, got)
	}
	for _, v := range someWords(rand.New(rand.NewSource(6))) {
		w := roundOf(roundOf(roundOf(roundOf(words{v[0], v[1], v[2] ^ 255, v[3]}))))
		if got, want := tag.Finish(v), w[0]^w[1]^w[2]^w[3]; got != want {
			t.Errorf("Finish(%x): %x, and must be %x", v, got, want)
		}
	}
}

func TestJ3Known(t *testing.T) {
	s := ""
	for i, n := range known {
		wantOf(t, counting, s, n)
		s += string([]byte{byte(i)})
	}
}

// TestJ3KnownByOtherKeys: of texts of one letter over and over. (Reckoned by another program.)
func TestJ3KnownByOtherKeys(t *testing.T) {
	full, sparse := api.Key{A: math.MaxUint64, B: math.MaxUint64}, api.Key{A: 1 << 63, B: 1}
	for _, row := range []struct {
		key  api.Key
		many int
		tag  uint64
	}{
		{counting, 7, 0x0a552ddcd135ecfa}, {counting, 8, 0xa9aa76c3ce550b04}, {counting, 255, 0x6cd93ca5f3dcf656},
		{counting, 256, 0x0e23db6264f5136c}, {counting, 257, 0xcdabfea5be78342c}, {counting, 1000, 0x19fa832c6a8e697b},
		{full, 0, 0x35dd279ee86ce565}, {full, 7, 0x79e1e6b5268ae74c}, {full, 8, 0xa4757be793fad62b},
		{full, 255, 0x9071c0ca387c55ae}, {full, 256, 0x9862e792ddf049ba}, {full, 1000, 0x95dabea68e972e0f},
		{sparse, 0, 0xb80261731e097a96}, {sparse, 7, 0x6deb927c52085c32}, {sparse, 8, 0x3f752f6c1defa23f},
		{sparse, 255, 0x2c4fce83aeea0bd4}, {sparse, 256, 0x772bed6dcf6a488d}, {sparse, 1000, 0x5030ce8a0d455572},
	} {
		wantOf(t, row.key, strings.Repeat("z", row.many), row.tag)
	}
}

// TestJ3OneByOne: the tag is what comes of the other calls.
func TestJ3OneByOne(t *testing.T) {
	r := rand.New(rand.NewSource(7))
	for many := range 300 {
		k, s := drawnKey(r), drawnText(r, many)
		v := tag.Start(k)
		for _, m := range wordsOf(s) {
			v = tag.Take(v, m)
		}
		wantOf(t, k, s, tag.Finish(v))
	}
}

// TestJ4RoundLosesNothing: forth and back, and back and forth.
func TestJ4RoundLosesNothing(t *testing.T) {
	for _, v := range someWords(rand.New(rand.NewSource(8))) {
		if got := tag.Back(tag.Round(v)); got != v {
			t.Errorf("Back of Round(%x): %x", v, got)
		}
		if got := tag.Round(tag.Back(v)); got != v {
			t.Errorf("Round of Back(%x): %x", v, got)
		}
	}
}

// TestJ4TakeLosesNothing: whoever has the word comes back to the state.
func TestJ4TakeLosesNothing(t *testing.T) {
	r := rand.New(rand.NewSource(9))
	for _, v := range someWords(r) {
		m := r.Uint64()
		w := tag.Take(v, m)
		w[0] ^= m
		w = tag.Back(tag.Back(w))
		w[3] ^= m
		if w != v {
			t.Errorf("Take(%x, %x) undone: %x", v, m, w)
		}
	}
}

// TestJ4WordsLoseNothing: so no two texts have the same ones, since the text is told by them.
func TestJ4WordsLoseNothing(t *testing.T) {
	r := rand.New(rand.NewSource(10))
	for many := range 600 {
		for _, s := range []string{strings.Repeat("\x00", many), strings.Repeat("\x07", many), drawnText(r, many)} {
			if got := textOf(tag.Words(s)); got != s {
				t.Errorf("the Words of %q tell %q", s, got)
			}
		}
	}
	seen := map[string]string{}
	for many := range 1030 {
		for _, end := range []string{"", "\x00", "\x01", "a", "a\x00", "\x00a"} {
			s := strings.Repeat("\x00", many) + end
			l := fmt.Sprint(tag.Words(s))
			if was, ok := seen[l]; ok && was != s {
				t.Errorf("%q and %q have the same Words", was, s)
			}
			seen[l] = s
		}
	}
}

// TestP2AnswersAreTheCallers: what is done to one is not seen in another.
func TestP2AnswersAreTheCallers(t *testing.T) {
	s := "the wren, the king of all birds"
	l := tag.Words(s)
	clear(l[:cap(l)])
	wantWords(t, s, wordsOf(s)...)
	v := words{1, 2, 3, 4}
	tag.Round(v)
	tag.Back(v)
	tag.Take(v, 5)
	tag.Finish(v)
	if v != (words{1, 2, 3, 4}) {
		t.Errorf("the words are %x", v)
	}
}

// told: all answers of a key and a text.
func told(k api.Key, s string) string {
	v := tag.Start(k)
	return fmt.Sprint(tag.Words(s), v, tag.Round(v), tag.Back(v), tag.Take(v, k.A), tag.Finish(v), tag.Of(k, s))
}

// TestP3NothingIsKept: asked backward and by many at once, the answers are the same.
func TestP3NothingIsKept(t *testing.T) {
	r := rand.New(rand.NewSource(11))
	keys, texts, first := make([]api.Key, 300), make([]string, 300), make([]string, 300)
	for i := range texts {
		keys[i], texts[i] = drawnKey(r), drawnText(r, i)
		first[i] = told(keys[i], texts[i])
	}
	var all sync.WaitGroup
	for range 4 {
		all.Go(func() {
			for i := len(texts) - 1; i >= 0; i-- {
				if again := told(keys[i], texts[i]); again != first[i] {
					t.Errorf("%s, and it was %s", again, first[i])
				}
			}
		})
	}
	all.Wait()
}
