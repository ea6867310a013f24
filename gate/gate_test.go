package gate_test

import (
	"fmt"
	"math"
	"math/rand"
	"slices"
	"strings"
	"sync"
	"testing"

	"swinggate/api"
	"swinggate/gate"
	"swinggate/pass"
	"swinggate/ring"
	"swinggate/spell"
)

// Bytes of a token: those that stand ahead of its days, and those of a span.
const (
	headBytes = 8
	spanBytes = 6
)

var extremes = []int{math.MinInt, math.MinInt32, -1, api.MaxDay + 1, math.MaxInt32, math.MaxInt}

// keys of the epochs 3, 7 and 200.
func keys() []api.Epoch {
	return []api.Epoch{{No: 3, K: api.Key{A: 1, B: 2}}, {No: 7, K: api.Key{A: 3, B: 4}}, {No: 200, K: api.Key{A: 5, B: 6}}}
}

// wrongRings, each with what Check of chapter 11 answers of it.
func wrongRings() map[api.Errno][]api.Epoch {
	return map[api.Errno][]api.Epoch{
		api.ErrMany: make([]api.Epoch, api.MaxRing+1), api.ErrRange: {{No: 0}}, api.ErrState: {{No: 7}, {No: 7}},
	}
}

// set of days, From and To by turns.
func set(numbers ...int) []api.Span {
	var out []api.Span
	for i := 0; i+1 < len(numbers); i += 2 {
		out = append(out, api.Span{From: numbers[i], To: numbers[i+1]})
	}
	return out
}

// apart: so many spans of a day each, from a day on, every other day.
func apart(from, many int) []api.Span {
	var out []api.Span
	for i := range many {
		out = append(out, api.Span{From: from + 2*i, To: from + 2*i + 1})
	}
	return out
}

// of zones 1 to 3 and serial 2.
func of(days ...int) api.Pass {
	return api.Pass{Id: 7, Born: 690000, A: 1, B: 3, Serial: 2, Days: set(days...)}
}

func with(p api.Pass, days []api.Span) api.Pass {
	p.Days = days
	return p
}

func rightPasses() []api.Pass {
	out := []api.Pass{
		of(), of(700000, 700007), of(700000, 700007, 700010, 700012), of(1, 2), of(1, api.LastDay), of(api.LastDay-1, api.LastDay), of(255, 256, 257, 65535, 65537, 65538),
		{Id: 1, Born: 1, Serial: 1}, {Id: api.MaxPass, Born: api.LastDay, A: api.MaxZones - 1, B: api.MaxZones - 1, Serial: api.MaxSerial, Days: set(65536, 70000)},
		{Id: 12345, Born: 5, B: api.MaxZones - 1, Serial: 300, Days: []api.Span{}},
	}
	for many := range api.MaxTokenSpans + 1 {
		out = append(out, with(of(), apart(700000, many)))
	}
	return out
}

// wrongPasses, each with what Check of chapter 18 answers of it.
func wrongPasses() map[api.Errno][]api.Pass {
	out := map[api.Errno][]api.Pass{
		api.ErrMany: {with(of(), apart(1, api.MaxSpans+1))}, api.ErrForm: {of(5, 5)}, api.ErrState: {of(5, 9, 9, 12)},
		api.ErrRange: {{}, of(0, 5), of(5, api.LastDay+1), with(of(), append(apart(0, 18), set(api.LastDay, api.LastDay+2)...))},
	}
	for _, n := range append([]int{0, api.LastDay + 1}, extremes...) {
		for _, change := range []func(p *api.Pass){
			func(p *api.Pass) { p.Id = n }, func(p *api.Pass) { p.Born = n }, func(p *api.Pass) { p.Serial = n }, func(p *api.Pass) { p.A, p.B = n, n-1 },
			func(p *api.Pass) { p.B = n }, func(p *api.Pass) { p.A = max(n, 4) },
		} {
			p := of(5, 9)
			change(&p)
			out[api.ErrRange] = append(out[api.ErrRange], p)
		}
	}
	return out
}

// number of so many bytes, by the promise's words.
func number(n, bytes int) string {
	out := make([]byte, bytes)
	for i := range out {
		out[bytes-1-i] = byte(n)
		n /= 256
	}
	return string(out)
}

// head of a token that says that it has so many spans.
func head(p api.Pass, spans int) string {
	return number(p.Id, 3) + number(p.Serial, 2) + number(p.A, 1) + number(p.B, 1) + number(spans, 1)
}

// plain: what is sealed of a pass, by the promise's words.
func plain(p api.Pass) string {
	out := head(p, len(p.Days))
	for _, s := range p.Days {
		out += number(s.From, 3) + number(s.To, 3)
	}
	return out
}

// text that tells bytes, sealed with the last of these keys.
func text(t *testing.T, r []api.Epoch, told string) string {
	t.Helper()
	sealed, err := ring.Seal(r, told)
	if err != api.OK {
		t.Fatalf("Seal(%v, %x): %d", r, told, err)
	}
	out, err := spell.Write(sealed)
	if err != api.OK {
		t.Fatalf("Write(%x): %d", sealed, err)
	}
	return out
}

func tokenOf(p api.Pass) api.Token {
	return api.Token{Id: p.Id, A: p.A, B: p.B, Serial: p.Serial, Days: p.Days}
}

func same(t, u api.Token) bool {
	return t.Id == u.Id && t.A == u.A && t.B == u.B && t.Serial == u.Serial && slices.Equal(t.Days, u.Days)
}

func wantWrite(t *testing.T, r []api.Epoch, p api.Pass, want string, e api.Errno) {
	t.Helper()
	if got, err := gate.Write(r, p); got != want || err != e {
		t.Errorf("Write(%v, %v): %q %d, and must be %q %d", r, p, got, err, want, e)
	}
}

func wantRead(t *testing.T, r []api.Epoch, text string, want api.Token, e api.Errno) {
	t.Helper()
	if got, err := gate.Read(r, text); !same(got, want) || err != e {
		t.Errorf("Read(%v, %q): %v %d, and must be %v %d", r, text, got, err, want, e)
	}
}

func wantAdmit(t *testing.T, r []api.Epoch, l []api.Pass, text string, n, zone int, e api.Errno) {
	t.Helper()
	if err := gate.Admit(r, l, text, n, zone); err != e {
		t.Errorf("Admit(%v, %v, %q, %d, %d): %d, and must be %d", r, l[:min(len(l), 3)], text, n, zone, err, e)
	}
}

func TestS1Write(t *testing.T) {
	for _, p := range rightPasses() {
		for many := 1; many <= len(keys()); many++ {
			wantWrite(t, keys()[:many], p, text(t, keys()[:many], plain(p)), api.OK)
		}
	}
	// Told by hand, but for the tag: Id 7, serial 2, zones 1 to 3, one span from 700000 (0x0aae60) to 700007.
	sealed, _ := ring.Seal(keys(), "\x00\x00\x07\x00\x02\x01\x03\x01\x0a\xae\x60\x0a\xae\x67")
	want, _ := spell.Write(sealed)
	wantWrite(t, keys(), of(700000, 700007), want, api.OK)
}

// TestS1WriteWrong: the pass tells ahead of how many spans it has, and both ahead of the keys.
func TestS1WriteWrong(t *testing.T) {
	many := []api.Pass{with(of(), apart(700000, api.MaxTokenSpans+1)), with(of(), apart(1, api.MaxSpans))}
	for _, p := range many {
		wantWrite(t, keys(), p, "", api.ErrMany)
		wantWrite(t, nil, p, "", api.ErrMany)
	}
	for e, r := range wrongRings() {
		for _, p := range rightPasses() {
			wantWrite(t, r, p, "", e)
		}
		for _, p := range many {
			wantWrite(t, r, p, "", api.ErrMany)
		}
		for e, all := range wrongPasses() {
			for _, p := range all {
				wantWrite(t, r, p, "", e)
			}
		}
	}
	for _, p := range rightPasses() {
		wantWrite(t, nil, p, "", api.ErrNone)
	}
	for e, all := range wrongPasses() {
		for _, p := range all {
			wantWrite(t, keys(), p, "", e)
			wantWrite(t, nil, p, "", e)
		}
	}
}

func TestS2Read(t *testing.T) {
	for _, p := range rightPasses() {
		for many := 1; many <= len(keys()); many++ {
			s := text(t, keys()[:many], plain(p))
			wantRead(t, keys(), s, tokenOf(p), api.OK)
			wantRead(t, keys()[many-1:], strings.ToLower(s), tokenOf(p), api.OK)
			wantRead(t, keys(), "-"+s[:5]+"--"+s[5:]+"-", tokenOf(p), api.OK)
			wantRead(t, keys(), strings.NewReplacer("0", "o", "1", "l").Replace(s), tokenOf(p), api.OK)
			wantRead(t, keys()[many:], s, api.Token{}, api.ErrNone)
		}
	}
}

// TestS2EveryNumber: Ids, serials and days are read as they were written, whatever bytes they have.
func TestS2EveryNumber(t *testing.T) {
	for bit := range 24 {
		for _, n := range []int{1<<bit - 1, 1 << bit, 1<<bit + 1, 0x555555 & (1<<bit - 1), 0xaaaaaa & (1<<bit - 1)} {
			p := api.Pass{Id: n, Born: 1, A: n % 3, B: 3 + n%3, Serial: n, Days: set(n, n+1, n+n%1000+2, n+5000)}
			token := tokenOf(p)
			p.Id, p.Serial = min(max(n, 1), api.MaxPass), min(max(n, 1), api.MaxSerial)
			token.Id, token.Serial = p.Id, p.Serial
			if n < 1 || n+5000 > api.LastDay {
				continue
			}
			s, err := gate.Write(keys(), p)
			if err != api.OK {
				t.Errorf("Write of %v: %d", p, err)
			}
			wantRead(t, keys(), s, token, api.OK)
		}
	}
	for id := 1; id <= api.MaxPass; id += 7919 {
		p := api.Pass{Id: id, Born: 1, Serial: 1 + id%api.MaxSerial, Days: set(1, 2)}
		wantRead(t, keys(), text(t, keys(), plain(p)), tokenOf(p), api.OK)
	}
}

// TestS2Form: what was sealed is no token.
func TestS2Form(t *testing.T) {
	wrong := func(told string) {
		t.Helper()
		wantRead(t, keys(), text(t, keys(), told), api.Token{}, api.ErrForm)
	}
	for _, p := range rightPasses() {
		told := plain(p)
		// All bytes, and no more.
		for many := range told {
			wrong(told[:many])
		}
		for more := 1; more <= spanBytes && len(told)+more <= api.MaxBytes-9; more++ {
			wrong(told + strings.Repeat("\x00", more))
		}
		for _, many := range []int{len(p.Days) - 1, len(p.Days) + 1, 100, 255} {
			if many >= 0 {
				wrong(head(p, many) + told[headBytes:])
			}
		}
	}
	for _, change := range []func(p *api.Pass){
		func(p *api.Pass) { p.Id = 0 }, func(p *api.Pass) { p.Id = api.MaxPass + 1 }, func(p *api.Pass) { p.Id = 1<<24 - 1 },
		func(p *api.Pass) { p.Serial = 0 }, func(p *api.Pass) { p.Serial = api.MaxSerial + 1 }, func(p *api.Pass) { p.Serial = 1<<16 - 1 },
		func(p *api.Pass) { p.A, p.B = 3, 2 }, func(p *api.Pass) { p.B = api.MaxZones }, func(p *api.Pass) { p.A, p.B = api.MaxZones, api.MaxZones }, func(p *api.Pass) { p.B = 255 },
		func(p *api.Pass) { p.Days = set(0, 5) }, func(p *api.Pass) { p.Days = set(5, api.LastDay+1) }, func(p *api.Pass) { p.Days = set(5, 1<<24-1) },
		func(p *api.Pass) { p.Days = set(5, 5) }, func(p *api.Pass) { p.Days = set(5, 4) }, func(p *api.Pass) { p.Days = set(5, 9, 9, 12) },
		func(p *api.Pass) { p.Days = set(5, 9, 20, 20) }, func(p *api.Pass) { p.Days = set(20, 25, 5, 9) }, func(p *api.Pass) { p.Days = set(5, 9, 7, 12) },
		func(p *api.Pass) { p.Days = set(0, 0) },
	} {
		p := of(700000, 700007)
		change(&p)
		wrong(plain(p))
	}
	wrong(strings.Repeat("\x00", headBytes))
	wrong(strings.Repeat("\xff", headBytes))
	wrong("abc")
}

// TestS2ReadWrong: what is not spelled tells first, then the keys, then what was not sealed, and last what is no token.
func TestS2ReadWrong(t *testing.T) {
	right := text(t, keys(), plain(of(700000, 700007)))
	long := strings.Repeat("0", 8*(api.MaxBytes/5+1))
	for _, r := range [][]api.Epoch{keys(), nil, keys()[:1], wrongRings()[api.ErrMany], wrongRings()[api.ErrRange], wrongRings()[api.ErrState]} {
		for _, s := range []string{"?", right + "U", "u" + right, right + " ", "\x00", "0", "000", "000000", "01", right[:len(right)-len(right)%8+1], "é", long + "_"} {
			wantRead(t, r, s, api.Token{}, api.ErrForm)
		}
		wantRead(t, r, long, api.Token{}, api.ErrMany)
	}
	noToken := text(t, keys(), "abc")
	for e, r := range wrongRings() {
		for _, s := range []string{right, noToken, "", "00"} {
			wantRead(t, r, s, api.Token{}, e)
		}
	}
	for _, r := range [][]api.Epoch{nil, keys()[:2]} {
		wantRead(t, r, right, api.Token{}, api.ErrNone)
		wantRead(t, r, noToken, api.Token{}, api.ErrNone)
	}
	other := keys()
	other[2].K.A++
	wantRead(t, other, right, api.Token{}, api.ErrSum)
	wantRead(t, other, noToken, api.Token{}, api.ErrSum)
	for _, r := range [][]api.Epoch{nil, keys()} {
		wantRead(t, r, "", api.Token{}, api.ErrForm)
		wantRead(t, r, "---", api.Token{}, api.ErrForm)
		wantRead(t, r, "ABCDEFGH", api.Token{}, api.ErrForm)
	}
}

// isOf: whether a day is one of spans.
func isOf(l []api.Span, n int) bool {
	return slices.ContainsFunc(l, func(s api.Span) bool { return s.From <= n && n < s.To })
}

// TestS3Admit: on the days and in the zones that both have, the token and the pass as it is now.
func TestS3Admit(t *testing.T) {
	p := of(100, 107, 110, 112)
	s := text(t, keys(), plain(p))
	moved := p
	moved.A, moved.B = 2, 4
	other := of(1, 200)
	other.Id, other.Serial = 8, 1
	for _, now := range []api.Pass{p, of(100, 105), of(103, 111), of(), of(1, 200), of(107, 110), moved} {
		for _, l := range [][]api.Pass{{now}, {other, now}, {now, other}} {
			for n := 95; n < 115; n++ {
				for zone := -1; zone <= api.MaxZones; zone++ {
					e := api.ErrRange
					if isOf(p.Days, n) && isOf(now.Days, n) && max(1, now.A) <= zone && zone <= min(3, now.B) {
						e = api.OK
					}
					wantAdmit(t, keys(), l, s, n, zone, e)
				}
			}
		}
	}
	for _, n := range extremes {
		wantAdmit(t, keys(), []api.Pass{p}, s, n, 2, api.ErrRange)
		wantAdmit(t, keys(), []api.Pass{p}, s, 100, n, api.ErrRange)
	}
	for _, day := range []int{1, api.LastDay - 1} {
		edge := of(day, day+1)
		wantAdmit(t, keys(), []api.Pass{edge}, text(t, keys(), plain(edge)), day, 2, api.OK)
	}
}

// TestS3AdmitWrong: the passes tell first, then the text, then whether the pass is one of them, its serial, its days.
func TestS3AdmitWrong(t *testing.T) {
	p := of(100, 107)
	s := text(t, keys(), plain(p))
	newer, other := p, p
	newer.Serial, other.Id = 3, 8
	texts := map[string]api.Errno{
		s: api.OK, "?": api.ErrForm, strings.Repeat("0", 200): api.ErrMany, text(t, keys(), "abc"): api.ErrForm,
		text(t, []api.Epoch{{No: 9}}, plain(p)): api.ErrNone, text(t, []api.Epoch{{No: 7}}, plain(p)): api.ErrSum,
	}
	for s, e := range texts {
		for _, n := range []int{105, 107} {
			for e, all := range wrongPasses() {
				for _, q := range all {
					wantAdmit(t, keys(), []api.Pass{q}, s, n, 2, e)
					wantAdmit(t, keys(), []api.Pass{other, q, other}, s, n, 2, e)
				}
				// The first pass of which something is wrong tells.
				wantAdmit(t, keys(), []api.Pass{p, newer, all[0]}, s, n, 2, api.ErrTwice)
				wantAdmit(t, nil, []api.Pass{p, other, all[0], p}, s, n, 2, e)
			}
			for _, r := range [][]api.Epoch{keys(), nil, wrongRings()[api.ErrRange]} {
				for _, l := range [][]api.Pass{{p, p}, {p, newer}, {other, p, newer}, {p, other, other}, {p, other, p}} {
					wantAdmit(t, r, l, s, n, 2, api.ErrTwice)
				}
			}
			if e != api.OK {
				wantAdmit(t, keys(), nil, s, n, 2, e)
				wantAdmit(t, keys(), []api.Pass{p}, s, n, 2, e)
				wantAdmit(t, keys(), []api.Pass{newer}, s, n, 2, e)
			}
		}
	}
	for e, r := range wrongRings() {
		wantAdmit(t, r, []api.Pass{p}, s, 105, 2, e)
		wantAdmit(t, r, nil, s, 105, 2, e)
	}
	for _, n := range []int{105, 107} {
		for _, zone := range []int{0, 2, 4} {
			wantAdmit(t, keys(), nil, s, n, zone, api.ErrNone)
			wantAdmit(t, keys(), []api.Pass{other}, s, n, zone, api.ErrNone)
			wantAdmit(t, keys(), []api.Pass{newer}, s, n, zone, api.ErrState)
			wantAdmit(t, keys(), []api.Pass{other, newer}, s, n, zone, api.ErrState)
		}
	}
}

// TestS3ManyPasses: there may be as many as there are Ids.
func TestS3ManyPasses(t *testing.T) {
	l := make([]api.Pass, 200000)
	for i := range l {
		l[i] = api.Pass{Id: i + 1, Born: 1, Serial: 1, Days: set(100, 107)}
	}
	s := text(t, keys(), plain(l[150000]))
	wantAdmit(t, keys(), l, s, 100, 0, api.OK)
	l[199999].Id = 1
	wantAdmit(t, keys(), l, s, 100, 0, api.ErrTwice)
}

// TestS4OnlyTheLatest: of all tokens of a pass just the last one admits, and just while its key is there.
func TestS4OnlyTheLatest(t *testing.T) {
	r := rand.New(rand.NewSource(1))
	for range 50 {
		p := of(100, 100+1+r.Intn(50))
		p.Serial = 1
		var texts []string
		for range 6 {
			s, err := gate.Write(keys(), p)
			if err != api.OK {
				t.Fatalf("Write(%v): %d", p, err)
			}
			texts = append(texts, s)
			for i, old := range texts {
				for n := 98; n < 155; n += 3 {
					e := api.ErrState
					if i == len(texts)-1 {
						e = api.ErrRange
						if isOf(p.Days, n) {
							e = api.OK
						}
					}
					wantAdmit(t, keys(), []api.Pass{p}, old, n, 1+r.Intn(3), e)
					wantAdmit(t, keys()[:2], []api.Pass{p}, old, n, 2, api.ErrNone)
				}
			}
			p, _ = pass.Replace(p)
		}
	}
}

// TestS4WhoIsAdmitted: of texts that are changed at one letter those that admit tell what was sealed.
func TestS4WhoIsAdmitted(t *testing.T) {
	p := of(700000, 700007, 700010, 700012)
	s := text(t, keys(), plain(p))
	for i := range s {
		for c := range 256 {
			changed := s[:i] + string([]byte{byte(c)}) + s[i+1:]
			fair, err := spell.Fair(changed)
			if gate.Admit(keys(), []api.Pass{p}, changed, 700003, 2) == api.OK && (fair != s || err != api.OK) {
				t.Errorf("%q admits, and was never written: it was %q", changed, s)
			}
		}
	}
	for _, k := range keys() {
		k.K.B ^= 1 << 40
		wantAdmit(t, keys(), []api.Pass{p}, text(t, []api.Epoch{k}, plain(p)), 700003, 2, api.ErrSum)
	}
}

// told: all answers of keys, passes, a text, a day and a zone.
func told(r []api.Epoch, l []api.Pass, text string, n, zone int) string {
	var out strings.Builder
	for _, p := range l {
		s, err := gate.Write(r, p)
		fmt.Fprint(&out, s, err, " ")
	}
	t, err := gate.Read(r, text)
	fmt.Fprint(&out, t, err, gate.Admit(r, l, text, n, zone))
	return out.String()
}

// drawn: keys, passes, a text, a day and a zone, most of them right.
func drawn(r *rand.Rand) ([]api.Epoch, []api.Pass, string, int, int) {
	about := func(most int) int {
		if r.Intn(80) == 0 {
			return int(r.Uint64())
		}
		return r.Intn(most)
	}
	k := keys()[:r.Intn(4)]
	if r.Intn(30) == 0 {
		k = []api.Epoch{{No: about(300)}}
	}
	var l []api.Pass
	for range r.Intn(4) {
		p := api.Pass{Id: 1 + about(5), Born: 1 + about(900), A: about(3), B: about(6), Serial: 1 + about(3)}
		at := 1 + about(30)
		for range r.Intn(6) {
			s := api.Span{From: at, To: at + 1 + about(20)}
			p.Days = append(p.Days, s)
			at = s.To + 1 + about(9)
		}
		l = append(l, p)
	}
	var b []byte
	for range r.Intn(150) {
		b = append(b, "0123456789ABCDEFGHJKMNPQRSTVWXYZ-oilu\xff"[r.Intn(38)])
	}
	s := string(b)
	if len(l) > 0 && r.Intn(5) > 0 {
		s, _ = gate.Write(k, l[0])
	}
	return k, l, s, about(100), about(6)
}

// TestP1AnyNumbers: no call panics, whatever it is handed, and with an error there is nothing else.
func TestP1AnyNumbers(t *testing.T) {
	r := rand.New(rand.NewSource(2))
	count := map[api.Errno]int{}
	for range 40000 {
		k, l, s, n, zone := drawn(r)
		for _, p := range l {
			if text, err := gate.Write(k, p); (text == "") != (err != api.OK) {
				t.Errorf("Write(%v, %v): %q %d", k, p, text, err)
			}
		}
		if x, err := gate.Read(k, s); same(x, api.Token{}) != (err != api.OK) {
			t.Errorf("Read(%v, %q): %v %d", k, s, x, err)
		}
		count[gate.Admit(k, l, s, n, zone)]++
	}
	for _, e := range []api.Errno{api.OK, api.ErrForm, api.ErrRange, api.ErrNone, api.ErrTwice} {
		if count[e] < 20 {
			t.Errorf("just %d answers are %d", count[e], e)
		}
	}
}

// TestP1AnySealed: no call panics, whatever was sealed.
func TestP1AnySealed(t *testing.T) {
	r := rand.New(rand.NewSource(3))
	for range 20000 {
		b := []byte(plain(with(of(), apart(1+r.Intn(api.LastDay-50), r.Intn(api.MaxTokenSpans+1)))))
		b = b[:len(b)-r.Intn(2)*r.Intn(len(b)+1)]
		for range r.Intn(3) {
			if len(b) > 0 {
				b[r.Intn(len(b))] = byte(r.Intn(256))
			}
		}
		s := text(t, keys(), string(b))
		x, err := gate.Read(keys(), s)
		if err != api.OK && err != api.ErrForm || same(x, api.Token{}) != (err != api.OK) {
			t.Errorf("Read of what was sealed of %x: %v %d", b, x, err)
		}
		if err == api.OK && plain(api.Pass{Id: x.Id, A: x.A, B: x.B, Serial: x.Serial, Days: x.Days}) != string(b) {
			t.Errorf("Read of what was sealed of %x: %v", b, x)
		}
	}
}

// TestP2OnlyRead: keys, passes, days and the spare room behind them are as they were.
func TestP2OnlyRead(t *testing.T) {
	days := set(100, 107, 110, 120, 130, 140, 140, 99, 0, 0)
	passes := []api.Pass{of(), with(of(), days[:3]), {Id: 8, Born: 5, Serial: 1, Days: days[:2]}, {Id: 9}, {Id: 10, Days: days[:5]}}
	room := keys()
	s := text(t, room, plain(passes[1]))
	was := fmt.Sprint(days, passes, room)
	for many := range len(passes) + 1 {
		for k := range len(room) + 1 {
			first := told(room[:k], passes[1:max(1, many)], s, 105, 2)
			if now := fmt.Sprint(days, passes, room); now != was {
				t.Fatalf("there is %s, and was %s", now, was)
			}
			if again := told(room[:k], passes[1:max(1, many)], s, 105, 2); again != first {
				t.Errorf("%s, and it was %s", again, first)
			}
		}
	}
}

// TestP2AnswersAreTheCallers: what is done to one token's days is not seen in another one's.
func TestP2AnswersAreTheCallers(t *testing.T) {
	p := of(100, 107, 110, 120, 130, 140)
	s := text(t, keys(), plain(p))
	one, _ := gate.Read(keys(), s)
	two, _ := gate.Read(keys(), s)
	clear(one.Days[:cap(one.Days)])
	if !same(two, tokenOf(p)) {
		t.Errorf("it is %v, and was %v", two, tokenOf(p))
	}
	wantRead(t, keys(), s, tokenOf(p), api.OK)
}

// TestP3NothingIsKept: asked backward and by many at once, the answers are the same.
func TestP3NothingIsKept(t *testing.T) {
	r := rand.New(rand.NewSource(4))
	const count = 300
	asks := make([]func() string, count)
	first := make([]string, count)
	for i := range count {
		k, l, s, n, zone := drawn(r)
		asks[i] = func() string { return told(k, l, s, n, zone) }
		first[i] = asks[i]()
	}
	var all sync.WaitGroup
	for range 4 {
		all.Go(func() {
			for i := count - 1; i >= 0; i-- {
				if again := asks[i](); again != first[i] {
					t.Errorf("%s, and it was %s", again, first[i])
				}
			}
		})
	}
	all.Wait()
}
