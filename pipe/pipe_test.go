package pipe_test

import (
	"fmt"
	"math"
	"reflect"
	"slices"
	"strings"
	"testing"

	"rejoinder/api"
	"rejoinder/pipe"
)

// The chapter's numbers, written out.
const (
	smtp  = 1
	pop3  = 2
	ftp   = 3
	most  = 8
	never = 9223372036854775807
)

// protos are the three, and others that are none.
var protos = []int{smtp, pop3, ftp, 0, -1, -3, 4, 5, 8, 259, 1<<32 + 3, math.MinInt, math.MinInt + 3, math.MaxInt}

// model is P19.1 and P19.2 said word for word.
type model struct {
	waits []api.Want
}

func (m *model) push(w api.Want) bool {
	if len(m.waits) >= most {
		return false
	}
	m.waits = append(slices.Clip(m.waits), w)
	return true
}

func (m *model) head() (api.Want, bool) {
	if len(m.waits) == 0 {
		return api.Want{}, false
	}
	return m.waits[0], true
}

func (m *model) due() int {
	dues := []int{never}
	for _, w := range m.waits {
		dues = append(dues, w.Due)
	}
	slices.Sort(dues)
	return dues[0]
}

func (m *model) reply(proto int, code string) (api.Want, bool, bool) {
	w, ok := m.head()
	if !ok {
		return api.Want{}, false, false
	}
	if proto == ftp && code != "" && code[:1] == "1" {
		return w, false, true
	}
	m.waits = m.waits[1:]
	return w, true, true
}

// shown is a want as it is told of, cut where it is long.
func shown(w api.Want) string {
	return fmt.Sprintf("{%.99q, %.99q, %v, %d}", w.Text, w.Codes, w.Body, w.Due)
}

// stands asks all that can be told, twice, as asking changes nothing.
func stands(t *testing.T, what string, p *pipe.Pipe, m *model) {
	t.Helper()
	for range 2 {
		want, is := m.head()
		if got, ok := p.Head(); got != want || ok != is {
			t.Fatalf("%s: Head = %s, %v, want %s, %v", what, shown(got), ok, shown(want), is)
		}
		if got, want := p.Len(), len(m.waits); got != want {
			t.Fatalf("%s: Len = %d, want %d", what, got, want)
		}
		if got, want := p.Due(), m.due(); got != want {
			t.Fatalf("%s: Due = %d, want %d", what, got, want)
		}
	}
}

// pushes pushes one into both.
func pushes(t *testing.T, what string, p *pipe.Pipe, m *model, w api.Want) bool {
	t.Helper()
	want := m.push(w)
	if got := p.Push(w); got != want {
		t.Fatalf("%s: Push = %v, want %v", what, got, want)
	}
	stands(t, what, p, m)
	return want
}

// replies tells both of a reply with this code.
func replies(t *testing.T, what string, p *pipe.Pipe, m *model, proto int, code string) (api.Want, bool) {
	t.Helper()
	want, isFinal, is := m.reply(proto, code)
	got, final, ok := p.Reply(proto, api.Reply{Code: code})
	if got != want || final != isFinal || ok != is {
		t.Fatalf("%s: Reply(%d, %.99q) = %s, %v, %v, want %s, %v, %v", what, proto, code, shown(got), final, ok, shown(want), isFinal, is)
	}
	stands(t, what, p, m)
	return want, isFinal
}

// a is the i-th of wants that all differ, in each of their fields from the next.
func a(i int) api.Want {
	return api.Want{Text: fmt.Sprint("CMD ", i), Codes: fmt.Sprint("2,", i%1000), Body: i%2 == 0, Due: 1000 - i%7*100 + i}
}

// filled is a pipe and its model in which n wait, behind gone others that wait no more.
func filled(t *testing.T, gone, n int) (*pipe.Pipe, *model) {
	t.Helper()
	p, m := pipe.New(), &model{}
	for i := range gone {
		pushes(t, "gone", p, m, a(100+i))
		replies(t, "gone", p, m, smtp, "250")
	}
	for i := range n {
		pushes(t, "filled", p, m, a(i))
	}
	return p, m
}

// drains lets all go who wait, in the order in which they were pushed, and what is left is nobody.
func drains(t *testing.T, what string, p *pipe.Pipe, m *model) {
	t.Helper()
	for len(m.waits) > 0 {
		replies(t, what, p, m, pop3, "+")
	}
	nobody(t, what, p)
}

// nobody holds a pipe in which nobody waits against the words of P19.1 and P19.2.
func nobody(t *testing.T, what string, p *pipe.Pipe) {
	t.Helper()
	if w, ok := p.Head(); w != (api.Want{}) || ok {
		t.Errorf("%s: Head = %s, %v", what, shown(w), ok)
	}
	if p.Len() != 0 || p.Due() != never {
		t.Errorf("%s: Len = %d, Due = %d", what, p.Len(), p.Due())
	}
	for _, proto := range protos {
		for _, code := range []string{"", "1", "150", "226", "250", "+", "x"} {
			if w, final, ok := p.Reply(proto, api.Reply{Code: code, Lines: []string{"hi"}}); w != (api.Want{}) || final || ok {
				t.Errorf("%s: Reply(%d, %q) = %s, %v, %v", what, proto, code, shown(w), final, ok)
			}
		}
	}
	if p.Len() != 0 || p.Due() != never {
		t.Errorf("%s: behind replies: Len = %d, Due = %d", what, p.Len(), p.Due())
	}
}

// P19.1, P19.2: the chapter's example.
func TestExample(t *testing.T) {
	p := pipe.New()
	for _, s := range []string{"a", "b"} {
		if !p.Push(api.Want{Text: s}) {
			t.Errorf("%s is not pushed", s)
		}
	}
	for _, s := range []string{"a", "b"} {
		if w, final, ok := p.Reply(smtp, api.Reply{Code: "250"}); w != (api.Want{Text: s}) || !final || !ok {
			t.Errorf("Reply = %s, %v, %v, want %s", shown(w), final, ok, s)
		}
	}
}

// P19.1, P19.2: in a new one nobody waits, nor in one whose last one went; a reply to nobody is nobody's, and changes nothing.
func TestNobody(t *testing.T) {
	nobody(t, "new", pipe.New())
	for gone := range 20 {
		p, m := filled(t, gone, 0)
		nobody(t, fmt.Sprint(gone, " gone"), p)
		pushes(t, "behind nobody", p, m, a(1))
		drains(t, "behind nobody", p, m)
	}
	for n := range most + 1 {
		p, m := filled(t, 0, n)
		drains(t, fmt.Sprint(n, " gone at once"), p, m)
	}
}

// P19.1, R2: eight may wait, and a ninth is not pushed, which changes nothing; who goes leaves room for one more.
func TestMost(t *testing.T) {
	for gone := range most + 2 {
		p, m := filled(t, gone, 0)
		for i := range 3 * most {
			if ok := pushes(t, "one more", p, m, a(i)); ok != (i < most) {
				t.Fatalf("%d gone: the %d-th is %v", gone, i, ok)
			}
		}
		for i := range 3 * most {
			if w, final := replies(t, "one goes", p, m, ftp, "226"); !final || i < most && w != a(i) {
				t.Fatalf("%d gone: %s goes as the %d-th", gone, shown(w), i)
			}
			if !pushes(t, "one comes", p, m, a(most+i)) || pushes(t, "one too many", p, m, a(-i)) {
				t.Fatalf("%d gone: room is not for one behind the %d-th", gone, i)
			}
		}
		drains(t, "most", p, m)
	}
	if most != api.MaxWindow || never != api.Never {
		t.Error("other bounds")
	}
}

// P19.1: who is pushed waits as he is: each field, and all of them empty; those who are alike wait each by himself.
func TestWants(t *testing.T) {
	long := strings.Repeat("long \x00\xff\r\n", 1<<17)
	wants := []api.Want{
		{},
		{Text: "QUIT"},
		{Codes: "221"},
		{Body: true},
		{Due: 5},
		{Due: never},
		{Due: -1},
		{Due: math.MinInt},
		{Text: "."},
		{Text: long, Codes: long, Body: true, Due: 1},
		{Text: "USER \xff", Codes: "2,331", Body: true, Due: 1<<62 + 7},
	}
	for _, first := range wants {
		for _, second := range wants {
			p, m := pipe.New(), &model{}
			pushes(t, "first", p, m, first)
			pushes(t, "second", p, m, second)
			if got, ok := p.Head(); got != first || !ok || p.Len() != 2 {
				t.Fatalf("Head = %s, %v of %d, want %s", shown(got), ok, p.Len(), shown(first))
			}
			replies(t, "not final", p, m, ftp, "150")
			replies(t, "first goes", p, m, ftp, "226")
			if got, ok := p.Head(); got != second || !ok || p.Len() != 1 {
				t.Fatalf("Head = %s, %v of %d, want %s", shown(got), ok, p.Len(), shown(second))
			}
			drains(t, "wants", p, m)
		}
		p, m := pipe.New(), &model{}
		for i := range most + 1 {
			if pushes(t, "alike", p, m, first) != (i < most) {
				t.Fatalf("%s: the %d-th alike", shown(first), i)
			}
		}
		drains(t, "alike", p, m)
	}
}

// P19.1: Due is the least of those who wait, at whichever place, and of who went, or was not pushed, no more.
func TestDue(t *testing.T) {
	dues := []int{math.MinInt, math.MinInt + 1, -5, -1, 0, 1, 2, 7, 1 << 30, never - 1, never}
	for n := range most + 1 {
		for least := range n {
			for _, due := range dues {
				for _, others := range []int{due, never} {
					p, m := pipe.New(), &model{}
					for i := range n {
						w := api.Want{Text: fmt.Sprint(i), Due: others}
						if i == least {
							w.Due = due
						}
						pushes(t, "due", p, m, w)
					}
					if got := p.Due(); got != due {
						t.Fatalf("Due = %d, want %d, the %d-th of %d", got, due, least, n)
					}
					for i := range n {
						replies(t, "due", p, m, smtp, "250")
						want := never
						if i < least {
							want = due
						} else if i < n-1 {
							want = others
						}
						if got := p.Due(); got != want {
							t.Fatalf("Due = %d, want %d, behind the %d-th of %d", got, want, i, n)
						}
					}
				}
			}
		}
	}
	p, m := pipe.New(), &model{}
	for i := range most {
		pushes(t, "full", p, m, api.Want{Due: 100 + i})
	}
	pushes(t, "too many", p, m, api.Want{Due: 1})
	if p.Due() != 100 {
		t.Errorf("Due = %d of who was not pushed", p.Due())
	}
}

// P19.1: all orders of some dues, each while others go and come.
func TestDueInAllOrders(t *testing.T) {
	var walk func(left, row []int)
	walk = func(left, row []int) {
		if len(left) == 0 {
			p, m := pipe.New(), &model{}
			for _, due := range row {
				pushes(t, "order", p, m, api.Want{Due: due})
			}
			for _, due := range row {
				replies(t, "order", p, m, smtp, "250")
				pushes(t, "order", p, m, api.Want{Due: due + 1})
			}
			drains(t, "order", p, m)
			return
		}
		for i := range left {
			walk(slices.Delete(slices.Clone(left), i, i+1), append(slices.Clip(row), left[i]))
		}
	}
	walk([]int{-3, 0, 4, 4, 9, never}, nil)
}

// codes are all of three digits, each byte alone, ahead of others and behind a 1, and some more.
func codes() []string {
	l := []string{"", "10", "11", "1 50", " 150", "\t150", "0150", "21", "2150", "x1", "+1", "1+", "l50", "I50", "\uff1150", "\u00b950", strings.Repeat("1", 1000), strings.Repeat("2", 1000) + "1"}
	for n := range 1000 {
		l = append(l, fmt.Sprintf("%03d", n))
	}
	for c := range 256 {
		b := string([]byte{byte(c)})
		l = append(l, b, b+"50", b+"1", "1"+b, "1"+b+"0", "2"+b)
	}
	return l
}

// P19.2: a reply is final, but of Ftp one with a code that begins by 1, and that leaves all as they wait.
func TestFinal(t *testing.T) {
	for _, code := range codes() {
		for _, proto := range protos {
			want := proto != 3 || len(code) == 0 || code[0] != 49
			p, m := pipe.New(), &model{}
			for i := range 2 {
				pushes(t, "two", p, m, a(i))
			}
			w, final, ok := p.Reply(proto, api.Reply{Code: code})
			if w != a(0) || final != want || !ok {
				t.Fatalf("Reply(%d, %.99q) = %s, %v, %v", proto, code, shown(w), final, ok)
			}
			m.reply(proto, code)
			stands(t, code, p, m)
			if (p.Len() == 1) != want {
				t.Fatalf("Reply(%d, %.99q): %d wait", proto, code, p.Len())
			}
		}
	}
}

// P19.2: what is not final may come as often as it will, of one or of eight; who waits longest waits on.
func TestNotFinal(t *testing.T) {
	for n := 1; n <= most; n++ {
		p, m := filled(t, n, n)
		for i := range n {
			for range 50 {
				if w, final := replies(t, "not final", p, m, ftp, "150"); w != a(i) || final {
					t.Fatalf("%s, %v, want the %d-th of %d", shown(w), final, i, n)
				}
			}
			if w, final := replies(t, "final", p, m, ftp, "226"); w != a(i) || !final {
				t.Fatalf("%s, %v, want the %d-th of %d", shown(w), final, i, n)
			}
		}
		nobody(t, "all gone", p)
	}
}

// P19.2: the code alone says whether it is final, not the lines, nor the body, nor who waits.
func TestOnlyTheCode(t *testing.T) {
	for _, r := range []api.Reply{{}, {Lines: []string{"150 hi"}}, {Lines: []string{"1"}, Body: []byte("150")}, {Lines: make([]string, 20)}} {
		for _, w := range []api.Want{{}, {Text: "1"}, {Codes: "1"}, {Codes: "150", Body: true}, {Codes: "2"}, {Due: 1}} {
			for code, want := range map[string]bool{"150": false, "226": true, "500": true, "": true} {
				r.Code = code
				p := pipe.New()
				p.Push(w)
				if got, final, ok := p.Reply(ftp, r); got != w || final != want || !ok {
					t.Errorf("Reply of %q for %s = %s, %v, %v", r, shown(w), shown(got), final, ok)
				}
			}
		}
	}
}

// P19.1, P19.2: all short rows of calls, behind each number of those who wait, and of those who are gone.
func TestAllShortRows(t *testing.T) {
	steps := []func(what string, p *pipe.Pipe, m *model){
		func(what string, p *pipe.Pipe, m *model) { pushes(t, what, p, m, api.Want{Text: what, Due: 5}) },
		func(what string, p *pipe.Pipe, m *model) { pushes(t, what, p, m, api.Want{Text: what, Due: -5}) },
		func(what string, p *pipe.Pipe, m *model) { replies(t, what, p, m, ftp, "226") },
		func(what string, p *pipe.Pipe, m *model) { replies(t, what, p, m, ftp, "125") },
		func(what string, p *pipe.Pipe, m *model) { replies(t, what, p, m, smtp, "125") },
	}
	rows := func(gone, n, length int) {
		for row := range int(math.Pow(float64(len(steps)), float64(length))) {
			p, m := filled(t, gone, n)
			what := ""
			for range length {
				what += string(rune('0' + row%len(steps)))
				steps[row%len(steps)](what, p, m)
				row /= len(steps)
			}
			drains(t, what, p, m)
		}
	}
	rows(0, 0, 6)
	for gone := range most + 1 {
		for n := range most + 1 {
			rows(gone, n, 3)
		}
	}
}

// P19.1, P19.2: long rows, of two pipes in turn, which know nothing of each other.
func TestLongRows(t *testing.T) {
	for seed := range uint32(200) {
		ps, ms := []*pipe.Pipe{pipe.New(), pipe.New()}, []*model{{}, {}}
		x := seed*2654435761 + 1
		for i := range 300 {
			x = x*1664525 + 1013904223
			k := x >> 9 & 1
			switch x >> 28 {
			case 0, 1, 2, 3, 4, 5, 6, 7:
				pushes(t, "row", ps[k], ms[k], api.Want{Text: fmt.Sprint(i), Due: int(x >> 10 & 63), Body: x>>11&1 == 0})
			case 8, 9, 10:
				replies(t, "row", ps[k], ms[k], ftp, "150")
			case 11, 12:
				replies(t, "row", ps[k], ms[k], smtp, "150")
			default:
				replies(t, "row", ps[k], ms[k], ftp, "226")
			}
			stands(t, "the other", ps[1-k], ms[1-k])
		}
	}
}

// P19.3: all of some windows, by the chapter's words: what is below 1 is 1, what is above 8 is 8.
func TestWindow(t *testing.T) {
	asks := []int{math.MinInt, math.MinInt + 1, -1 << 32, 1 << 8, 1<<8 + 3, 1 << 31, 1 << 32, 1<<32 + 2, math.MaxInt - 1, math.MaxInt}
	for n := -300; n <= 300; n++ {
		asks = append(asks, n)
	}
	for _, proto := range protos {
		for _, asked := range asks {
			want := asked
			if asked < 1 {
				want = 1
			}
			if asked > 8 {
				want = 8
			}
			if proto == 3 {
				want = 1
			}
			if got := pipe.Window(proto, asked, true); got != want {
				t.Errorf("Window(%d, %d, true) = %d, want %d", proto, asked, got, want)
			}
			if got := pipe.Window(proto, asked, false); got != 1 {
				t.Errorf("Window(%d, %d, false) = %d, want 1", proto, asked, got)
			}
		}
	}
}

// P19.4: final replies go to those who wait in the order in which they were pushed, one each, for all windows, with any number that is not final between, and however far ahead one pushes.
func TestInOrder(t *testing.T) {
	for _, proto := range []int{smtp, pop3, ftp} {
		for window := 1; window <= most; window++ {
			for between := range 4 {
				p := pipe.New()
				begun, got := 0, []string{}
				for k := 0; k < 60; k++ {
					for p.Len() < window-k%window && begun < 60 {
						if !p.Push(api.Want{Text: fmt.Sprint(begun)}) {
							t.Fatalf("the %d-th is not pushed", begun)
						}
						begun++
					}
					for range between {
						if w, final, ok := p.Reply(ftp, api.Reply{Code: "150"}); w.Text != fmt.Sprint(k) || final || !ok {
							t.Fatalf("%s, %v, %v between, want %d", shown(w), final, ok, k)
						}
					}
					w, final, ok := p.Reply(proto, api.Reply{Code: "250"})
					if !final || !ok {
						t.Fatalf("the %d-th is %v, %v", k, final, ok)
					}
					got = append(got, w.Text)
				}
				for k, s := range got {
					if s != fmt.Sprint(k) {
						t.Fatalf("proto %d, window %d: the %d-th reply is that of %s", proto, window, k, s)
					}
				}
				nobody(t, "all are paired", p)
			}
		}
	}
}

// R7: a reply is neither changed nor kept, nor the room behind its ends: what is done to it later shows nowhere.
func TestGivenIsLeft(t *testing.T) {
	made := func() (api.Reply, api.Reply) {
		lines := append(make([]string, 0, 9), "150 a", "b", "behind", "me")
		body := append(make([]byte, 0, 9), "abcdef"...)
		return api.Reply{Code: "150", Lines: lines[:2], Body: body[:3]}, api.Reply{Lines: lines[:9], Body: body[:9]}
	}
	for _, proto := range protos {
		for n := range most + 1 {
			r, behind := made()
			twin, twinBehind := made()
			p, m := filled(t, 0, n)
			want, isFinal, is := m.reply(proto, r.Code)
			if w, final, ok := p.Reply(proto, r); w != want || final != isFinal || ok != is {
				t.Fatalf("%d, %d: %s, %v, %v", proto, n, shown(w), final, ok)
			}
			if !reflect.DeepEqual(r, twin) || !reflect.DeepEqual(behind, twinBehind) {
				t.Fatalf("%d, %d: the reply is changed: %q, %q", proto, n, r, behind)
			}
			for i := range behind.Lines {
				behind.Lines[i] = "spoilt"
				behind.Body[i] ^= 255
			}
			stands(t, "behind a spoilt reply", p, m)
			drains(t, "behind a spoilt reply", p, m)
		}
	}
}

// R7: what is answered is the caller's own: what he does to it shows nowhere.
func TestAnswersAreOnesOwn(t *testing.T) {
	for n := 1; n <= most; n++ {
		p, m := filled(t, 3, n)
		for len(m.waits) > 0 {
			head, _ := p.Head()
			head.Text, head.Codes, head.Body, head.Due = "spoilt", "spoilt", !head.Body, -1000
			stands(t, "behind a spoilt head", p, m)
			w, _, _ := p.Reply(ftp, api.Reply{Code: "150"})
			w.Text, w.Codes, w.Body, w.Due = "spoilt", "spoilt", !w.Body, -1000
			stands(t, "behind a spoilt answer", p, m)
			replies(t, "final", p, m, ftp, "226")
		}
		given := api.Want{Text: "a", Due: 3}
		pushes(t, "given", p, m, given)
		given.Text, given.Due = "spoilt", 1
		stands(t, "behind a spoilt want", p, m)
	}
}

// R1, R6: a pipe may be used for very long, and answers as a fresh one does.
func TestVeryLong(t *testing.T) {
	p := pipe.New()
	for i := range 1 << 20 {
		w := api.Want{Text: "NOOP", Due: i}
		if !p.Push(w) || p.Due() != i || p.Len() != 1 {
			t.Fatalf("the %d-th: Due %d, Len %d", i, p.Due(), p.Len())
		}
		if got, final, ok := p.Reply(pop3, api.Reply{Code: "+"}); got != w || !final || !ok {
			t.Fatalf("the %d-th: %s, %v, %v", i, shown(got), final, ok)
		}
	}
	nobody(t, "very long", p)
}
