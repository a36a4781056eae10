package xfer_test

import (
	"bytes"
	"fmt"
	"reflect"
	"slices"
	"strings"
	"testing"

	"rejoinder/addr"
	"rejoinder/api"
	"rejoinder/xfer"
)

// The chapter's numbers, written out.
const (
	ok       api.Errno = 0
	noReply  api.Errno = 62
	reset    api.Errno = 66
	connect  api.Errno = 69
	noAddr   api.Errno = 70
	tooLarge api.Errno = 71
	most               = 1000
)

var (
	none   api.Act
	asking = api.Act{Ask: true}
)

// where are texts that tell where data are, by the two ways to ask.
var where = map[bool]string{false: "1,2,3,4,5,6", true: "(|||7|)"}

// right are the codes that tell so.
var right = map[bool]string{false: "227", true: "229"}

// model is P21.1 to P21.3 said word for word.
type model struct {
	line, payload         string
	put, ext              bool
	connects, moves       bool
	notFinal, there, data bool // of one that moves
	got                   string
}

func (m *model) done() bool {
	if !m.moves || !m.there {
		return false
	}
	return m.put || m.data
}

func (m *model) waits() bool {
	return m.connects || m.moves && !m.put && m.there && !m.data
}

func (m *model) reply(r api.Reply, final bool) (api.Act, api.Errno) {
	switch {
	case m.connects || m.done():
		return api.Act{}, 62
	case !m.moves && !final:
		return api.Act{}, 0
	case !m.moves:
		return m.asked(r)
	case !final && m.put && !m.notFinal:
		m.notFinal = true
		return api.Act{Write: []byte(m.payload), End: true}, 0
	case !final:
		m.notFinal = true
		return api.Act{}, 0
	case r.Code == "" || r.Code[0] != 50 || m.put && !m.notFinal:
		return api.Act{}, 62
	}
	m.there = true
	return api.Act{}, 0
}

func (m *model) asked(r api.Reply) (api.Act, api.Errno) {
	text := ""
	for _, s := range r.Lines {
		text = s
	}
	told := false
	if m.ext {
		if r.Code != "229" {
			return api.Act{}, 62
		}
		_, told = addr.Epsv(text)
	} else {
		if r.Code != "227" {
			return api.Act{}, 62
		}
		_, told = addr.Pasv(text)
	}
	if !told {
		return api.Act{}, 70
	}
	m.connects = true
	return api.Act{Ask: true}, 0
}

func (m *model) connect(made bool) (api.Act, api.Errno) {
	if !m.connects {
		return api.Act{}, 0
	}
	if !made {
		return api.Act{}, 69
	}
	m.connects, m.moves = false, true
	return api.Act{Line: m.line}, 0
}

func (m *model) more(b []byte) api.Errno {
	if !m.moves || m.put {
		return 0
	}
	if len(m.got)+len(b) > 1000 {
		return 71
	}
	m.got += string(b)
	return 0
}

func (m *model) close() {
	if m.moves {
		m.data = true
	}
}

func (m *model) reset() api.Errno {
	if (m.connects || m.moves) && !m.done() {
		return 66
	}
	return 0
}

// same holds acts against each other: of an empty list it says nothing whether it is nil.
func same(a, b api.Act) bool {
	return a.Line == b.Line && a.Ask == b.Ask && a.End == b.End && bytes.Equal(a.Write, b.Write)
}

// shown is an act as it is told of, cut where it is long.
func shown(a api.Act) string {
	return fmt.Sprintf("{%.99q, %v, %.99q, %v}", a.Line, a.Ask, a.Write, a.End)
}

// both are a transfer and its model.
type both struct {
	t    *testing.T
	what string
	x    *xfer.Xfer
	m    *model
}

// begins begins both, and holds what New answers.
func begins(t *testing.T, line string, put bool, payload string, ext bool) *both {
	t.Helper()
	x, a := xfer.New(line, put, []byte(payload), ext)
	b := &both{t: t, what: fmt.Sprintf("put %v, ext %v:", put, ext), x: x, m: &model{line: line, put: put, payload: payload, ext: ext}}
	want := api.Act{Line: "PASV"}
	if ext {
		want = api.Act{Line: "EPSV"}
	}
	if x == nil || !same(a, want) {
		t.Fatalf("%s New: %v, %s", b.what, x, shown(a))
	}
	b.stands()
	return b
}

// stands asks all that can be told, twice, as asking changes nothing.
func (b *both) stands() {
	b.t.Helper()
	for range 2 {
		if got, want := b.x.Done(), b.m.done(); got != want {
			b.t.Fatalf("%s Done = %v", b.what, got)
		}
		if got, want := b.x.Waits(), b.m.waits(); got != want {
			b.t.Fatalf("%s Waits = %v", b.what, got)
		}
		if got := b.x.Bytes(); string(got) != b.m.got {
			b.t.Fatalf("%s Bytes = %.99q, want %.99q", b.what, got, b.m.got)
		}
	}
}

// acts holds what a call answers, and what it leaves.
func (b *both) acts(call string, a, wantA api.Act, e, wantE api.Errno) {
	b.t.Helper()
	b.what += " " + call
	if !same(a, wantA) || e != wantE {
		b.t.Fatalf("%s: %s, %d, want %s, %d", b.what, shown(a), e, shown(wantA), wantE)
	}
	b.stands()
}

func (b *both) reply(r api.Reply, final bool) (api.Act, api.Errno) {
	b.t.Helper()
	wantA, wantE := b.m.reply(r, final)
	a, e := b.x.Reply(r, final)
	b.acts(fmt.Sprintf("Reply(%.99q, %v)", r.Code, final), a, wantA, e, wantE)
	return a, e
}

func (b *both) connect(made bool) (api.Act, api.Errno) {
	b.t.Helper()
	wantA, wantE := b.m.connect(made)
	a, e := b.x.Connect(made)
	b.acts(fmt.Sprintf("Connect(%v)", made), a, wantA, e, wantE)
	return a, e
}

func (b *both) data(d []byte) api.Errno {
	b.t.Helper()
	want := b.m.more(d)
	got := b.x.Data(d)
	b.acts(fmt.Sprintf("Data of %d", len(d)), none, none, got, want)
	return got
}

func (b *both) close() {
	b.t.Helper()
	b.m.close()
	b.x.Close()
	b.acts("Close", none, none, ok, ok)
}

func (b *both) reset() api.Errno {
	b.t.Helper()
	want := b.m.reset()
	got := b.x.Reset()
	b.acts("Reset", none, none, got, want)
	return got
}

// told lets both connect, moving lets them move.
func (b *both) told() *both {
	b.t.Helper()
	if a, e := b.reply(api.Reply{Code: right[b.m.ext], Lines: []string{where[b.m.ext]}}, true); !same(a, asking) || e != ok || !b.m.connects {
		b.t.Fatalf("%s does not connect: %s, %d", b.what, shown(a), e)
	}
	return b
}

func (b *both) moving() *both {
	b.t.Helper()
	b.told()
	if a, e := b.connect(true); !same(a, api.Act{Line: b.m.line}) || e != ok || !b.m.moves {
		b.t.Fatalf("%s does not move: %s, %d", b.what, shown(a), e)
	}
	return b
}

// final and other are replies with a code.
func (b *both) final(code string) api.Errno {
	b.t.Helper()
	_, e := b.reply(api.Reply{Code: code, Lines: []string{"hi"}}, true)
	return e
}

func (b *both) other(code string) (api.Act, api.Errno) {
	b.t.Helper()
	return b.reply(api.Reply{Code: code, Lines: []string{"hi"}}, false)
}

// kinds visits all four kinds of transfers.
func kinds(visit func(put, ext bool)) {
	for _, put := range []bool{false, true} {
		for _, ext := range []bool{false, true} {
			visit(put, ext)
		}
	}
}

// places are all places where a transfer may stand, each with a way to it.
func places(t *testing.T, put, ext bool) []func() *both {
	begun := func() *both { t.Helper(); return begins(t, "LINE f", put, "pay", ext) }
	moving := func() *both { t.Helper(); return begun().moving() }
	at := func() *both { t.Helper(); b := moving(); b.other("150"); return b }
	l := []func() *both{
		begun,
		func() *both { b := begun(); b.other("150"); b.close(); return b },
		func() *both { return begun().told() },
		moving,
		at,
		func() *both { b := moving(); b.data([]byte("d")); return b },
		func() *both { b := at(); b.data([]byte("d")); return b },
		func() *both { b := moving(); b.close(); return b },
		func() *both { b := at(); b.close(); return b },
		func() *both { b := at(); b.final("226"); return b },
		func() *both { b := at(); b.data([]byte("d")); b.final("226"); return b },
		func() *both { b := at(); b.data([]byte("d")); b.close(); b.final("226"); return b },
		func() *both { b := at(); b.final("226"); b.data([]byte("d")); b.close(); return b },
	}
	if !put {
		l = append(l, func() *both { b := moving(); b.final("226"); return b })
	}
	return l
}

// P21.1 to P21.4: the chapter's example.
func TestExample(t *testing.T) {
	x, a := xfer.New("RETR f", false, nil, false)
	if !same(a, api.Act{Line: "PASV"}) {
		t.Errorf("New: %s", shown(a))
	}
	if a, e := x.Reply(api.Reply{Code: "227", Lines: []string{"1,2,3,4,5,6"}}, true); !same(a, asking) || e != ok {
		t.Errorf("227: %s, %d", shown(a), e)
	}
	if a, e := x.Connect(true); !same(a, api.Act{Line: "RETR f"}) || e != ok {
		t.Errorf("made: %s, %d", shown(a), e)
	}
	if a, e := x.Reply(api.Reply{Code: "150"}, false); !same(a, none) || e != ok {
		t.Errorf("150: %s, %d", shown(a), e)
	}
	if e := x.Data([]byte("data")); e != ok {
		t.Errorf("data: %d", e)
	}
	x.Close()
	if x.Done() || x.Waits() {
		t.Errorf("Done = %v, Waits = %v", x.Done(), x.Waits())
	}
	if a, e := x.Reply(api.Reply{Code: "226"}, true); !same(a, none) || e != ok {
		t.Errorf("226: %s, %d", shown(a), e)
	}
	if !x.Done() || x.Waits() || string(x.Bytes()) != "data" {
		t.Errorf("Done = %v, Waits = %v, Bytes = %q", x.Done(), x.Waits(), x.Bytes())
	}
}

// The numbers of package api are the chapter's.
func TestNumbers(t *testing.T) {
	if api.ErrReply != noReply || api.ErrReset != reset || api.ErrConnect != connect || api.ErrAddr != noAddr || api.ErrTooLarge != tooLarge || api.MaxBody != most || api.OK != ok {
		t.Error("other numbers")
	}
}

// P21.1: a new one asks for where data are, whatever it gets or puts, and has nothing yet.
func TestNew(t *testing.T) {
	kinds(func(put, ext bool) {
		want := api.Act{Line: map[bool]string{false: "PASV", true: "EPSV"}[ext]}
		for _, line := range []string{"", "RETR f", "PASV", "EPSV", "\r\n\x00\xff", strings.Repeat("x", 5000)} {
			for _, payload := range [][]byte{nil, {}, []byte("pay"), bytes.Repeat([]byte("\xff"), 100000)} {
				x, a := xfer.New(line, put, payload, ext)
				if !reflect.DeepEqual(a, want) {
					t.Errorf("New(%.99q, %v, %.99q, %v): %s", line, put, payload, ext, shown(a))
				}
				if x.Done() || x.Waits() || len(x.Bytes()) != 0 || x.Reset() != ok {
					t.Errorf("New(%.99q, %v, %.99q, %v): %v, %v, %q", line, put, payload, ext, x.Done(), x.Waits(), x.Bytes())
				}
			}
		}
	})
}

// codes are all of three digits, and others, that are none of a reply too.
func codes() []string {
	l := []string{"", "+", "-", ">", "2", "22", "2270", "2290", "0227", " 227", "227 ", "22\x37\x00", "２２７", "229\n", "+227", strings.Repeat("2", 1000), "\xff27"}
	for n := range 1000 {
		l = append(l, fmt.Sprintf("%03d", n))
	}
	for c := range 256 {
		b := string([]byte{byte(c)})
		l = append(l, b, b+"26", "2"+b, "22"+b)
	}
	return l
}

// P21.2, R2: when it asks, a final reply of another code is none that is expected, and it asks on; that comes ahead of what it tells.
func TestCodeOfWhere(t *testing.T) {
	kinds(func(put, ext bool) {
		b := begins(t, "LINE", put, "pay", ext)
		for _, code := range codes() {
			if code == right[ext] {
				continue
			}
			b.what = "code of where:"
			for _, lines := range [][]string{nil, {where[ext]}, {where[!ext]}, {"x"}} {
				if a, e := b.reply(api.Reply{Code: code, Lines: lines}, true); !same(a, none) || e != noReply {
					t.Fatalf("ext %v: Reply(%q, %q) = %s, %d", ext, code, lines, shown(a), e)
				}
			}
			if b.reset() != ok {
				t.Fatalf("ext %v: %q: it asks no more", ext, code)
			}
		}
		b.moving()
	})
}

// P21.2: the last of the lines tells where data are, whatever stands ahead of it.
func TestTextOfWhere(t *testing.T) {
	texts := []struct {
		text       string
		pasv, epsv bool
	}{
		{"", false, false},
		{"x", false, false},
		{"1,2,3,4,5,6", true, false},
		{"ok (10,0,0,1,4,1).", true, false},
		{"(1,2,3,4,5,6)", true, false},
		{"1,2,3,4,5", false, false},
		{"1,2,3,4,5,256", false, false},
		{"1,2,3,4,0,0", false, false},
		{"(|||7|)", false, true},
		{"ok (|||65535|) 3", false, true},
		{"(|||0|)", false, false},
		{"(|||65536|)", false, false},
		{"|||7|", false, false},
		{"(|||7|", false, false},
		{"1,2,3,4,5,6 (|||7|)", true, true},
		{"(|||7|) 1,2,3,4,5,6", false, true},
		{"\x00", false, false},
		{strings.Repeat("9", 3000), false, false},
	}
	kinds(func(put, ext bool) {
		for _, c := range texts {
			text, is := c.text, c.pasv
			if ext {
				is = c.epsv
			}
			for _, ahead := range [][]string{nil, {""}, {"x"}, {where[ext]}, {where[ext], "x"}, {"x", where[ext]}, make([]string, 30)} {
				b := begins(t, "LINE", put, "pay", ext)
				a, e := b.reply(api.Reply{Code: right[ext], Lines: append(slices.Clip(ahead), text), Body: []byte(where[ext])}, true)
				if is && (!same(a, asking) || e != ok || !b.x.Waits()) || !is && (!same(a, none) || e != noAddr || b.x.Waits()) {
					t.Fatalf("ext %v: %q behind %q: %s, %d", ext, text, ahead, shown(a), e)
				}
				if !is {
					b.told()
				}
			}
		}
		for _, lines := range [][]string{nil, {}} {
			b := begins(t, "LINE", put, "pay", ext)
			if a, e := b.reply(api.Reply{Code: right[ext], Lines: lines}, true); !same(a, none) || e != noAddr {
				t.Fatalf("ext %v: no lines: %s, %d", ext, shown(a), e)
			}
			b.told()
		}
	})
}

// P21.2: when it asks, a reply that is not final is nothing, whatever it says, and how often.
func TestNotFinalWhenItAsks(t *testing.T) {
	kinds(func(put, ext bool) {
		b := begins(t, "LINE", put, "pay", ext)
		for _, code := range []string{"150", "", right[ext], right[!ext], "226", "500", "150"} {
			for _, lines := range [][]string{nil, {where[ext]}, {"x"}} {
				if a, e := b.reply(api.Reply{Code: code, Lines: lines}, false); !same(a, none) || e != ok || b.x.Waits() || b.x.Reset() != ok {
					t.Fatalf("%s: %s, %d", b.what, shown(a), e)
				}
			}
		}
		b.moving()
		// Those that came when it asked are not of those that come when it moves.
		if put {
			if e := b.final("226"); e != noReply {
				t.Errorf("226 ahead of 150: %d", e)
			}
			if a, e := b.other("150"); !same(a, api.Act{Write: []byte("pay"), End: true}) || e != ok {
				t.Errorf("150: %s, %d", shown(a), e)
			}
		}
	})
}

// P21.2, P21.3: when it connects, each reply is none that is expected, data and ends are nothing, and a reset is one.
func TestWhenItConnects(t *testing.T) {
	kinds(func(put, ext bool) {
		b := begins(t, "LINE", put, "pay", ext).told()
		for _, code := range []string{"227", "229", "150", "226", "250", "500", "", "1", "2"} {
			for _, final := range []bool{false, true} {
				if a, e := b.reply(api.Reply{Code: code, Lines: []string{where[ext]}}, final); !same(a, none) || e != noReply {
					t.Fatalf("%s: %s, %d", b.what, shown(a), e)
				}
			}
		}
		if b.data([]byte("d")) != ok || b.data(make([]byte, 5000)) != ok || len(b.x.Bytes()) != 0 {
			t.Errorf("%s: %q", b.what, b.x.Bytes())
		}
		b.close()
		if b.reset() != reset || !b.x.Waits() || b.x.Done() {
			t.Errorf("%s: %v, %v", b.what, b.x.Waits(), b.x.Done())
		}
		if a, e := b.connect(false); !same(a, none) || e != connect || !b.x.Waits() {
			t.Errorf("%s: %s, %d", b.what, shown(a), e)
		}
		if a, e := b.connect(true); !same(a, api.Act{Line: "LINE"}) || e != ok || b.x.Waits() {
			t.Errorf("%s: %s, %d", b.what, shown(a), e)
		}
		b.other("150")
		if b.final("226") != ok || b.x.Done() != put || b.x.Waits() == put {
			t.Errorf("%s: an end ahead of the connection is none of the data", b.what)
		}
	})
}

// P21.3: a connection that is made, or not, is nothing but when it connects.
func TestConnectElsewhere(t *testing.T) {
	kinds(func(put, ext bool) {
		for i, at := range places(t, put, ext) {
			for _, made := range []bool{true, false} {
				b := at()
				if b.m.connects {
					continue
				}
				if a, e := b.connect(made); !same(a, none) || e != ok {
					t.Errorf("place %d: %s: %s, %d", i, b.what, shown(a), e)
				}
				if !b.m.moves {
					b.moving()
				}
			}
		}
	})
}

// P21.1, P21.3: the line is sent as it is, when the connection is made.
func TestLine(t *testing.T) {
	for _, line := range []string{"", "RETR f", "STOR f", "PASV", "a\r\nb", "\x00\xff", strings.Repeat("line ", 1000)} {
		kinds(func(put, ext bool) { begins(t, line, put, "pay", ext).moving() })
	}
}

// P21.2: the first reply that is not final, when it moves, lets one that puts write and end, of any payload; the others, and of one that gets each, do nothing.
func TestWrites(t *testing.T) {
	for _, payload := range []string{"", "p", "pay", ".\r\n", "\r\n.\r\n", "\x00\xff", strings.Repeat("x", most), strings.Repeat("long ", 50000)} {
		for _, ext := range []bool{false, true} {
			for _, code := range []string{"150", "125", "", "2", "226", "500"} {
				b := begins(t, "STOR f", true, payload, ext).moving()
				if a, e := b.other(code); string(a.Write) != payload || !a.End || a.Line != "" || a.Ask || e != ok {
					t.Fatalf("%s: %.99q, %d", b.what, a.Write, e)
				}
				for _, code := range []string{code, "150", "250", "500", ""} {
					if a, e := b.other(code); !same(a, none) || e != ok {
						t.Fatalf("%s: %.99q, %d", b.what, a.Write, e)
					}
				}
				if b.final("226") != ok || !b.x.Done() || len(b.x.Bytes()) != 0 {
					t.Fatalf("%s: not done", b.what)
				}
				c := begins(t, "RETR f", false, payload, ext).moving()
				for range 3 {
					if a, e := c.other(code); !same(a, none) || e != ok {
						t.Fatalf("%s: %.99q, %d", c.what, a.Write, e)
					}
				}
				if c.final("226") != ok || c.x.Done() || len(c.x.Bytes()) != 0 {
					t.Fatalf("%s: %q", c.what, c.x.Bytes())
				}
			}
		}
	}
}

// P21.2, R2: when it moves, a final reply is expected if its code begins by a 2, and, of one that puts, not ahead of one that is not final; else nothing changes.
func TestFinalWhenItMoves(t *testing.T) {
	kinds(func(put, ext bool) {
		for _, code := range codes() {
			want := noReply
			if len(code) > 0 && code[0] == '2' {
				want = ok
			}
			for _, begun := range []bool{true, false} {
				b := begins(t, "LINE", put, "pay", ext).moving()
				if begun {
					b.other("150")
				}
				is := want
				if put && !begun {
					is = noReply
				}
				if a, e := b.reply(api.Reply{Code: code}, true); !same(a, none) || e != is {
					t.Fatalf("%s: %s, %d, want %d", b.what, shown(a), e, is)
				}
				if b.x.Done() != (put && is == ok) || b.x.Waits() != (!put && is == ok) {
					t.Fatalf("%s: Done %v, Waits %v", b.what, b.x.Done(), b.x.Waits())
				}
				if is != ok { // it is as it was
					a, _ := b.other("150")
					if a.End != (put && !begun) {
						t.Fatalf("%s: %s", b.what, shown(a))
					}
					b.close()
					if b.final("226") != ok || !b.x.Done() {
						t.Fatalf("%s: not done", b.what)
					}
				}
			}
		}
	})
}

// P21.2: behind its end each reply is none that is expected, final or not, and it is at its end still.
func TestBehindTheEnd(t *testing.T) {
	kinds(func(put, ext bool) {
		b := begins(t, "LINE", put, "pay", ext).moving()
		b.other("150")
		b.data([]byte("d"))
		b.close()
		b.final("226")
		for _, code := range []string{"227", "229", "150", "226", "250", "500", ""} {
			for _, final := range []bool{true, false} {
				if a, e := b.reply(api.Reply{Code: code, Lines: []string{where[ext]}}, final); !same(a, none) || e != noReply || !b.x.Done() {
					t.Errorf("%s: %s, %d", b.what, shown(a), e)
				}
			}
		}
		if b.reset() != ok || b.x.Waits() {
			t.Errorf("%s: not at its end", b.what)
		}
	})
}

// P21.2: one that gets, and whose data are not there, moves on behind the final reply.
func TestBehindTheReply(t *testing.T) {
	for _, ext := range []bool{false, true} {
		b := begins(t, "RETR f", false, "", ext).moving()
		b.final("226")
		if _, e := b.other("150"); e != ok {
			t.Errorf("%s: %d", b.what, e)
		}
		if e := b.final("500"); e != noReply || b.x.Done() || !b.x.Waits() {
			t.Errorf("%s: %d", b.what, e)
		}
		if e := b.final("250"); e != ok || b.x.Done() || !b.x.Waits() {
			t.Errorf("%s: %d", b.what, e)
		}
		if b.data([]byte("late")) != ok || b.reset() != reset {
			t.Errorf("%s: no data", b.what)
		}
		b.close()
		if !b.x.Done() || string(b.x.Bytes()) != "late" {
			t.Errorf("%s: %q", b.what, b.x.Bytes())
		}
	}
}

// sample is n bytes, of all values.
func sample(n int) []byte {
	b := make([]byte, n)
	for i := range b {
		b[i] = byte(i * 7)
	}
	return b
}

// P21.3, T4: bytes that are got are kept as they were, however they are cut, up to a thousand.
func TestDataCut(t *testing.T) {
	for _, n := range []int{0, 1, 2, 255, 256, 999, 1000} {
		whole := sample(n)
		for _, cut := range []int{1, 2, 3, 7, 100, 333, 500, 999, 1000} {
			b := begins(t, "RETR f", false, "", n%2 == 0).moving()
			for piece := range slices.Chunk(whole, cut) {
				if e := b.x.Data(piece); e != ok {
					t.Fatalf("%d by %d: %d", n, cut, e)
				}
				b.x.Data(nil)
			}
			if got := b.x.Bytes(); !bytes.Equal(got, whole) {
				t.Fatalf("%d by %d: %.99q", n, cut, got)
			}
		}
	}
}

// P21.3, R2: more than a thousand is too large, and nothing of it is kept; what has room comes in still.
func TestTooLarge(t *testing.T) {
	for _, first := range []int{0, 1, 2, 500, 997, 998, 999, 1000} {
		for more := most - first - 2; more <= most-first+2; more++ {
			if more < 0 {
				continue
			}
			b := begins(t, "RETR f", false, "", false).moving()
			if e := b.data(sample(first)); e != ok {
				t.Fatalf("%d: %d", first, e)
			}
			want, size := ok, first+more
			if size > most {
				want, size = tooLarge, first
			}
			if e := b.data(sample(more)); e != want || len(b.x.Bytes()) != size {
				t.Fatalf("%d and %d: %d, %d bytes", first, more, e, len(b.x.Bytes()))
			}
			if e := b.data(make([]byte, 1<<20)); e != tooLarge || len(b.x.Bytes()) != size {
				t.Fatalf("%d and %d, and very many: %d, %d bytes", first, more, e, len(b.x.Bytes()))
			}
			if e := b.data(sample(most - size)); e != ok || len(b.x.Bytes()) != most {
				t.Fatalf("%d and %d, and the rest: %d, %d bytes", first, more, e, len(b.x.Bytes()))
			}
			if e := b.data([]byte("x")); e != tooLarge || b.data(nil) != ok {
				t.Fatalf("%d and %d, and one too many: %d", first, more, e)
			}
			b.close()
			if b.final("226") != ok || !b.x.Done() || len(b.x.Bytes()) != most {
				t.Fatalf("%d and %d: not done", first, more)
			}
		}
	}
}

// P21.3: data are nothing when it does not move, or puts, however many they are.
func TestDataElsewhere(t *testing.T) {
	kinds(func(put, ext bool) {
		for i, at := range places(t, put, ext) {
			b := at()
			if b.m.moves && !put {
				continue
			}
			for _, n := range []int{0, 1, 1000, 1001, 1 << 16} {
				if e := b.data(sample(n)); e != ok || len(b.x.Bytes()) != 0 {
					t.Errorf("place %d: %s: %d, %d bytes", i, b.what, e, len(b.x.Bytes()))
				}
			}
		}
	})
}

// P21.3: data that come behind their end, too, are more of its bytes: it moves still.
func TestDataBehindTheirEnd(t *testing.T) {
	for _, done := range []bool{false, true} {
		b := begins(t, "RETR f", false, "", true).moving()
		b.data([]byte("a"))
		b.close()
		if done {
			b.final("226")
		}
		if e := b.data([]byte("b")); e != ok || string(b.x.Bytes()) != "ab" {
			t.Errorf("%s: %d, %q", b.what, e, b.x.Bytes())
		}
		if e := b.data(sample(999)); e != tooLarge || string(b.x.Bytes()) != "ab" || b.x.Done() != done {
			t.Errorf("%s: %d, %q", b.what, e, b.x.Bytes())
		}
	}
}

// P21.3: an end, more than one too, changes nothing but when it moves.
func TestClose(t *testing.T) {
	kinds(func(put, ext bool) {
		for i, at := range places(t, put, ext) {
			b, c := at(), at()
			b.close()
			b.close()
			if !b.m.moves && (b.x.Done() != c.x.Done() || b.x.Waits() != c.x.Waits()) {
				t.Errorf("place %d: %s", i, b.what)
			}
			if b.x.Done() && b.x.Waits() {
				t.Errorf("place %d: %s: done, and waits", i, b.what)
			}
		}
	})
	b := begins(t, "RETR f", false, "", false)
	b.close()
	b.moving()
	b.final("226")
	if b.x.Done() || !b.x.Waits() {
		t.Errorf("%s: an end of when it asked is none of the data", b.what)
	}
}

// P21.3: a reset is one when it connects or moves, and is not done; it changes nothing.
func TestReset(t *testing.T) {
	kinds(func(put, ext bool) {
		for i, at := range places(t, put, ext) {
			b := at()
			want := reset
			if !b.m.connects && !b.m.moves || b.x.Done() {
				want = ok
			}
			for range 3 {
				if e := b.reset(); e != want {
					t.Errorf("place %d: %s: %d, want %d", i, b.what, e, want)
				}
			}
		}
	})
}

// P21.3: Waits, by what is there.
func TestWaits(t *testing.T) {
	kinds(func(put, ext bool) {
		b := begins(t, "LINE", put, "pay", ext)
		var got []bool
		ask := func() { got = append(got, b.x.Waits()) }
		ask()
		b.told()
		ask()
		b.connect(false)
		ask()
		b.connect(true)
		ask()
		b.other("150")
		ask()
		b.data([]byte("d"))
		ask()
		b.final("500")
		ask()
		b.final("226")
		ask()
		b.close()
		ask()
		if want := []bool{false, true, true, false, false, false, false, !put, false}; !slices.Equal(got, want) {
			t.Errorf("%s: %v, want %v", b.what, got, want)
		}
	})
}

// P21.4: it is done when both are there, whichever came first, wherever the data are cut.
func TestWhicheverCameFirst(t *testing.T) {
	for cut := range 6 {
		for _, ext := range []bool{false, true} {
			steps := []func(b *both){
				func(b *both) { b.data([]byte("bytes")[:cut]); b.data([]byte("bytes")[cut:]); b.close() },
				func(b *both) { b.other("150"); b.final("226") },
			}
			for first := range 2 {
				b := begins(t, "RETR f", false, "", ext).moving()
				steps[first](b)
				if b.x.Done() || b.x.Waits() != (first == 1) || b.x.Reset() != reset {
					t.Fatalf("%s: Done %v, Waits %v", b.what, b.x.Done(), b.x.Waits())
				}
				steps[1-first](b)
				if !b.x.Done() || b.x.Waits() || string(b.x.Bytes()) != "bytes" || b.x.Reset() != ok {
					t.Fatalf("%s: Done %v, Waits %v, %q", b.what, b.x.Done(), b.x.Waits(), b.x.Bytes())
				}
			}
			b := begins(t, "STOR f", true, "pay", ext).moving()
			b.close()
			b.other("150")
			if b.x.Done() {
				t.Fatalf("%s: done", b.what)
			}
			b.final("226")
			if !b.x.Done() {
				t.Fatalf("%s: not done", b.what)
			}
		}
	}
}

// steps are calls of all kinds.
var steps = []func(b *both){
	func(b *both) { b.reply(api.Reply{Code: "227", Lines: []string{"x", where[false]}}, true) },
	func(b *both) { b.reply(api.Reply{Code: "229", Lines: []string{"x", where[true]}}, true) },
	func(b *both) { b.reply(api.Reply{Code: right[b.m.ext], Lines: []string{where[b.m.ext], "x"}}, true) },
	func(b *both) { b.reply(api.Reply{Code: "227", Lines: []string{where[false]}}, false) },
	func(b *both) { b.final("226") },
	func(b *both) { b.final("500") },
	func(b *both) { b.final("150") },
	func(b *both) { b.other("150") },
	func(b *both) { b.other("226") },
	func(b *both) { b.connect(true) },
	func(b *both) { b.connect(false) },
	func(b *both) { b.data([]byte("ab")) },
	func(b *both) { b.data(make([]byte, 999)) },
	func(b *both) { b.close() },
	func(b *both) { b.reset() },
}

// P21.1 to P21.4: all short rows of calls, at each place.
func TestAllShortRows(t *testing.T) {
	kinds(func(put, ext bool) {
		for _, at := range places(t, put, ext) {
			for i := range len(steps) * len(steps) * len(steps) {
				b := at()
				for row, n := i, 0; n < 3; n++ {
					steps[row%len(steps)](b)
					row /= len(steps)
				}
			}
		}
	})
}

// R6: long rows, of two transfers in turn, which know nothing of each other.
func TestLongRows(t *testing.T) {
	for seed := range uint32(400) {
		x := seed*2654435761 + 1
		bs := []*both{begins(t, "ONE", seed&1 == 0, "pay", seed&2 == 0), begins(t, "TWO", seed&4 == 0, "other", seed&8 == 0)}
		for range 100 {
			x = x*1664525 + 1013904223
			k := x >> 9 & 1
			b := bs[k]
			if len(b.what) > 2000 {
				b.what = "..."
			}
			steps[int(x>>16)%len(steps)](b)
			bs[1-k].stands()
		}
	}
}

// R7: what is handed in is neither changed nor kept, nor the room behind its end.
func TestGivenIsLeft(t *testing.T) {
	kinds(func(put, ext bool) {
		room := []byte("payload and more")
		twin := bytes.Clone(room)
		x, _ := xfer.New("LINE", put, room[:7], ext)
		if !bytes.Equal(room, twin) {
			t.Fatalf("New changed %q", room)
		}
		for i := range room {
			room[i] = '!'
		}
		lines := []string{"x", where[ext], "behind", "me"}
		linesTwin := slices.Clone(lines)
		r := api.Reply{Code: right[ext], Lines: lines[:2], Body: []byte("body")}
		x.Reply(r, false)
		x.Reply(r, true)
		if !slices.Equal(lines, linesTwin) || len(r.Lines) != 2 || string(r.Body) != "body" {
			t.Fatalf("Reply changed %q", r)
		}
		for i := range lines {
			lines[i] = "spoilt"
		}
		x.Connect(true)
		a, _ := x.Reply(api.Reply{Code: "150"}, false)
		want := ""
		if put {
			want = "payload"
		}
		if string(a.Write) != want {
			t.Fatalf("Write = %q, want %q", a.Write, want)
		}
		for i := range 3 {
			d := []byte("data and more")
			x.Data(d[:4])
			if string(d) != "data and more" {
				t.Fatalf("Data changed %q", d)
			}
			for j := range d {
				d[j] = '!'
			}
			want := strings.Repeat("data", i+1)
			if put {
				want = ""
			}
			if got := x.Bytes(); string(got) != want {
				t.Fatalf("Bytes = %q, want %q", got, want)
			}
		}
	})
}

// R7: what is answered is the caller's own, with its spare room: what he does to it shows nowhere.
func TestAnswersAreOnesOwn(t *testing.T) {
	spoil := func(b []byte) {
		b = b[:cap(b)]
		for i := range b {
			b[i] = '!'
		}
	}
	for n := range 40 {
		x, _ := xfer.New("RETR f", false, nil, false)
		x.Reply(api.Reply{Code: "227", Lines: []string{where[false]}}, true)
		x.Connect(true)
		var want []byte
		for i := range n {
			d := sample(i)
			x.Data(d)
			want = append(want, d...)
			spoil(x.Bytes())
			if got := x.Bytes(); !bytes.Equal(got, want) {
				t.Fatalf("Bytes = %.99q, want %.99q", got, want)
			}
		}
		one, other := x.Bytes(), x.Bytes()
		spoil(one)
		if !bytes.Equal(other, want) {
			t.Fatalf("%d: two answers are one", n)
		}
		held := x.Bytes()
		x.Data([]byte("more"))
		if !bytes.Equal(held, want) {
			t.Fatalf("%d: an answer goes on", n)
		}
	}
	payload := append(make([]byte, 0, 99), "pay"...)
	x, _ := xfer.New("STOR f", true, payload, false)
	y, _ := xfer.New("STOR f", true, payload, false)
	for i, z := range []*xfer.Xfer{x, y} {
		z.Reply(api.Reply{Code: "227", Lines: []string{where[false]}}, true)
		z.Connect(true)
		a, e := z.Reply(api.Reply{Code: "150"}, false)
		if string(a.Write) != "pay" || e != ok {
			t.Fatalf("the %d-th writes %q", i, a.Write)
		}
		spoil(a.Write)
		if string(payload[:99]) != "pay"+strings.Repeat("\x00", 96) {
			t.Fatalf("what is handed in is handed out: %q", payload[:99])
		}
	}
}

// R1: very many calls, of each kind, end.
func TestVeryLong(t *testing.T) {
	for _, put := range []bool{false, true} {
		b := begins(t, "LINE", put, "pay", false).moving()
		wrote := 0
		for range 1 << 16 {
			a, _ := b.x.Reply(api.Reply{Code: "150"}, false)
			if a.End {
				wrote++
			}
			b.x.Data([]byte("d"))
			b.x.Connect(false)
			b.x.Reset()
			b.x.Reply(api.Reply{Code: "400"}, true)
		}
		if put && (wrote != 1 || len(b.x.Bytes()) != 0) || !put && (wrote != 0 || len(b.x.Bytes()) != most) || b.x.Done() {
			t.Errorf("put %v: wrote %d times, %d bytes", put, wrote, len(b.x.Bytes()))
		}
	}
}
